/- The walk over winepresslaw04.CrcParts. -/
import Derived.Test.YtpodepplfhjdfaaCrcLS
import Derived.Test.YtpodepplfhjdfaaHeld
import Derived.IntWalk
set_option linter.unusedVariables false
set_option linter.unusedSimpArgs false
namespace Go.Proofs.Ytpodepplfhjdfaa
open Go.RowKit

theorem parts_out (c : Nat) (a0 : Option Addr) (n cap0 : Nat) (at_ : Int) (w : World) (h : 600 < n) (h63 : n ≤ 9223372036854775807) :
    Calls Try.prog 4 #[.int .u32 c, .slice a0 n cap0, .int .i64 at_] w fun e w' => e = .returned (.bool true) ∧ Below w.heap.size w w' := by
  have d1 : decide ((600 : Int) < (n : Int)) = true := by simp; omega
  go_enter Try.func4, Try.ntmps4
  go_wp2_with fail
  refine (wakes_call w).mono ?_
  rintro e w1 ⟨rfl, hb⟩
  go_wp2
  go_ret
  exact ⟨rfl, hb⟩

/-- Feed at one slice, its list made by the call. -/
theorem feed_new (c : Nat) (hc : c < 4294967296) (w : World) (d : Chk) (hok : OkC w d) :
    Calls Try.prog 18 #[.int .u32 c, .slice (some ⟨w.heap.size, 0, none⟩) 1 1] (w.alloc (.cells #[.slice d.a d.len d.cap] 24)) fun e w' => e = .returned (.int .u32 (crcFeed c d.bs)) ∧ Below w.heap.size w w' := by
  have hb := (Below.refl _ w).alloc (Nat.le_refl _) (.cells #[.slice d.a d.len d.cap] 24)
  refine (feed_call c hc _ (some ⟨w.heap.size, 0, none⟩) 1 1 [d] rfl (CSrc.one (heap_alloc_last w _)) (by simpa using hok.below hb) (by omega)).mono ?_
  rintro e w' ⟨rfl, h⟩
  exact ⟨by rw [joinC_one], hb.trans (h.mono (by simp))⟩
theorem feed_part (c : Nat) (hc : c < 4294967296) (w : World) (g : Nat) (d : Chk) (hg : w.heap[g]? = some (.cells #[.slice d.a d.len d.cap] 24 (0, 0))) (hok : OkC w d) :
    Calls Try.prog 18 #[.int .u32 c, .slice (some ⟨g, 0, none⟩) 1 1] w fun e w' => e = .returned (.int .u32 (crcFeed c d.bs)) ∧ Below w.heap.size w w' := by
  have := feed_call c hc w (some ⟨g, 0, none⟩) 1 1 [d] rfl (CSrc.one hg) (by simpa using hok) (by omega)
  rwa [joinC_one] at this
theorem feed_three (c : Nat) (hc : c < 4294967296) (w : World) (g : Nat) (d f : Chk) (hg : w.heap[g]? = some (.cells #[.slice d.a d.len d.cap, .slice none 0 0, .slice f.a f.len f.cap] 24 (0, 0))) (hok : OkC w d) (hok2 : OkC w f) :
    Calls Try.prog 18 #[.int .u32 c, .slice (some ⟨g, 0, none⟩) 3 3] w fun e w' => e = .returned (.int .u32 (crcFeed c (d.bs ++ f.bs))) ∧ Below w.heap.size w w' := by
  have := feed_call c hc w (some ⟨g, 0, none⟩) 3 3 [d, ⟨none, 0, 0, []⟩, f] rfl (CSrc.three (e := ⟨none, 0, 0, []⟩) hg) (fun x hx => by
    simp only [List.mem_cons, List.not_mem_nil, or_false] at hx
    rcases hx with rfl | rfl | rfl
    · exact hok
    · exact OkC.nil w
    · exact hok2) (by omega)
  rwa [show joinC [d, ⟨none, 0, 0, []⟩, f] = d.bs ++ f.bs by simp [joinC]] at this
/-- A slice of three slices, made by the call. -/
def ThreeP (x y z v : Value) (w : World) : Prop := ∃ g, v = .slice (some ⟨g, 0, none⟩) 3 3 ∧ w.heap[g]? = some (.cells #[x, y, z] 24 (0, 0))
theorem ThreeP.monoV (x y z : Value) : MonoV (ThreeP x y z) := fun _ _ _ ⟨g, h1, h2⟩ hb => ⟨g, h1, heap_on hb h2⟩
/-- The rest of a slice. -/
def restA (a : Option Addr) (cap A : Nat) : Option Addr := if cap = A then a else Option.map (fun x => x.add A) a
theorem restA_src {w : World} {a : Option Addr} {l : List Int} {n cap A : Nat} (hl : l.length = n) (h : Src w .u8 a l) (hA : A ≤ n) (hc : n ≤ cap) : Src w .u8 (restA a cap A) (l.drop A) := by
  unfold restA
  by_cases e : cap = A
  · rw [if_pos e]
    exact .inl (List.drop_eq_nil_of_le (by omega))
  · rw [if_neg e]
    rcases h with rfl | ⟨g, o, rfl, hcl⟩
    · exact .inl (by simp)
    · rw [Option.map_some, add_lit]
      exact Src.drop (.inr ⟨g, o, rfl, hcl⟩) A
def partJ (c : Nat) (a0 : Option Addr) (n cap0 A F F1 G : Nat) : List (Value → World → Prop) :=
  [eqv (.int .u32 c), eqv (.slice a0 n cap0), eqv (.int .i64 A), eqv (.slice a0 A cap0), eqv (.slice a0 n cap0), eqv (.int .i64 A), eqv (.slice (restA a0 cap0 A) (n - A) (cap0 - A)),
   ThreeP (.slice a0 A cap0) (.slice none 0 0) (.slice (restA a0 cap0 A) (n - A) (cap0 - A)), eqv (.int .u32 F), eqv (.int .u32 F), eqv (.bool true), eqv (.bool true),
   eqv (.int .u32 c), eqv (.slice a0 n cap0), eqv (.int .i64 A), eqv (.slice a0 A cap0), OneP (.slice a0 A cap0), eqv (.int .u32 F1),
   eqv (.slice a0 n cap0), eqv (.int .i64 A), eqv (.slice (restA a0 cap0 A) (n - A) (cap0 - A)), OneP (.slice (restA a0 cap0 A) (n - A) (cap0 - A)), eqv (.int .u32 F), eqv (.int .u32 F), eqv (.bool true), eqv (.bool true), eqv (.bool true),
   eqv (.int .u32 F), eqv (.int .u32 F), eqv (.bool true), eqv (.bool true), eqv (.bool true), eqv (.int .u32 G), eqv (.int .u32 F), eqv (.int .u32 G), eqv (.bool true), eqv (.bool true), eqv (.bool true), eqv (.bool true), eqv (.bool true), eqv (.bool true)]
theorem partJ_mono {c : Nat} {a0 : Option Addr} {n cap0 A F F1 G : Nat} : MonoAll (partJ c a0 n cap0 A F F1 G) := by
  repeat first | exact trivial | refine ⟨eqv_mono _, ?_⟩ | refine ⟨OneP.monoV _, ?_⟩ | refine ⟨ThreeP.monoV _ _ _, ?_⟩

set_option maxRecDepth 100000 in
set_option maxHeartbeats 4000000 in
theorem parts_in (c : Nat) (hc : c < 4294967296) (a0 : Option Addr) (n cap0 : Nat) (at_ : Int) (w : World) (l : List Int)
    (hl : l.length = n) (hs : Src w .u8 a0 l) (hby : Byts l) (hn : n ≤ 600) (hlc : n ≤ cap0) (hcm : cap0 ≤ maxLen) (A : Nat) (hA : (A : Int) = min (max at_ 0) n) :
    Calls Try.prog 4 #[.int .u32 c, .slice a0 n cap0, .int .i64 at_] w fun e w' => e = .returned (.bool true) ∧ Below w.heap.size w w' := by
  have d1 : decide ((600 : Int) < (n : Int)) = false := by simp; omega
  have hAn : A ≤ n := by omega
  have HA := Lib.hid hA
  have HL := Lib.hid hl
  have HS := Lib.hid hs
  have HY := Lib.hid hby
  have hc63 : cap0 ≤ 9223372036854775807 := by unfold maxLen at hcm; omega
  have hX := xor32_row c 4294967295 hc (by omega)
  have hX' : bits .xor .u32 (c : Int) 4294967295 = ((c ^^^ 4294967295 : Nat) : Int) := hX
  have hr0 := xor_lt32 hc (show 4294967295 < 4294967296 by omega)
  clear hl hs hby hA hX
  go_enter Try.func4, Try.ntmps4
  go_upto_region 3 with fail
  go_cut [2] (fun s wx => s = .int .i64 A ∧ wx = w)
  case first =>
    go_wp2
    all_goals go_meet
    all_goals
      refine ⟨?_, rfl⟩
      congr 1
      have := HA.out
      omega
  case rest =>
    obtain ⟨rfl, hwc⟩ := hcut
    obtain rfl : w = wc := hwc.symm
    go_wp2_with fail
    refine (feed_new c hc w ⟨a0, n, cap0, l⟩ ⟨HL.out, HS.out, HY.out, hlc, hcm⟩).mono ?_
    rintro e w1 ⟨rfl, hb1⟩
    have HB1 := Lib.hid hb1
    obtain ⟨F, hF⟩ : ∃ F, F = crcFeed c l := ⟨_, rfl⟩
    have HF := Lib.hid hF
    dsimp only
    rw [← hF]
    obtain ⟨r0, hr0e⟩ : ∃ r, r = c ^^^ 4294967295 := ⟨_, rfl⟩
    have HR := Lib.hid hr0e
    rw [← hr0e] at hX' hr0
    clear hb1 hF hr0e
    go_wp2_with fail
    go_loopw [8, 9, 10] (fun x y i wr => ∃ k : Nat, k ≤ n ∧ i = .int .i64 k ∧ x = .int .u32 (crcFeed c (l.take k) : Nat) ∧ y = .int .u32 (crcFold r0 (l.take k) : Nat) ∧ Below w.heap.size w wr) (fun _ _ i _ => n - (intOf i).toNat)
    case atStart => exact ⟨0, by omega, rfl, by rw [List.take_zero, crcFeed_nil], rfl, HB1.out⟩
    case round =>
      obtain ⟨k, hk, rfl, rfl, rfl, hB⟩ := hrel
      have HB := Lib.hid hB
      clear hB
      by_cases hlt : k < n
      · have hkl : k < l.length := by rw [HL.out]; exact hlt
        have htk : l.take (k + 1) = l.take k ++ [l[k]] := List.take_succ_eq_append_getElem hkl
        have hv1 := crcFeed_lt hc (l.take k) (HY.out.take k)
        have hv2 := crcFold_lt hr0 (l.take k) (HY.out.take k)
        have hxb := HY.out _ (List.getElem_mem hkl)
        have hsr := HS.out.below HB.out
        rcases hsr with hnil | ⟨g, o, rfl, hcl⟩
        · rw [hnil] at hkl
          simp at hkl
        have hck := hcl k hkl
        obtain ⟨X, hX⟩ := Int.eq_ofNat_of_zero_le hxb.1
        rw [show l.getD k 0 = l[k] by simp [List.getD_eq_getElem?_getD, hkl], hX] at hck
        rw [hX] at htk hxb
        have hsrc : Src wr .u8 (some ⟨g, o + k, none⟩) [(X : Int)] := .inr ⟨g, o + k, rfl, fun j hj => by
          obtain rfl : j = 0 := by simpa using hj
          exact hck⟩
        have H1 := Lib.hid (show crcFeed c (l.take (k + 1)) = crcFeed (crcFeed c (l.take k)) [(X : Int)] by rw [htk, crcFeed_append])
        have H2 := Lib.hid (show crcFold r0 (l.take (k + 1)) = crcStep (crcFold r0 (l.take k)) X by rw [htk, crcFold_snoc]; rfl)
        have OK := Lib.hid (show OkC wr ⟨some ⟨g, o + k, none⟩, 1, cap0 - k, [(X : Int)]⟩ from ⟨rfl, hsrc, fun x hx => by simp at hx; omega, by show 1 ≤ cap0 - k; omega, by show cap0 - k ≤ maxLen; omega⟩)
        obtain ⟨v1, hv1e⟩ : ∃ v, v = crcFeed c (l.take k) := ⟨_, rfl⟩
        obtain ⟨v2, hv2e⟩ : ∃ v, v = crcFold r0 (l.take k) := ⟨_, rfl⟩
        rw [← hv1e] at hv1 H1 ⊢
        rw [← hv2e] at hv2 H2 ⊢
        have hcap : ¬ cap0 = k := by omega
        have hle1 : k + 1 ≤ cap0 := by omega
        have hX8 : X < 256 := by omega
        have hkw : IntKind.i64.wrap ((k : Int) + 1) = (k : Int) + 1 := IntWalk.i64_in _ (by omega)
        have hkt : ((k : Int) + 1).toNat = k + 1 := by omega
        clear hcl htk hX hsrc hv1e hv2e hxb
        have HCK := Lib.hid hck
        go_wp2_with fail
        refine (feed_new v1 hv1 wr _ OK.out).mono ?_
        rintro e w3 ⟨rfl, hb3⟩
        dsimp only
        rw [← H1.out]
        have hck3 : w3.cell? ⟨g, o + k, none⟩ = some (.int .u8 X) := cell_on hb3 HCK.out
        have HB3 := Lib.hid (HB.out.trans (hb3.mono HB.out.size))
        clear hb3
        go_wp2_with fail
        refine (step_call v2 X hv2 hX8 w3).mono ?_
        rintro e w4 ⟨rfl, rfl⟩
        rw [← H2.out]
        go_wp2_with fail
        go_roundw
        case rel => exact ⟨k + 1, by omega, by go_num, rfl, rfl, HB3.out⟩
        case measure => simp [intOf]; omega
      · obtain rfl : k = n := by omega
        rw [List.take_of_length_le (by rw [HL.out]; exact Nat.le_refl _), ← HF.out]
        have OKA := Lib.hid (okPart (n := A) HL.out HS.out HY.out HB.out hAn hlc hcm)
        have OKR := Lib.hid (show ∀ W, Below wr.heap.size wr W → OkC W ⟨restA a0 cap0 A, k - A, cap0 - A, l.drop A⟩ from fun W h =>
          ⟨by simp [HL.out], restA_src HL.out ((HS.out.below HB.out).below h) hAn hlc, HY.out.drop A, by show k - A ≤ cap0 - A; omega, by show cap0 - A ≤ maxLen; omega⟩)
        have HFA := Lib.hid (show crcFeed c (l.take A ++ l.drop A) = F by rw [List.take_append_drop]; exact HF.out.symm)
        have hF1 := crcFeed_lt hc (l.take A) (HY.out.take A)
        obtain ⟨F1, hF1e⟩ : ∃ F, crcFeed c (l.take A) = F := ⟨_, rfl⟩
        rw [hF1e] at hF1
        have HF1 := Lib.hid hF1e
        have HF2 := Lib.hid (show crcFeed F1 (l.drop A) = F by rw [← hF1e, ← crcFeed_append]; exact HFA.out)
        have hFl := crcFeed_lt hc l HY.out
        rw [← HF.out] at hFl
        have hG : F ^^^ 4294967295 = crcFold r0 l := by
          rw [HF.out, crcFeed, xor_ones2, ← HR.out]
        obtain ⟨G, hGe⟩ : ∃ G, G = crcFold r0 l := ⟨_, rfl⟩
        rw [← hGe] at hG ⊢
        have HXG := Lib.hid (show bits .xor .u32 (F : Int) 4294967295 = (G : Int) from (xor32_row F 4294967295 hFl (by omega)).trans (by rw [hG]))
        have hA0 : A ≤ cap0 := by omega
        clear hF1e hG hGe hX'
        go_wp2_with fail
        -- REGION
        refine wp_region_inv (J := Js (partJ c a0 k cap0 A F F1 G)) (ds := [47, 48, 49, 50, 51, 52, 53, 54, 55, 56, 57, 58, 59, 60, 61, 62, 63, 64, 65, 66, 67, 68, 69, 70, 71, 72, 73, 74, 75, 76, 77, 78, 79, 80, 81, 82, 83, 84, 85, 86, 6]) (N := 87)
          (B := [(0, .int .u32 c), (1, .slice a0 k cap0), (2, .int .i64 A), (7, .int .u32 F), (8, .int .u32 F), (9, .int .u32 G)]) (by kernel_rfl) (by kernel_rfl) (Js_mono partJ_mono) rfl rfl (by simp) ?_ ?_
        · refine ⟨?_, ?_, ?_, ?_, ?_, ?_, ?_, ?_, ?_, ?_, ?_, ?_, ?_, ?_, ?_, ?_, ?_, ?_, ?_, ?_, ?_, ?_, ?_, ?_, ?_, ?_, ?_, ?_, ?_, ?_, ?_, ?_, ?_, ?_, ?_, ?_, ?_, ?_, ?_, ?_, ?_, trivial⟩
          · intro a w' hb hdep K hK
            have c0 := hb.at 0 0 _ rfl
            clear hdep
            go_simp
            exact hK _ _ rfl (Below.refl _ _)
          · intro a w' hb hdep K hK
            have c1 := hb.at 1 1 _ rfl
            clear hdep
            go_simp
            exact hK _ _ rfl (Below.refl _ _)
          · intro a w' hb hdep K hK
            have c2 := hb.at 2 2 _ rfl
            clear hdep
            go_simp
            exact hK _ _ rfl (Below.refl _ _)
          · intro a w' hb hdep K hK
            obtain ⟨v1, e1, j1⟩ := hdep 1 (by kernel_rfl)
            replace e1 : a.tmps[48]? = some v1 := e1
            obtain rfl : v1 = _ := j1
            obtain ⟨v2, e2, j2⟩ := hdep 2 (by kernel_rfl)
            replace e2 : a.tmps[49]? = some v2 := e2
            obtain rfl : v2 = _ := j2
            clear hdep
            go_simp
            exact hK _ _ rfl (Below.refl _ _)
          · intro a w' hb hdep K hK
            have c1 := hb.at 1 1 _ rfl
            clear hdep
            go_simp
            exact hK _ _ rfl (Below.refl _ _)
          · intro a w' hb hdep K hK
            have c2 := hb.at 2 2 _ rfl
            clear hdep
            go_simp
            exact hK _ _ rfl (Below.refl _ _)
          · intro a w' hb hdep K hK
            obtain ⟨v4, e4, j4⟩ := hdep 4 (by kernel_rfl)
            replace e4 : a.tmps[51]? = some v4 := e4
            obtain rfl : v4 = _ := j4
            obtain ⟨v5, e5, j5⟩ := hdep 5 (by kernel_rfl)
            replace e5 : a.tmps[52]? = some v5 := e5
            obtain rfl : v5 = _ := j5
            clear hdep
            go_simp
            exact hK _ _ rfl (Below.refl _ _)
          · intro a w' hb hdep K hK
            obtain ⟨v3, e3, j3⟩ := hdep 3 (by kernel_rfl)
            replace e3 : a.tmps[50]? = some v3 := e3
            obtain rfl : v3 = _ := j3
            obtain ⟨v6, e6, j6⟩ := hdep 6 (by kernel_rfl)
            replace e6 : a.tmps[53]? = some v6 := e6
            obtain rfl : v6 = _ := j6
            clear hdep
            go_simp
            exact hK _ _ ⟨_, rfl, heap_alloc_last w' _⟩ ((Below.refl _ _).alloc (Nat.le_refl _) _)
          · intro a w' hb hdep K hK
            obtain ⟨v0, e0, j0⟩ := hdep 0 (by kernel_rfl)
            replace e0 : a.tmps[47]? = some v0 := e0
            obtain rfl : v0 = _ := j0
            obtain ⟨v7, e7, j7⟩ := hdep 7 (by kernel_rfl)
            replace e7 : a.tmps[54]? = some v7 := e7
            clear hdep
            obtain ⟨g, rfl, hg⟩ := j7
            have HG := Lib.hid hg
            clear hg
            go_simp
            go_at_call 18
            refine (feed_three c hc w' g ⟨a0, A, cap0, l.take A⟩ ⟨restA a0 cap0 A, k - A, cap0 - A, l.drop A⟩ HG.out (OKA.out _ hb.bel) (OKR.out _ hb.bel)).mono ?_
            rintro e w2 ⟨rfl, hb2⟩
            dsimp only
            rw [HFA.out]
            exact hK _ _ rfl hb2
          · intro a w' hb hdep K hK
            have c7 := hb.at 3 7 _ rfl
            clear hdep
            go_simp
            exact hK _ _ rfl (Below.refl _ _)
          · intro a w' hb hdep K hK
            obtain ⟨v8, e8, j8⟩ := hdep 8 (by kernel_rfl)
            replace e8 : a.tmps[55]? = some v8 := e8
            obtain rfl : v8 = _ := j8
            obtain ⟨v9, e9, j9⟩ := hdep 9 (by kernel_rfl)
            replace e9 : a.tmps[56]? = some v9 := e9
            obtain rfl : v9 = _ := j9
            clear hdep
            go_simp
            exact hK _ _ rfl (Below.refl _ _)
          · intro a w' hb hdep K hK
            obtain ⟨v10, e10, j10⟩ := hdep 10 (by kernel_rfl)
            replace e10 : a.tmps[57]? = some v10 := e10
            obtain rfl : v10 = _ := j10
            clear hdep
            go_simp
            exact hK _ _ rfl (Below.refl _ _)
          · intro a w' hb hdep K hK
            have c0 := hb.at 0 0 _ rfl
            obtain ⟨v11, e11, j11⟩ := hdep 11 (by kernel_rfl)
            replace e11 : a.tmps[58]? = some v11 := e11
            obtain rfl : v11 = _ := j11
            clear hdep
            go_simp
            exact hK _ _ rfl (Below.refl _ _)
          · intro a w' hb hdep K hK
            have c1 := hb.at 1 1 _ rfl
            obtain ⟨v11, e11, j11⟩ := hdep 11 (by kernel_rfl)
            replace e11 : a.tmps[58]? = some v11 := e11
            obtain rfl : v11 = _ := j11
            clear hdep
            go_simp
            exact hK _ _ rfl (Below.refl _ _)
          · intro a w' hb hdep K hK
            have c2 := hb.at 2 2 _ rfl
            obtain ⟨v11, e11, j11⟩ := hdep 11 (by kernel_rfl)
            replace e11 : a.tmps[58]? = some v11 := e11
            obtain rfl : v11 = _ := j11
            clear hdep
            go_simp
            exact hK _ _ rfl (Below.refl _ _)
          · intro a w' hb hdep K hK
            obtain ⟨v13, e13, j13⟩ := hdep 13 (by kernel_rfl)
            replace e13 : a.tmps[60]? = some v13 := e13
            obtain rfl : v13 = _ := j13
            obtain ⟨v14, e14, j14⟩ := hdep 14 (by kernel_rfl)
            replace e14 : a.tmps[61]? = some v14 := e14
            obtain rfl : v14 = _ := j14
            obtain ⟨v11, e11, j11⟩ := hdep 11 (by kernel_rfl)
            replace e11 : a.tmps[58]? = some v11 := e11
            obtain rfl : v11 = _ := j11
            clear hdep
            go_simp
            exact hK _ _ rfl (Below.refl _ _)
          · intro a w' hb hdep K hK
            obtain ⟨v15, e15, j15⟩ := hdep 15 (by kernel_rfl)
            replace e15 : a.tmps[62]? = some v15 := e15
            obtain rfl : v15 = _ := j15
            obtain ⟨v11, e11, j11⟩ := hdep 11 (by kernel_rfl)
            replace e11 : a.tmps[58]? = some v11 := e11
            obtain rfl : v11 = _ := j11
            clear hdep
            go_simp
            exact hK _ _ ⟨_, rfl, heap_alloc_last w' _⟩ ((Below.refl _ _).alloc (Nat.le_refl _) _)
          · intro a w' hb hdep K hK
            obtain ⟨v12, e12, j12⟩ := hdep 12 (by kernel_rfl)
            replace e12 : a.tmps[59]? = some v12 := e12
            obtain rfl : v12 = _ := j12
            obtain ⟨v16, e16, j16⟩ := hdep 16 (by kernel_rfl)
            replace e16 : a.tmps[63]? = some v16 := e16
            obtain ⟨v11, e11, j11⟩ := hdep 11 (by kernel_rfl)
            replace e11 : a.tmps[58]? = some v11 := e11
            obtain rfl : v11 = _ := j11
            clear hdep
            obtain ⟨g, rfl, hg⟩ := j16
            have HG := Lib.hid hg
            clear hg
            go_simp
            go_at_call 18
            refine (feed_part c hc w' g ⟨a0, A, cap0, l.take A⟩ HG.out (OKA.out _ hb.bel)).mono ?_
            rintro e w2 ⟨rfl, hb2⟩
            dsimp only
            rw [HF1.out]
            exact hK _ _ rfl hb2
          · intro a w' hb hdep K hK
            have c1 := hb.at 1 1 _ rfl
            obtain ⟨v11, e11, j11⟩ := hdep 11 (by kernel_rfl)
            replace e11 : a.tmps[58]? = some v11 := e11
            obtain rfl : v11 = _ := j11
            clear hdep
            go_simp
            exact hK _ _ rfl (Below.refl _ _)
          · intro a w' hb hdep K hK
            have c2 := hb.at 2 2 _ rfl
            obtain ⟨v11, e11, j11⟩ := hdep 11 (by kernel_rfl)
            replace e11 : a.tmps[58]? = some v11 := e11
            obtain rfl : v11 = _ := j11
            clear hdep
            go_simp
            exact hK _ _ rfl (Below.refl _ _)
          · intro a w' hb hdep K hK
            obtain ⟨v18, e18, j18⟩ := hdep 18 (by kernel_rfl)
            replace e18 : a.tmps[65]? = some v18 := e18
            obtain rfl : v18 = _ := j18
            obtain ⟨v19, e19, j19⟩ := hdep 19 (by kernel_rfl)
            replace e19 : a.tmps[66]? = some v19 := e19
            obtain rfl : v19 = _ := j19
            obtain ⟨v11, e11, j11⟩ := hdep 11 (by kernel_rfl)
            replace e11 : a.tmps[58]? = some v11 := e11
            obtain rfl : v11 = _ := j11
            clear hdep
            go_simp
            exact hK _ _ rfl (Below.refl _ _)
          · intro a w' hb hdep K hK
            obtain ⟨v20, e20, j20⟩ := hdep 20 (by kernel_rfl)
            replace e20 : a.tmps[67]? = some v20 := e20
            obtain rfl : v20 = _ := j20
            obtain ⟨v11, e11, j11⟩ := hdep 11 (by kernel_rfl)
            replace e11 : a.tmps[58]? = some v11 := e11
            obtain rfl : v11 = _ := j11
            clear hdep
            go_simp
            exact hK _ _ ⟨_, rfl, heap_alloc_last w' _⟩ ((Below.refl _ _).alloc (Nat.le_refl _) _)
          · intro a w' hb hdep K hK
            obtain ⟨v17, e17, j17⟩ := hdep 17 (by kernel_rfl)
            replace e17 : a.tmps[64]? = some v17 := e17
            obtain rfl : v17 = _ := j17
            obtain ⟨v21, e21, j21⟩ := hdep 21 (by kernel_rfl)
            replace e21 : a.tmps[68]? = some v21 := e21
            obtain ⟨v11, e11, j11⟩ := hdep 11 (by kernel_rfl)
            replace e11 : a.tmps[58]? = some v11 := e11
            obtain rfl : v11 = _ := j11
            clear hdep
            obtain ⟨g, rfl, hg⟩ := j21
            have HG := Lib.hid hg
            clear hg
            go_simp
            go_at_call 18
            refine (feed_part F1 hF1 w' g ⟨restA a0 cap0 A, k - A, cap0 - A, l.drop A⟩ HG.out (OKR.out _ hb.bel)).mono ?_
            rintro e w2 ⟨rfl, hb2⟩
            dsimp only
            rw [HF2.out]
            exact hK _ _ rfl hb2
          · intro a w' hb hdep K hK
            have c7 := hb.at 3 7 _ rfl
            obtain ⟨v11, e11, j11⟩ := hdep 11 (by kernel_rfl)
            replace e11 : a.tmps[58]? = some v11 := e11
            obtain rfl : v11 = _ := j11
            clear hdep
            go_simp
            exact hK _ _ rfl (Below.refl _ _)
          · intro a w' hb hdep K hK
            obtain ⟨v22, e22, j22⟩ := hdep 22 (by kernel_rfl)
            replace e22 : a.tmps[69]? = some v22 := e22
            obtain rfl : v22 = _ := j22
            obtain ⟨v23, e23, j23⟩ := hdep 23 (by kernel_rfl)
            replace e23 : a.tmps[70]? = some v23 := e23
            obtain rfl : v23 = _ := j23
            obtain ⟨v11, e11, j11⟩ := hdep 11 (by kernel_rfl)
            replace e11 : a.tmps[58]? = some v11 := e11
            obtain rfl : v11 = _ := j11
            clear hdep
            go_simp
            exact hK _ _ rfl (Below.refl _ _)
          · intro a w' hb hdep K hK
            obtain ⟨v11, e11, j11⟩ := hdep 11 (by kernel_rfl)
            replace e11 : a.tmps[58]? = some v11 := e11
            obtain rfl : v11 = _ := j11
            obtain ⟨v24, e24, j24⟩ := hdep 24 (by kernel_rfl)
            replace e24 : a.tmps[71]? = some v24 := e24
            obtain rfl : v24 = _ := j24
            clear hdep
            go_simp
            exact hK _ _ rfl (Below.refl _ _)
          · intro a w' hb hdep K hK
            obtain ⟨v25, e25, j25⟩ := hdep 25 (by kernel_rfl)
            replace e25 : a.tmps[72]? = some v25 := e25
            obtain rfl : v25 = _ := j25
            clear hdep
            go_simp
            exact hK _ _ rfl (Below.refl _ _)
          · intro a w' hb hdep K hK
            have c8 := hb.at 4 8 _ rfl
            obtain ⟨v26, e26, j26⟩ := hdep 26 (by kernel_rfl)
            replace e26 : a.tmps[73]? = some v26 := e26
            obtain rfl : v26 = _ := j26
            clear hdep
            go_simp
            exact hK _ _ rfl (Below.refl _ _)
          · intro a w' hb hdep K hK
            have c7 := hb.at 3 7 _ rfl
            obtain ⟨v26, e26, j26⟩ := hdep 26 (by kernel_rfl)
            replace e26 : a.tmps[73]? = some v26 := e26
            obtain rfl : v26 = _ := j26
            clear hdep
            go_simp
            exact hK _ _ rfl (Below.refl _ _)
          · intro a w' hb hdep K hK
            obtain ⟨v27, e27, j27⟩ := hdep 27 (by kernel_rfl)
            replace e27 : a.tmps[74]? = some v27 := e27
            obtain rfl : v27 = _ := j27
            obtain ⟨v28, e28, j28⟩ := hdep 28 (by kernel_rfl)
            replace e28 : a.tmps[75]? = some v28 := e28
            obtain rfl : v28 = _ := j28
            obtain ⟨v26, e26, j26⟩ := hdep 26 (by kernel_rfl)
            replace e26 : a.tmps[73]? = some v26 := e26
            obtain rfl : v26 = _ := j26
            clear hdep
            go_simp
            exact hK _ _ rfl (Below.refl _ _)
          · intro a w' hb hdep K hK
            obtain ⟨v26, e26, j26⟩ := hdep 26 (by kernel_rfl)
            replace e26 : a.tmps[73]? = some v26 := e26
            obtain rfl : v26 = _ := j26
            obtain ⟨v29, e29, j29⟩ := hdep 29 (by kernel_rfl)
            replace e29 : a.tmps[76]? = some v29 := e29
            obtain rfl : v29 = _ := j29
            clear hdep
            go_simp
            exact hK _ _ rfl (Below.refl _ _)
          · intro a w' hb hdep K hK
            obtain ⟨v30, e30, j30⟩ := hdep 30 (by kernel_rfl)
            replace e30 : a.tmps[77]? = some v30 := e30
            obtain rfl : v30 = _ := j30
            clear hdep
            go_simp
            exact hK _ _ rfl (Below.refl _ _)
          · intro a w' hb hdep K hK
            have c9 := hb.at 5 9 _ rfl
            obtain ⟨v31, e31, j31⟩ := hdep 31 (by kernel_rfl)
            replace e31 : a.tmps[78]? = some v31 := e31
            obtain rfl : v31 = _ := j31
            clear hdep
            go_simp
            exact hK _ _ rfl (Below.refl _ _)
          · intro a w' hb hdep K hK
            have c7 := hb.at 3 7 _ rfl
            obtain ⟨v31, e31, j31⟩ := hdep 31 (by kernel_rfl)
            replace e31 : a.tmps[78]? = some v31 := e31
            obtain rfl : v31 = _ := j31
            clear hdep
            go_simp
            exact hK _ _ rfl (Below.refl _ _)
          · intro a w' hb hdep K hK
            obtain ⟨v33, e33, j33⟩ := hdep 33 (by kernel_rfl)
            replace e33 : a.tmps[80]? = some v33 := e33
            obtain rfl : v33 = _ := j33
            obtain ⟨v31, e31, j31⟩ := hdep 31 (by kernel_rfl)
            replace e31 : a.tmps[78]? = some v31 := e31
            obtain rfl : v31 = _ := j31
            have hx := HXG.out
            clear hdep
            go_simp
            exact hK _ _ rfl (Below.refl _ _)
          · intro a w' hb hdep K hK
            obtain ⟨v32, e32, j32⟩ := hdep 32 (by kernel_rfl)
            replace e32 : a.tmps[79]? = some v32 := e32
            obtain rfl : v32 = _ := j32
            obtain ⟨v34, e34, j34⟩ := hdep 34 (by kernel_rfl)
            replace e34 : a.tmps[81]? = some v34 := e34
            obtain rfl : v34 = _ := j34
            obtain ⟨v31, e31, j31⟩ := hdep 31 (by kernel_rfl)
            replace e31 : a.tmps[78]? = some v31 := e31
            obtain rfl : v31 = _ := j31
            clear hdep
            go_simp
            exact hK _ _ rfl (Below.refl _ _)
          · intro a w' hb hdep K hK
            obtain ⟨v31, e31, j31⟩ := hdep 31 (by kernel_rfl)
            replace e31 : a.tmps[78]? = some v31 := e31
            obtain rfl : v31 = _ := j31
            obtain ⟨v35, e35, j35⟩ := hdep 35 (by kernel_rfl)
            replace e35 : a.tmps[82]? = some v35 := e35
            obtain rfl : v35 = _ := j35
            clear hdep
            go_simp
            exact hK _ _ rfl (Below.refl _ _)
          · intro a w' hb hdep K hK
            obtain ⟨v36, e36, j36⟩ := hdep 36 (by kernel_rfl)
            replace e36 : a.tmps[83]? = some v36 := e36
            obtain rfl : v36 = _ := j36
            clear hdep
            go_simp
            exact hK _ _ rfl (Below.refl _ _)
          · intro a w' hb hdep K hK
            obtain ⟨v37, e37, j37⟩ := hdep 37 (by kernel_rfl)
            replace e37 : a.tmps[84]? = some v37 := e37
            obtain rfl : v37 = _ := j37
            clear hdep
            go_simp
            go_at_call 9
            refine (wakes_call w').mono ?_
            rintro e w2 ⟨rfl, hb2⟩
            exact hK _ _ rfl hb2
          · intro a w' hb hdep K hK
            obtain ⟨v37, e37, j37⟩ := hdep 37 (by kernel_rfl)
            replace e37 : a.tmps[84]? = some v37 := e37
            obtain rfl : v37 = _ := j37
            obtain ⟨v38, e38, j38⟩ := hdep 38 (by kernel_rfl)
            replace e38 : a.tmps[85]? = some v38 := e38
            obtain rfl : v38 = _ := j38
            clear hdep
            go_simp
            exact hK _ _ rfl (Below.refl _ _)
          · intro a w' hb hdep K hK
            obtain ⟨v39, e39, j39⟩ := hdep 39 (by kernel_rfl)
            replace e39 : a.tmps[86]? = some v39 := e39
            obtain rfl : v39 = _ := j39
            clear hdep
            go_simp
            exact hK _ _ rfl (Below.refl _ _)
        · intro a w' hb hall
          obtain ⟨v, h6, hv⟩ := hall 40 (by decide)
          obtain rfl : v = .bool true := hv
          have HBB := Lib.hid (HB.out.trans (hb.bel.mono HB.out.size))
          have hd := hb.defers
          clear hall hb
          go_wp2
          replace h6 : a.tmps[6]? = some (.bool true) := h6
          exact bodyPost_ret (v := .bool true) (by simp [results, Try.results4, go_sem, h6]) hd ⟨rfl, HBB.out⟩
        -- END REGION

theorem parts_law (c : Int) (wc : (Lit.int .u32 c).wf = true) (a0 : Option Addr) (len0 cap0 : Nat) (z0 : List Int) (at_ : Int) (w : World) (h0 : IsRow .u8 w a0 len0 cap0 z0) :
    Calls Try.prog 4 #[.int .u32 c, .slice a0 len0 cap0, .int .i64 at_] w fun e w' => e = .returned (.bool true) ∧ Below w.heap.size w w' := by
  have hcm := h0.capMax
  obtain ⟨hl, hs, hwf, h63, hlc⟩ := h0.src
  have hcb := bounds_u32 wc
  obtain ⟨C, rfl⟩ := Int.eq_ofNat_of_zero_le hcb.1
  by_cases h : 600 < len0
  · exact parts_out C a0 len0 cap0 at_ w h h63
  · exact parts_in C (by omega) a0 len0 cap0 at_ w (z0.take len0) hl hs (Byts.of_wf hwf) (by omega) hlc hcm (min (max at_ 0) (len0 : Int)).toNat (by omega)
end Go.Proofs.Ytpodepplfhjdfaa
