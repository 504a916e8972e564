/- The walk over winepresslaw04.CrcBurst. -/
import Derived.Test.YtpodepplfhjdfaaCrcLB
import Derived.Deep.DeepCutAuto
import Derived.IntWalk
set_option linter.unusedVariables false
set_option linter.unusedSimpArgs false
namespace Go.Proofs.Ytpodepplfhjdfaa
open Go.RowKit

theorem burst_out (a0 : Option Addr) (n cap0 : Nat) (at_ : Int) (x0 x1 x2 x3 : Int) (w : World) (h : n = 0 ∨ 600 < n) (h63 : n ≤ 9223372036854775807) :
    Calls Try.prog 6 #[.slice a0 n cap0, .int .i64 at_, .agg #[.int .u8 x0, .int .u8 x1, .int .u8 x2, .int .u8 x3]] w fun e w' => e = .returned (.bool true) ∧ Below w.heap.size w w' := by
  rcases h with rfl | h
  · go_enter Try.func6, Try.ntmps6
    go_wp2_with fail
    refine (wakes_call _).mono ?_
    rintro e w1 ⟨rfl, hb⟩
    go_wp2
    go_ret
    exact ⟨rfl, ((Below.refl _ _).alloc (Nat.le_refl _) _).trans (hb.mono (by simp))⟩
  · have d0 : ((n : Int) == 0) = false := by simp; omega
    have d1 : decide ((600 : Int) < (n : Int)) = true := by simp; omega
    go_enter Try.func6, Try.ntmps6
    go_wp2_with fail
    refine (wakes_call _).mono ?_
    rintro e w1 ⟨rfl, hb⟩
    go_wp2
    go_ret
    exact ⟨rfl, ((Below.refl _ _).alloc (Nat.le_refl _) _).trans (hb.mono (by simp))⟩

theorem WinS.at {w : World} {k : IntKind} {E : TypeId} {a : Option Addr} {c : Nat} {l : List Int} (h : WinS w k E a c l) (j : Nat) (hj : j < l.length) : ∃ g o, a = some ⟨g, o, none⟩ ∧ w.cell? ⟨g, o + j, none⟩ = some (.int k (l.getD j 0)) ∧ w.frozen? ⟨g, o + j, none⟩ = false := by
  rcases h with ⟨_, rfl, _⟩ | ⟨g', o', cur, h1, h2, h3, h4, h5, h6⟩
  · simp at hj
  · exact ⟨g', o', h1, by simp only [World.cell?, h2]; exact h6 j hj, by simp [World.frozen?, h2]⟩
/-- A store into a window. -/
theorem WinS.set {w : World} {k : IntKind} {E : TypeId} {g o c : Nat} {l : List Int} (h : WinS w k E (some ⟨g, o, none⟩) c l) (j : Nat) (hj : j < l.length) (x : Int) : WinS (w.setCell ⟨g, o + j, none⟩ (.int k x)) k E (some ⟨g, o, none⟩) c (l.set j x) := by
  rcases h with ⟨h1, _⟩ | ⟨g', o', cur, h1, h2, h3, h4, h5, h6⟩
  · cases h1
  · injection h1 with h1
    injection h1 with e1 e2 _
    subst e1 e2
    refine .inr ⟨g, o, cur.setIfInBounds (o + j) (.int k x), rfl, by simp [World.setCell, Array.getElem?_modify, h2], by simpa using h3, h4, by simpa using h5, fun i hi => ?_⟩
    rw [List.length_set] at hi
    rw [Array.getElem?_setIfInBounds]
    by_cases e : j = i
    · subst e
      rw [if_pos rfl, if_pos (by omega)]
      simp [List.getD_eq_getElem?_getD, hj]
    · rw [if_neg (by omega), h6 i hi]
      simp [List.getD_eq_getElem?_getD, List.getElem?_set, e]
/-- Of at one slice, its list made by the call. -/
theorem of_new (w : World) (d : Chk) (hok : OkC w d) :
    Calls Try.prog 16 #[.slice (some ⟨w.heap.size, 0, none⟩) 1 1] (w.alloc (.cells #[.slice d.a d.len d.cap] 24)) fun e w' => e = .returned (.int .u32 (crcFeed 0 d.bs)) ∧ Below w.heap.size w w' := by
  have hb := (Below.refl _ w).alloc (Nat.le_refl _) (.cells #[.slice d.a d.len d.cap] 24)
  refine (of_call _ (some ⟨w.heap.size, 0, none⟩) 1 1 [d] rfl (CSrc.one (heap_alloc_last w _)) (by simpa using hok.below hb) (by omega)).mono ?_
  rintro e w' ⟨rfl, h⟩
  exact ⟨by rw [joinC_one], hb.trans (h.mono (by simp))⟩
/-- Are the first bytes all 0? -/
def allZ (xs : List Int) : Nat → Bool
  | 0 => true
  | k + 1 => allZ xs k && (xs.getD k 0 == 0)
theorem allZ_iff (xs : List Int) (k : Nat) : allZ xs k = true ↔ ∀ i, i < k → xs.getD i 0 = 0 := by
  induction k with
  | zero => simp [allZ]
  | succ k ih =>
    rw [allZ, Bool.and_eq_true, ih, beq_iff_eq]
    constructor
    · rintro ⟨h1, h2⟩ i hi
      by_cases e : i = k
      · rw [e]; exact h2
      · exact h1 i (by omega)
    · intro h
      exact ⟨fun i hi => h i (by omega), h k (by omega)⟩

/-- While the change is made. -/
structure BuI (w : World) (q : Nat) (xs : List Int) (a2 : Option Addr) (c2 n A : Nat) (l : List Int) (k : Nat) (wr : World) : Prop where
  by_ : wr.heap[q]? = some (.cells (icells .u8 xs) 41 (0, 0))
  win : ∃ l' : List Int, l'.length = n ∧ WinS wr .u8 5 a2 c2 l' ∧ Byts l' ∧ ∀ j, j < n → (l'.getD j 0).toNat = (l.getD j 0).toNat ^^^ (if A ≤ j ∧ j < A + k then (xs.getD (j - A) 0).toNat else 0)
  bel : Below w.heap.size w wr

theorem getD_set_eq (l : List Int) (i : Nat) (x : Int) (h : i < l.length) : (l.set i x).getD i 0 = x := by simp [List.getD_eq_getElem?_getD, h]
theorem getD_set_ne' (l : List Int) (i j : Nat) (x : Int) (h : i ≠ j) : (l.set i x).getD j 0 = l.getD j 0 := by simp [List.getD_eq_getElem?_getD, List.getElem?_set, h]
theorem BuI.step {w wr : World} {q : Nat} {xs : List Int} {g o c2 n A : Nat} {l l' : List Int} {k X Y B : Nat} (h : BuI w q xs (some ⟨g, o, none⟩) c2 n A l k wr) (hg : B ≤ g) (hq : q < B) (hwq : q = w.heap.size) (hl : l'.length = n) (hw : WinS wr .u8 5 (some ⟨g, o, none⟩) c2 l') (hy : Byts l')
    (hx : ∀ j, j < n → (l'.getD j 0).toNat = (l.getD j 0).toNat ^^^ (if A ≤ j ∧ j < A + k then (xs.getD (j - A) 0).toNat else 0)) (hk : A + k < n) (hY : l'.getD (A + k) 0 = (Y : Int)) (hX : xs.getD k 0 = (X : Int)) (h1 : Y < 256) (h2 : X < 256) :
    BuI w q xs (some ⟨g, o, none⟩) c2 n A l (k + 1) (wr.setCell ⟨g, o + (A + k), none⟩ (.int .u8 ((Y ^^^ X : Nat) : Int))).drew := by
  refine ⟨(heap_setCell_other _ _ _ _ (by simp; omega)).trans h.by_, ⟨l'.set (A + k) ((Y ^^^ X : Nat) : Int), by rw [List.length_set]; exact hl, ?_, ?_, ?_⟩, ?_⟩
  · exact (hw.set (A + k) (by omega) _).ch (S := fun _ => False) ⟨rfl, rfl, rfl, Nat.le_refl _, fun _ _ _ => rfl⟩ (fun _ _ e => e)
  · intro x hx
    have := xor_lt8 h1 h2
    rcases List.mem_or_eq_of_mem_set hx with h | h
    · exact hy x h
    · subst h; omega
  · intro j hj
    have hxj := hx j hj
    by_cases e : A + k = j
    · subst e
      rw [getD_set_eq _ _ _ (by omega), if_pos ⟨by omega, by omega⟩, show A + k - A = k by omega, hX]
      rw [hY, if_neg (by omega), Nat.xor_zero] at hxj
      simp only [Int.toNat_natCast] at hxj ⊢
      rw [hxj]
    · rw [getD_set_ne' _ _ _ _ e, hxj]
      by_cases e2 : A ≤ j ∧ j < A + k
      · rw [if_pos e2, if_pos ⟨e2.1, by omega⟩]
      · rw [if_neg e2, if_neg (by omega)]
  · exact (h.bel.setCell (p := ⟨g, o + (A + k), none⟩) (by show w.heap.size ≤ g; omega) _).drew

set_option maxRecDepth 100000 in
set_option maxHeartbeats 4000000 in
theorem burst_in (a0 : Option Addr) (n cap0 : Nat) (at_ : Int) (x0 x1 x2 x3 : Int) (b0 : 0 ≤ x0 ∧ x0 ≤ 255) (b1 : 0 ≤ x1 ∧ x1 ≤ 255) (b2 : 0 ≤ x2 ∧ x2 ≤ 255) (b3 : 0 ≤ x3 ∧ x3 ≤ 255) (w : World) (l : List Int)
    (hl : l.length = n) (hs : Src w .u8 a0 l) (hby : Byts l) (h0 : 0 < n) (hn : n ≤ 600) (hlc : n ≤ cap0) (hcm : cap0 ≤ maxLen) (A : Nat) (hA : (A : Int) = min (max at_ 0) (n - 1)) :
    Calls Try.prog 6 #[.slice a0 n cap0, .int .i64 at_, .agg #[.int .u8 x0, .int .u8 x1, .int .u8 x2, .int .u8 x3]] w fun e w' => e = .returned (.bool true) ∧ Below w.heap.size w w' := by
  have d0 : ((n : Int) == 0) = false := by simp; omega
  have d1 : decide ((600 : Int) < (n : Int)) = false := by simp; omega
  have hAn : A < n := by omega
  have HA := Lib.hid hA
  have HL := Lib.hid hl
  have HS := Lib.hid hs
  have HY := Lib.hid hby
  obtain ⟨xs, hxs⟩ : ∃ xs, xs = [x0, x1, x2, x3] := ⟨_, rfl⟩
  have HXY := Lib.hid (show Byts xs from by
    subst hxs
    intro x hx
    simp only [List.mem_cons, List.not_mem_nil, or_false] at hx
    omega)
  have HXL := Lib.hid (show xs.length = 4 by rw [hxs]; rfl)
  have HXC := Lib.hid (show icells .u8 xs = #[.int .u8 x0, .int .u8 x1, .int .u8 x2, .int .u8 x3] by rw [hxs]; rfl)
  clear hl hs hby hA b0 b1 b2 b3 hxs
  go_enter Try.func6, Try.ntmps6
  go_upto_region 1 with fail
  go_cut [17] (fun s wx => s = .bool false ∧ wx = w.alloc (.cells #[.int .u8 x0, .int .u8 x1, .int .u8 x2, .int .u8 x3] 41))
  case first =>
    go_wp2
    all_goals go_meet
    all_goals exact ⟨rfl, rfl⟩
  case rest =>
    obtain ⟨rfl, hwc⟩ := hcut
    subst hwc
    go_upto_region 3 with fail
    go_cut [1] (fun s wx => s = .int .i64 A ∧ wx = w.alloc (.cells #[.int .u8 x0, .int .u8 x1, .int .u8 x2, .int .u8 x3] 41))
    case first =>
      go_wp2
      all_goals go_meet
      all_goals
        refine ⟨?_, rfl⟩
        congr 1
        have := HA.out
        omega
    case rest =>
      obtain ⟨rfl, hwc⟩ := hcut
      subst hwc
      rw [← HXC.out]
      have hby0 := heap_alloc_last w (.cells (icells .u8 xs) 41)
      have HB1 := Lib.hid ((Below.refl _ w).alloc (Nat.le_refl _) (.cells (icells .u8 xs) 41))
      obtain ⟨q, hq⟩ : ∃ q, q = w.heap.size := ⟨_, rfl⟩
      rw [← hq] at hby0 ⊢
      have HQ := Lib.hid hq
      have HBY := Lib.hid hby0
      generalize w.alloc (.cells (icells .u8 xs) 41) = w1 at *
      clear hq hby0 d0 d1
      have hs1 := Lib.hid (HS.out.below HB1.out)
      have hqlt : q < w1.heap.size := (Array.getElem?_eq_some_iff.1 HBY.out).1
      go_wp2_with (at_builtin; go_must (
        refine wpList_appendW rfl _ _ 24 rfl 5 .u8 1 sliceT byteI (some ⟨w1.heap.size, 0, none⟩) 0 [] 0 rfl rfl (WinS.empty w1 .u8 5) a0 n cap0 rfl l HL.out (hs1.out.below ((Below.refl _ w1).alloc (Nat.le_refl _) _)) (by unfold maxLen; omega) (by omega) ?_
        intro a2 c2 w2 hwin hgr halt
        rw [List.nil_append] at hwin
        have HB2 := Lib.hid (((Below.refl w1.heap.size w1).alloc (Nat.le_refl _) (.cells #[] 5)).grown hgr (by simp) (by intro k e; injection e with e; subst e; exact Nat.le_refl _))
        have HA2 := Lib.hid (show ∀ g, blk a2 = some g → w1.heap.size ≤ g from fun g e => by
          rcases halt with h1 | h1 <;> rw [h1] at e <;> injection e with e <;> subst e <;> simp)
        have HW2 := Lib.hid hwin
        clear hwin hgr halt))
      go_loopw [8, 9] (fun s i wr => ∃ k : Nat, k ≤ 4 ∧ A + k ≤ n ∧ i = .int .i64 k ∧ s = .bool (allZ xs k) ∧ BuI w q xs a2 c2 n A l k wr) (fun _ i _ => 4 - (intOf i).toNat)
      case atStart => exact ⟨0, by omega, by omega, rfl, rfl, heap_on HB2.out HBY.out, ⟨l, HL.out, HW2.out, HY.out, fun j hj => by rw [if_neg (by omega), Nat.xor_zero]⟩, HB1.out.trans (HB2.out.mono HB1.out.size)⟩
      case round =>
        obtain ⟨k, hk, hAk, rfl, rfl, hI⟩ := hrel
        by_cases hgo : k < 4 ∧ A + k < n
        · obtain ⟨hk4, hAk4⟩ := hgo
          have e1 : decide ((k : Int) < 4) = true := by simp; omega
          have e2 : decide ((A : Int) + (k : Int) < (n : Int)) = true := by simp; omega
          obtain ⟨l', hl', hw, hy, hx⟩ := hI.win
          obtain ⟨g, o, rfl, hc1, hf1⟩ := hw.at (A + k) (by rw [hl']; exact hAk4)
          have hcx := cell_icells hI.by_ k (by rw [HXL.out]; exact hk4)
          have HI := Lib.hid hI
          have HL' := Lib.hid hl'
          have HW := Lib.hid hw
          have HY' := Lib.hid hy
          have HX := Lib.hid hx
          have y0 := hy.getD (A + k)
          have y1 := HXY.out.getD k
          obtain ⟨Y, hY⟩ := Int.eq_ofNat_of_zero_le y0.1
          obtain ⟨X, hX⟩ := Int.eq_ofNat_of_zero_le y1.1
          rw [hY] at hc1 y0
          rw [hX] at hcx y1
          have HYE := Lib.hid hY
          have HXE := Lib.hid hX
          have xx := u8_xor_nat Y X (by omega) (by omega)
          have hsw : IntKind.i64.wrap ((A : Int) + (k : Int)) = (A : Int) + (k : Int) := IntWalk.i64_in _ (by omega)
          have ht : ((A : Int) + (k : Int)).toNat = A + k := by omega
          have hnn : 0 ≤ (A : Int) + (k : Int) := by omega
          clear hI hl' hw hy hx hY hX
          have hge := HA2.out g rfl
          have hn1 : ¬ g = q := by omega
          have hn2 : ¬ q = g := by omega
          go_wp2_with fail
          go_region
          have hcy : ((wr.setCell ⟨g, o + (A + k), none⟩ (.int .u8 ((Y ^^^ X : Nat) : Int))).drew).cell? ⟨q, k, none⟩ = some (.int .u8 X) := by
            rw [World.cell?_of_block (w := wr) (a := ⟨q, k, none⟩)]
            · exact hcx
            · exact heap_setCell_other _ _ _ _ hn2
          have HI2 := Lib.hid (HI.out.step hge hqlt HQ.out HL'.out HW.out HY'.out HX.out hAk4 HYE.out HXE.out (by omega) (by omega))
          generalize (wr.setCell ⟨g, o + (A + k), none⟩ (.int .u8 ((Y ^^^ X : Nat) : Int))).drew = wz at *
          have hzs : allZ xs (k + 1) = (allZ xs k && (xs.getD k 0 == 0)) := rfl
          rw [HXE.out] at hzs
          obtain ⟨z, hz⟩ : ∃ z, z = allZ xs k := ⟨_, rfl⟩
          rw [← hz] at hzs ⊢
          have HZ := Lib.hid hzs
          clear hz hzs hcx
          cases z
          · go_wp2_with fail
            go_roundw
            case rel => exact ⟨k + 1, by omega, by omega, by go_num, by rw [HZ.out]; rfl, HI2.out⟩
            case measure => simp [intOf]; omega
          · go_wp2_with fail
            go_roundw
            case rel => exact ⟨k + 1, by omega, by omega, by go_num, by rw [HZ.out]; rfl, HI2.out⟩
            case measure => simp [intOf]; omega
        · obtain ⟨l', hl', hw, hy, hx⟩ := hI.win
          have hcap := hw.cap
          rw [hl'] at hcap
          obtain ⟨hc1, hc2⟩ := hcap
          have HB := Lib.hid hI.bel
          have hfin := crcFeed_burst 0 l l' n A k HL.out hl' (fun j => (xs.getD j 0).toNat) (fun j => by have := HXY.out.getD j; omega) hk hx hAk
          have hZ : (((crcFeed 0 l' : Nat) : Int) == ((crcFeed 0 l : Nat) : Int)) = allZ xs k := by
            rw [Bool.eq_iff_iff, beq_iff_eq, allZ_iff, Int.natCast_inj, hfin]
            constructor
            · intro h i hi
              have := h i hi
              have := HXY.out.getD i
              omega
            · intro h i hi
              have := h i hi
              omega
          have OK1 := Lib.hid (show OkC wr ⟨a2, n, c2, l'⟩ from ⟨hl', hw.src, hy, hc1, hc2⟩)
          have OK0 := Lib.hid (show OkC wr ⟨a0, n, cap0, l⟩ from ⟨HL.out, HS.out.below HB.out, HY.out, hlc, hcm⟩)
          have HZ := Lib.hid hZ
          clear hI hl' hw hy hx hfin hZ
          have hcase : decide ((k : Int) < 4) = false ∨ (decide ((k : Int) < 4) = true ∧ decide ((A : Int) + (k : Int) < (n : Int)) = false) := by
            by_cases h4 : k < 4
            · exact .inr ⟨by simp; omega, by simp; omega⟩
            · exact .inl (by simp; omega)
          have HA' := Lib.hid hgo
          clear hgo
          obtain ⟨C1, hC1⟩ : ∃ C, C = crcFeed 0 l' := ⟨_, rfl⟩
          obtain ⟨C0, hC0⟩ : ∃ C, C = crcFeed 0 l := ⟨_, rfl⟩
          rw [← hC1, ← hC0] at HZ
          have HC1 := Lib.hid hC1
          have HC0 := Lib.hid hC0
          obtain ⟨z, hz⟩ : ∃ z, z = allZ xs k := ⟨_, rfl⟩
          rw [← hz] at HZ ⊢
          clear hC1 hC0 hz
          rcases hcase with e1 | ⟨e1, e2⟩
          all_goals
            go_wp2_with fail
            refine (of_new wr ⟨a2, n, c2, l'⟩ OK1.out).mono ?_
            rintro e w3 ⟨rfl, hb3⟩
            rw [← HC1.out]
            have HB3 := Lib.hid (HB.out.trans (hb3.mono HB.out.size))
            have OK0' := Lib.hid (OK0.out.below hb3)
            clear hb3
            go_wp2_with fail
            refine (of_new w3 ⟨a0, n, cap0, l⟩ OK0'.out).mono ?_
            rintro e w4 ⟨rfl, hb4⟩
            rw [← HC0.out]
            have HB4 := Lib.hid (HB3.out.trans (hb4.mono HB3.out.size))
            have hZ := HZ.out
            clear hb4
            go_wp2_with fail
            refine (wakes_call w4).mono ?_
            rintro e w5 ⟨rfl, hb5⟩
            go_wp2
            go_ret
            exact ⟨rfl, HB4.out.trans (hb5.mono HB4.out.size)⟩

theorem burst_call (a0 : Option Addr) (len0 cap0 : Nat) (z0 : List Int) (at_ : Int) (x0 x1 x2 x3 : Int) (w : World) (h0 : IsRow .u8 w a0 len0 cap0 z0) (w0 : (Lit.int .u8 x0).wf = true) (w1 : (Lit.int .u8 x1).wf = true) (w2 : (Lit.int .u8 x2).wf = true) (w3 : (Lit.int .u8 x3).wf = true) :
    Calls Try.prog 6 #[.slice a0 len0 cap0, .int .i64 at_, .agg #[.int .u8 x0, .int .u8 x1, .int .u8 x2, .int .u8 x3]] w fun e w' => e = .returned (.bool true) ∧ Below w.heap.size w w' := by
  have hcm := h0.capMax
  obtain ⟨hl, hs, hwf, h63, hlc⟩ := h0.src
  by_cases h : len0 = 0 ∨ 600 < len0
  · exact burst_out a0 len0 cap0 at_ x0 x1 x2 x3 w h h63
  · exact burst_in a0 len0 cap0 at_ x0 x1 x2 x3 (bounds_u8 w0) (bounds_u8 w1) (bounds_u8 w2) (bounds_u8 w3) w (z0.take len0) hl hs (Byts.of_wf hwf) (by omega) (by omega) hlc hcm (min (max at_ 0) ((len0 : Int) - 1)).toNat (by omega)
end Go.Proofs.Ytpodepplfhjdfaa
