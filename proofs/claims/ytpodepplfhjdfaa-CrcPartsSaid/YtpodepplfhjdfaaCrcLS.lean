/- The walk over winepresslaw04.CrcSums. -/
import Derived.Test.YtpodepplfhjdfaaCrcK
import Derived.Test.YtpodepplfhjdfaaAny
import Derived.Deep.DeepCutAuto
set_option linter.unusedVariables false
set_option linter.unusedSimpArgs false
namespace Go.Proofs.Ytpodepplfhjdfaa
open Go.RowKit

theorem World.heap_drew' (w : World) : w.drew.heap = w.heap := rfl
theorem icells_set (k : IntKind) (l : List Int) (i : Nat) (x : Int) : (icells k l).setIfInBounds i (.int k x) = icells k (l.set i x) := by
  simp [icells, List.map_set]
theorem getD_set_eq (l : List Int) (i : Nat) (x : Int) (h : i < l.length) : (l.set i x).getD i 0 = x := by simp [List.getD_eq_getElem?_getD, h]
theorem getD_set_ne' (l : List Int) (i j : Nat) (x : Int) (h : i ≠ j) : (l.set i x).getD j 0 = l.getD j 0 := by simp [List.getD_eq_getElem?_getD, List.getElem?_set, h]
/-- While the sum is made. -/
def SumI (w : World) (p n : Nat) (l0 l1 l2 : List Int) (k : Nat) (wr : World) : Prop :=
  ∃ l : List Int, l.length = n ∧ wr.heap[p]? = some (.cells (icells .u8 l) 5 (0, 0)) ∧ Below w.heap.size w wr ∧ Byts l ∧ ∀ j, j < k → (l.getD j 0).toNat = (l0.getD j 0).toNat ^^^ (l1.getD j 0).toNat ^^^ (l2.getD j 0).toNat
theorem byte_at {w : World} {a : Option Addr} {l : List Int} (h : Src w .u8 a l) (k : Nat) (hk : k < l.length) : ∃ g o, a = some ⟨g, o, none⟩ ∧ w.cell? ⟨g, o + k, none⟩ = some (.int .u8 (l.getD k 0)) := by
  rcases h with rfl | ⟨g, o, rfl, hc⟩
  · simp at hk
  · exact ⟨g, o, rfl, hc k hk⟩

theorem of_part (w : World) (g : Nat) (d : Chk) (hg : w.heap[g]? = some (.cells #[.slice d.a d.len d.cap] 24 (0, 0))) (hok : OkC w d) :
    Calls Try.prog 16 #[.slice (some ⟨g, 0, none⟩) 1 1] w fun e w' => e = .returned (.int .u32 (crcFeed 0 d.bs)) ∧ Below w.heap.size w w' := by
  have := of_call w (some ⟨g, 0, none⟩) 1 1 [d] rfl (CSrc.one hg) (by simpa using hok) (by omega)
  rwa [joinC_one] at this
theorem okPart {w wr : World} {a : Option Addr} {l : List Int} {n m cap : Nat} (hl : l.length = m) (hs : Src w .u8 a l) (hy : Byts l) (hb : Below w.heap.size w wr) (hn : n ≤ m) (hc : m ≤ cap) (hm : cap ≤ 2 ^ 63 - 1) :
    ∀ W, Below wr.heap.size wr W → OkC W ⟨a, n, cap, l.take n⟩ := fun W h =>
  ⟨by simp; omega, ((hs.below hb).below h).take n, hy.take n, Nat.le_trans hn hc, hm⟩
theorem getD_take (l : List Int) (n j : Nat) (h : j < n) : (l.take n).getD j 0 = l.getD j 0 := by simp [List.getD_eq_getElem?_getD, List.getElem?_take, h]
/-- A slice of one slice, made by the call. -/
def OneP (x v : Value) (w : World) : Prop := ∃ g, v = .slice (some ⟨g, 0, none⟩) 1 1 ∧ w.heap[g]? = some (.cells #[x] 24 (0, 0))
/-- What the operations of the last statement yield. -/
def sumJ (a0 : Option Addr) (n0 cap0 : Nat) (a1 : Option Addr) (n1 cap1 : Nat) (a2 : Option Addr) (n2 cap2 : Nat) (p n : Nat) (C0 C1 C2 : Nat) : List (Value → World → Prop) :=
  [eqv (.slice a0 n0 cap0), eqv (.int .i64 n), eqv (.slice a0 n cap0), OneP (.slice a0 n cap0), eqv (.int .u32 C0),
   eqv (.slice a1 n1 cap1), eqv (.int .i64 n), eqv (.slice a1 n cap1), OneP (.slice a1 n cap1), eqv (.int .u32 C1), eqv (.int .u32 (C0 ^^^ C1 : Nat)),
   eqv (.slice a2 n2 cap2), eqv (.int .i64 n), eqv (.slice a2 n cap2), OneP (.slice a2 n cap2), eqv (.int .u32 C2), eqv (.int .u32 (C0 ^^^ C1 ^^^ C2 : Nat)),
   eqv (.slice (some ⟨p, 0, none⟩) n n), OneP (.slice (some ⟨p, 0, none⟩) n n), eqv (.int .u32 (C0 ^^^ C1 ^^^ C2 : Nat)), eqv (.bool true), eqv (.bool true), eqv (.bool true), eqv (.bool true), eqv (.bool true)]
theorem OneP.mono {x v : Value} {w w' : World} (h : OneP x v w) (hb : Below w.heap.size w w') : OneP x v w' := by
  obtain ⟨g, h1, h2⟩ := h
  exact ⟨g, h1, heap_on hb h2⟩
theorem OneP.monoV (x : Value) : MonoV (OneP x) := fun _ _ _ h hb => h.mono hb
theorem sumJ_mono {a0 : Option Addr} {n0 cap0 : Nat} {a1 : Option Addr} {n1 cap1 : Nat} {a2 : Option Addr} {n2 cap2 : Nat} {p n : Nat} {C0 C1 C2 : Nat} : MonoAll (sumJ a0 n0 cap0 a1 n1 cap1 a2 n2 cap2 p n C0 C1 C2) := by
  repeat first | exact trivial | refine ⟨eqv_mono _, ?_⟩ | refine ⟨OneP.monoV _, ?_⟩

set_option maxRecDepth 100000 in
set_option maxHeartbeats 4000000 in
theorem sums_in (a0 : Option Addr) (n0 cap0 : Nat) (a1 : Option Addr) (n1 cap1 : Nat) (a2 : Option Addr) (n2 cap2 : Nat) (w : World) (l0 l1 l2 : List Int)
    (hl0 : l0.length = n0) (hs0 : Src w .u8 a0 l0) (hby0 : Byts l0) (hc0 : n0 ≤ cap0) (hm0 : cap0 ≤ maxLen)
    (hl1 : l1.length = n1) (hs1 : Src w .u8 a1 l1) (hby1 : Byts l1) (hc1 : n1 ≤ cap1) (hm1 : cap1 ≤ maxLen)
    (hl2 : l2.length = n2) (hs2 : Src w .u8 a2 l2) (hby2 : Byts l2) (hc2 : n2 ≤ cap2) (hm2 : cap2 ≤ maxLen) (n : Nat) (hn : n ≤ 600) (hnm : n = min n0 (min n1 n2)) :
    Calls Try.prog 5 #[.slice a0 n0 cap0, .slice a1 n1 cap1, .slice a2 n2 cap2] w fun e w' => e = .returned (.bool true) ∧ Below w.heap.size w w' := by
  unfold maxLen at hm0 hm1 hm2
  have HL0 := Lib.hid hl0
  have HL1 := Lib.hid hl1
  have HL2 := Lib.hid hl2
  have HS0 := Lib.hid hs0
  have HS1 := Lib.hid hs1
  have HS2 := Lib.hid hs2
  have HY0 := Lib.hid hby0
  have HY1 := Lib.hid hby1
  have HY2 := Lib.hid hby2
  have HNM := Lib.hid hnm
  have q0 : n ≤ n0 := by omega
  have q1 : n ≤ n1 := by omega
  have q2 : n ≤ n2 := by omega
  clear hl0 hl1 hl2 hs0 hs1 hs2 hby0 hby1 hby2 hnm
  go_enter Try.func5, Try.ntmps5
  go_upto_region 1 with fail
  go_cut [7] (fun s7 wx => s7 = .int .i64 n ∧ wx = w)
  case first =>
    go_wp2
    all_goals go_meet
    all_goals
      refine ⟨?_, rfl⟩
      congr 1
      have := HNM.out
      omega
  case rest =>
    obtain ⟨rfl, hwc⟩ := hcut
    obtain rfl : w = wc := hwc.symm
    have d1 : decide ((600 : Int) < (n : Int)) = false := by simp; omega
    have hmk := fun W => run_makeI (P := Try.prog) (b := 1) sliceT byteI .i64 .i64 n (by omega) (by omega) W
    go_wp2_with fail
    have HT := Lib.hid (heap_alloc_last w (.cells (icells .u8 (List.replicate n 0)) 5))
    have HB1 := Lib.hid ((Below.refl _ w).alloc (Nat.le_refl _) (.cells (icells .u8 (List.replicate n 0)) 5))
    obtain ⟨p, hp⟩ : ∃ p, p = w.heap.size := ⟨_, rfl⟩
    have HPE := Lib.hid hp
    rw [← hp] at HT ⊢
    generalize w.alloc (.cells (icells .u8 (List.replicate n 0)) 5) = w1 at *
    clear hp hmk d1
    go_loopw [9] (fun i wr => ∃ k : Nat, k ≤ n ∧ i = .int .i64 k ∧ SumI w p n l0 l1 l2 k wr) (fun i _ => n - (intOf i).toNat)
    case atStart => exact ⟨0, Nat.zero_le _, rfl, List.replicate n 0, by simp, HT.out, HB1.out, fun x hx => by simp at hx; omega, fun j hj => by omega⟩
    case round =>
      obtain ⟨k, hk, rfl, hm⟩ := hrel
      by_cases hlt : k < n
      · obtain ⟨l, hl, hT, hB, hY, hX⟩ := hm
        have HLl := Lib.hid hl
        have HT1 := Lib.hid hT
        have HB := Lib.hid hB
        have HY := Lib.hid hY
        have HX := Lib.hid hX
        obtain ⟨g0, o0, rfl, e0⟩ := byte_at (HS0.out.below HB.out) k (by rw [HL0.out]; omega)
        obtain ⟨g1, o1, rfl, e1⟩ := byte_at (HS1.out.below HB.out) k (by rw [HL1.out]; omega)
        obtain ⟨g2, o2, rfl, e2⟩ := byte_at (HS2.out.below HB.out) k (by rw [HL2.out]; omega)
        have b0 := HY0.out.getD k
        have b1 := HY1.out.getD k
        have b2 := HY2.out.getD k
        have hcl := cell_icells hT k (by omega)
        have hfz := frozen_icells hT k
        obtain ⟨X, hx⟩ := Int.eq_ofNat_of_zero_le b0.1
        obtain ⟨Y, hy⟩ := Int.eq_ofNat_of_zero_le b1.1
        obtain ⟨Z, hz⟩ := Int.eq_ofNat_of_zero_le b2.1
        have HXE := Lib.hid hx
        have HYE := Lib.hid hy
        have HZE := Lib.hid hz
        rw [hx] at e0 b0
        rw [hy] at e1 b1
        rw [hz] at e2 b2
        have x1 := u8_xor_nat X Y (by omega) (by omega)
        have x2 := u8_xor_nat (X ^^^ Y) Z (xor_lt8 (by omega) (by omega)) (by omega)
        have xb := xor_lt8 (xor_lt8 (show X < 256 by omega) (show Y < 256 by omega)) (show Z < 256 by omega)
        clear hl hT hB hY hX hx hy hz
        go_wp2_with fail
        go_region
        go_wp2_with fail
        go_roundw
        case rel =>
          refine ⟨k + 1, by omega, by go_num, l.set k ↑(X ^^^ Y ^^^ Z), by rw [List.length_set]; exact HLl.out, ?_, (HB.out.setCell (p := ⟨p, k, none⟩) (by rw [HPE.out]; exact Nat.le_refl _) _).drew, ?_, ?_⟩
          · rw [World.heap_drew', heap_setCell_same _ _ _ _ _ _ HT1.out, icells_set]
          · intro x hx
            rcases List.mem_or_eq_of_mem_set hx with h | h
            · exact HY.out x h
            · subst h; omega
          · intro j hj
            by_cases hjk : j = k
            · subst hjk
              rw [getD_set_eq _ _ _ (by rw [HLl.out]; exact hlt), HXE.out, HYE.out, HZE.out]
              simp
            · rw [getD_set_ne' _ _ _ _ (Ne.symm hjk)]
              exact HX.out j (by omega)
        case measure => simp [intOf]; omega
      · obtain rfl : k = n := by omega
        obtain ⟨l, hl, hT, hB, hY, hX⟩ := hm
        have HLl := Lib.hid hl
        have HT1 := Lib.hid hT
        have HB := Lib.hid hB
        have HY := Lib.hid hY
        have HX := Lib.hid hX
        clear hl hT hB hY hX
        go_wp2_with fail
        have p0 : k ≤ cap0 := by omega
        have p1 : k ≤ cap1 := by omega
        have p2 : k ≤ cap2 := by omega
        have OK0 := Lib.hid (okPart (n := k) HL0.out HS0.out HY0.out HB.out q0 hc0 hm0)
        have OK1 := Lib.hid (okPart (n := k) HL1.out HS1.out HY1.out HB.out q1 hc1 hm1)
        have OK2 := Lib.hid (okPart (n := k) HL2.out HS2.out HY2.out HB.out q2 hc2 hm2)
        have OK3 := Lib.hid (show ∀ W, Below wr.heap.size wr W → OkC W ⟨some ⟨p, 0, none⟩, k, k, l⟩ from fun W h => (OkC.lit HT1.out HY.out k HLl.out (by omega)).below h)
        have hC3 := crcFeed_sum3 0 (l0.take k) (l1.take k) (l2.take k) l k (by simp [HL0.out]; omega) (by simp [HL1.out]; omega) (by simp [HL2.out]; omega) HLl.out (fun j hj => by
          rw [HX.out j hj, getD_take _ _ _ hj, getD_take _ _ _ hj, getD_take _ _ _ hj])
        obtain ⟨C0, hC0⟩ : ∃ C, crcFeed 0 (l0.take k) = C := ⟨_, rfl⟩
        obtain ⟨C1, hC1⟩ : ∃ C, crcFeed 0 (l1.take k) = C := ⟨_, rfl⟩
        obtain ⟨C2, hC2⟩ : ∃ C, crcFeed 0 (l2.take k) = C := ⟨_, rfl⟩
        have r0 := crcFeed_lt (c := 0) (by omega) (l0.take k) (HY0.out.take k)
        have r1 := crcFeed_lt (c := 0) (by omega) (l1.take k) (HY1.out.take k)
        have r2 := crcFeed_lt (c := 0) (by omega) (l2.take k) (HY2.out.take k)
        rw [hC0, hC1, hC2] at hC3
        rw [hC0] at r0
        rw [hC1] at r1
        rw [hC2] at r2
        have HX1 := Lib.hid (xor32_row C0 C1 r0 r1)
        have HX2 := Lib.hid (xor32_row (C0 ^^^ C1) C2 (xor_lt32 r0 r1) r2)
        have HC0 := Lib.hid hC0
        have HC1 := Lib.hid hC1
        have HC2 := Lib.hid hC2
        have HC3 := Lib.hid hC3.symm
        clear hC0 hC1 hC2 hC3 r0 r1 r2
        refine wp_region_inv (J := Js (sumJ a0 n0 cap0 a1 n1 cap1 a2 n2 cap2 p k C0 C1 C2)) (ds := [44, 45, 46, 47, 48, 49, 50, 51, 52, 53, 54, 55, 56, 57, 58, 59, 60, 61, 62, 63, 64, 65, 66, 67, 6]) (N := 68)
          (B := [(0, .slice a0 n0 cap0), (1, .slice a1 n1 cap1), (2, .slice a2 n2 cap2), (7, .int .i64 k), (8, .slice (some ⟨p, 0, none⟩) k k)]) (by kernel_rfl) (by kernel_rfl) (Js_mono sumJ_mono) rfl rfl (by simp) ?_ ?_
        · refine ⟨?_, ?_, ?_, ?_, ?_, ?_, ?_, ?_, ?_, ?_, ?_, ?_, ?_, ?_, ?_, ?_, ?_, ?_, ?_, ?_, ?_, ?_, ?_, ?_, ?_, trivial⟩
          · intro a w' hb hdep K hK
            have c0 := hb.at 0 0 _ rfl
            clear hdep
            go_simp
            exact hK _ _ rfl (Below.refl _ _)
          · intro a w' hb hdep K hK
            have c0 := hb.at 3 7 _ rfl
            clear hdep
            go_simp
            exact hK _ _ rfl (Below.refl _ _)
          · intro a w' hb hdep K hK
            obtain ⟨v0, e0, j0⟩ := hdep 0 (by kernel_rfl)
            replace e0 : a.tmps[44]? = some v0 := e0
            obtain rfl : v0 = _ := j0
            obtain ⟨v1, e1, j1⟩ := hdep 1 (by kernel_rfl)
            replace e1 : a.tmps[45]? = some v1 := e1
            obtain rfl : v1 = _ := j1
            clear hdep
            go_simp
            exact hK _ _ rfl (Below.refl _ _)
          · intro a w' hb hdep K hK
            obtain ⟨v2, e2, j2⟩ := hdep 2 (by kernel_rfl)
            replace e2 : a.tmps[46]? = some v2 := e2
            obtain rfl : v2 = _ := j2
            clear hdep
            go_simp
            exact hK _ _ ⟨_, rfl, heap_alloc_last w' _⟩ ((Below.refl _ _).alloc (Nat.le_refl _) _)
          · intro a w' hb hdep K hK
            obtain ⟨v3, e3, j3⟩ := hdep 3 (by kernel_rfl)
            replace e3 : a.tmps[47]? = some v3 := e3
            obtain ⟨g, rfl, hg⟩ : OneP _ v3 w' := j3
            have HG := Lib.hid hg
            clear hdep hg
            go_simp
            go_at_call 16
            refine (of_part w' g _ HG.out (OK0.out _ hb.bel)).mono ?_
            rintro e w2 ⟨rfl, hb2⟩
            dsimp only
            rw [HC0.out]
            exact hK _ _ rfl hb2
          · intro a w' hb hdep K hK
            have c0 := hb.at 1 1 _ rfl
            clear hdep
            go_simp
            exact hK _ _ rfl (Below.refl _ _)
          · intro a w' hb hdep K hK
            have c0 := hb.at 3 7 _ rfl
            clear hdep
            go_simp
            exact hK _ _ rfl (Below.refl _ _)
          · intro a w' hb hdep K hK
            obtain ⟨v5, e5, j5⟩ := hdep 5 (by kernel_rfl)
            replace e5 : a.tmps[49]? = some v5 := e5
            obtain rfl : v5 = _ := j5
            obtain ⟨v6, e6, j6⟩ := hdep 6 (by kernel_rfl)
            replace e6 : a.tmps[50]? = some v6 := e6
            obtain rfl : v6 = _ := j6
            clear hdep
            go_simp
            exact hK _ _ rfl (Below.refl _ _)
          · intro a w' hb hdep K hK
            obtain ⟨v7, e7, j7⟩ := hdep 7 (by kernel_rfl)
            replace e7 : a.tmps[51]? = some v7 := e7
            obtain rfl : v7 = _ := j7
            clear hdep
            go_simp
            exact hK _ _ ⟨_, rfl, heap_alloc_last w' _⟩ ((Below.refl _ _).alloc (Nat.le_refl _) _)
          · intro a w' hb hdep K hK
            obtain ⟨v8, e8, j8⟩ := hdep 8 (by kernel_rfl)
            replace e8 : a.tmps[52]? = some v8 := e8
            obtain ⟨g, rfl, hg⟩ : OneP _ v8 w' := j8
            have HG := Lib.hid hg
            clear hdep hg
            go_simp
            go_at_call 16
            refine (of_part w' g _ HG.out (OK1.out _ hb.bel)).mono ?_
            rintro e w2 ⟨rfl, hb2⟩
            dsimp only
            rw [HC1.out]
            exact hK _ _ rfl hb2
          · intro a w' hb hdep K hK
            obtain ⟨v4, e4, j4⟩ := hdep 4 (by kernel_rfl)
            replace e4 : a.tmps[48]? = some v4 := e4
            obtain rfl : v4 = _ := j4
            obtain ⟨v9, e9, j9⟩ := hdep 9 (by kernel_rfl)
            replace e9 : a.tmps[53]? = some v9 := e9
            obtain rfl : v9 = _ := j9
            clear hdep
            have hx := HX1.out
            go_simp
            exact hK _ _ rfl (Below.refl _ _)
          · intro a w' hb hdep K hK
            have c0 := hb.at 2 2 _ rfl
            clear hdep
            go_simp
            exact hK _ _ rfl (Below.refl _ _)
          · intro a w' hb hdep K hK
            have c0 := hb.at 3 7 _ rfl
            clear hdep
            go_simp
            exact hK _ _ rfl (Below.refl _ _)
          · intro a w' hb hdep K hK
            obtain ⟨v11, e11, j11⟩ := hdep 11 (by kernel_rfl)
            replace e11 : a.tmps[55]? = some v11 := e11
            obtain rfl : v11 = _ := j11
            obtain ⟨v12, e12, j12⟩ := hdep 12 (by kernel_rfl)
            replace e12 : a.tmps[56]? = some v12 := e12
            obtain rfl : v12 = _ := j12
            clear hdep
            go_simp
            exact hK _ _ rfl (Below.refl _ _)
          · intro a w' hb hdep K hK
            obtain ⟨v13, e13, j13⟩ := hdep 13 (by kernel_rfl)
            replace e13 : a.tmps[57]? = some v13 := e13
            obtain rfl : v13 = _ := j13
            clear hdep
            go_simp
            exact hK _ _ ⟨_, rfl, heap_alloc_last w' _⟩ ((Below.refl _ _).alloc (Nat.le_refl _) _)
          · intro a w' hb hdep K hK
            obtain ⟨v14, e14, j14⟩ := hdep 14 (by kernel_rfl)
            replace e14 : a.tmps[58]? = some v14 := e14
            obtain ⟨g, rfl, hg⟩ : OneP _ v14 w' := j14
            have HG := Lib.hid hg
            clear hdep hg
            go_simp
            go_at_call 16
            refine (of_part w' g _ HG.out (OK2.out _ hb.bel)).mono ?_
            rintro e w2 ⟨rfl, hb2⟩
            dsimp only
            rw [HC2.out]
            exact hK _ _ rfl hb2
          · intro a w' hb hdep K hK
            obtain ⟨v10, e10, j10⟩ := hdep 10 (by kernel_rfl)
            replace e10 : a.tmps[54]? = some v10 := e10
            obtain rfl : v10 = _ := j10
            obtain ⟨v15, e15, j15⟩ := hdep 15 (by kernel_rfl)
            replace e15 : a.tmps[59]? = some v15 := e15
            obtain rfl : v15 = _ := j15
            clear hdep
            have hx := HX2.out
            go_simp
            exact hK _ _ rfl (Below.refl _ _)
          · intro a w' hb hdep K hK
            have c0 := hb.at 4 8 _ rfl
            clear hdep
            go_simp
            exact hK _ _ rfl (Below.refl _ _)
          · intro a w' hb hdep K hK
            obtain ⟨v17, e17, j17⟩ := hdep 17 (by kernel_rfl)
            replace e17 : a.tmps[61]? = some v17 := e17
            obtain rfl : v17 = _ := j17
            clear hdep
            go_simp
            exact hK _ _ ⟨_, rfl, heap_alloc_last w' _⟩ ((Below.refl _ _).alloc (Nat.le_refl _) _)
          · intro a w' hb hdep K hK
            obtain ⟨v18, e18, j18⟩ := hdep 18 (by kernel_rfl)
            replace e18 : a.tmps[62]? = some v18 := e18
            obtain ⟨g, rfl, hg⟩ : OneP _ v18 w' := j18
            have HG := Lib.hid hg
            clear hdep hg
            go_simp
            go_at_call 16
            refine (of_part w' g _ HG.out (OK3.out _ hb.bel)).mono ?_
            rintro e w2 ⟨rfl, hb2⟩
            dsimp only
            rw [HC3.out]
            exact hK _ _ rfl hb2
          · intro a w' hb hdep K hK
            obtain ⟨v16, e16, j16⟩ := hdep 16 (by kernel_rfl)
            replace e16 : a.tmps[60]? = some v16 := e16
            obtain rfl : v16 = _ := j16
            obtain ⟨v19, e19, j19⟩ := hdep 19 (by kernel_rfl)
            replace e19 : a.tmps[63]? = some v19 := e19
            obtain rfl : v19 = _ := j19
            clear hdep
            go_simp
            exact hK _ _ rfl (Below.refl _ _)
          · intro a w' hb hdep K hK
            obtain ⟨v20, e20, j20⟩ := hdep 20 (by kernel_rfl)
            replace e20 : a.tmps[64]? = some v20 := e20
            obtain rfl : v20 = _ := j20
            clear hdep
            go_simp
            exact hK _ _ rfl (Below.refl _ _)
          · intro a w' hb hdep K hK
            obtain ⟨v21, e21, j21⟩ := hdep 21 (by kernel_rfl)
            replace e21 : a.tmps[65]? = some v21 := e21
            obtain rfl : v21 = _ := j21
            clear hdep
            go_simp
            go_at_call 9
            refine (wakes_call w').mono ?_
            rintro e w2 ⟨rfl, hb2⟩
            exact hK _ _ rfl hb2
          · intro a w' hb hdep K hK
            obtain ⟨v21, e21, j21⟩ := hdep 21 (by kernel_rfl)
            replace e21 : a.tmps[65]? = some v21 := e21
            obtain rfl : v21 = _ := j21
            obtain ⟨v22, e22, j22⟩ := hdep 22 (by kernel_rfl)
            replace e22 : a.tmps[66]? = some v22 := e22
            obtain rfl : v22 = _ := j22
            clear hdep
            go_simp
            exact hK _ _ rfl (Below.refl _ _)
          · intro a w' hb hdep K hK
            obtain ⟨v23, e23, j23⟩ := hdep 23 (by kernel_rfl)
            replace e23 : a.tmps[67]? = some v23 := e23
            obtain rfl : v23 = _ := j23
            clear hdep
            go_simp
            exact hK _ _ rfl (Below.refl _ _)
        · intro a w' hb hall
          obtain ⟨v, h6, hv⟩ := hall 24 (by decide)
          obtain rfl : v = .bool true := hv
          have HBB := Lib.hid (HB.out.trans (hb.bel.mono HB.out.size))
          have hd := hb.defers
          clear hall hb
          go_wp2
          replace h6 : a.tmps[6]? = some (.bool true) := h6
          exact bodyPost_ret (v := .bool true) (by simp [results, Try.results5, go_sem, h6]) hd ⟨rfl, HBB.out⟩

set_option maxRecDepth 100000 in
set_option maxHeartbeats 4000000 in
theorem sums_out (a0 : Option Addr) (n0 cap0 : Nat) (a1 : Option Addr) (n1 cap1 : Nat) (a2 : Option Addr) (n2 cap2 : Nat) (w : World) (h0 : n0 ≤ 9223372036854775807) (h1 : n1 ≤ 9223372036854775807) (h2 : n2 ≤ 9223372036854775807)
    (n : Nat) (hn : 600 < n) (hnm : n = min n0 (min n1 n2)) :
    Calls Try.prog 5 #[.slice a0 n0 cap0, .slice a1 n1 cap1, .slice a2 n2 cap2] w fun e w' => e = .returned (.bool true) ∧ Below w.heap.size w w' := by
  have HNM := Lib.hid hnm
  clear hnm
  go_enter Try.func5, Try.ntmps5
  go_upto_region 1 with fail
  go_cut [7] (fun s7 wx => s7 = .int .i64 n ∧ wx = w)
  case first =>
    go_wp2
    all_goals go_meet
    all_goals
      refine ⟨?_, rfl⟩
      congr 1
      have := HNM.out
      omega
  case rest =>
    obtain ⟨rfl, hwc⟩ := hcut
    obtain rfl : w = wc := hwc.symm
    have d1 : decide ((600 : Int) < (n : Int)) = true := by simp; omega
    go_wp2_with fail
    refine (wakes_call w).mono ?_
    rintro e w1 ⟨rfl, hb⟩
    go_wp2
    go_ret
    exact ⟨rfl, hb⟩

theorem sums_call (a0 : Option Addr) (len0 cap0 : Nat) (z0 : List Int) (a1 : Option Addr) (len1 cap1 : Nat) (z1 : List Int) (a2 : Option Addr) (len2 cap2 : Nat) (z2 : List Int) (w : World) (h0 : IsRow .u8 w a0 len0 cap0 z0) (h1 : IsRow .u8 w a1 len1 cap1 z1) (h2 : IsRow .u8 w a2 len2 cap2 z2) :
    Calls Try.prog 5 #[.slice a0 len0 cap0, .slice a1 len1 cap1, .slice a2 len2 cap2] w fun e w' => e = .returned (.bool true) ∧ Below w.heap.size w w' := by
  have m0 := h0.capMax
  have m1 := h1.capMax
  have m2 := h2.capMax
  obtain ⟨p0, p1, p2, p3, p4⟩ := h0.src
  obtain ⟨q0, q1, q2, q3, q4⟩ := h1.src
  obtain ⟨r0, r1, r2, r3, r4⟩ := h2.src
  by_cases h : 600 < min len0 (min len1 len2)
  · exact sums_out a0 len0 cap0 a1 len1 cap1 a2 len2 cap2 w p3 q3 r3 _ h rfl
  · exact sums_in a0 len0 cap0 a1 len1 cap1 a2 len2 cap2 w (z0.take len0) (z1.take len1) (z2.take len2) p0 p1 (Byts.of_wf p2) p4 m0 q0 q1 (Byts.of_wf q2) q4 m1 r0 r1 (Byts.of_wf r2) r4 m2 _ (by omega) rfl
end Go.Proofs.Ytpodepplfhjdfaa
