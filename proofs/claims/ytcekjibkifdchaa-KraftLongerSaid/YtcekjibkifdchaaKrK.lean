/- wakes of stage 8. -/
import Derived.Test.YtcekjibkifdchaaKrB
set_option linter.unusedVariables false
set_option linter.unusedSimpArgs false
namespace Go.Proofs.Ytcekjibkifdchaa
open Go.RowKit

def kA : List Int := ((zL.set 0 1).set 1 2).set 257 2
def kB : List Int := ((zL.set 0 1).set 1 1).set 257 15
def kC : List Int := zL.set 257 1
def kD : List Int := zL.set 5 16
def kT : List Int := ((zT.set 0 5).set 1 2).set 9 7
def kN : List Int := zT.set 0 (-1)
theorem kA_lng : Lng kA := ((zL_lng.set 0 1 (by decide)).set 1 2 (by decide)).set 257 2 (by decide)
theorem kB_lng : Lng kB := ((zL_lng.set 0 1 (by decide)).set 1 1 (by decide)).set 257 15 (by decide)
theorem kC_lng : Lng kC := zL_lng.set 257 1 (by decide)
theorem kD_lng : Lng kD := zL_lng.set 5 16 (by decide)
theorem kT_tal : Tal kT := ((zT_tal.set 0 5 (by decide)).set 1 2 (by decide)).set 9 7 (by decide)
theorem kN_tal : Tal kN := zT_tal.set 0 (-1) (by decide)
theorem k_sum : ks kA = 32768 ∧ ks kB = 32769 ∧ ks kC = 16384 ∧ ks kD = 32769 := by decide +kernel
theorem k_tab : tableV kA = true := by decide +kernel
theorem k_cnt : (cntT kA 258).getD 0 0 = 255 ∧ (cntT kA 258).getD 1 0 = 1 ∧ (cntT kA 258).getD 2 0 = 2 := by decide +kernel
theorem k_cost : totV kT kA = 9 ∧ totV kN kA = 0 := by decide +kernel
theorem k_dst : dst [kA, kB, kA] = [kA, kB] := by decide +kernel

set_option maxRecDepth 100000 in
set_option maxHeartbeats 4000000 in
theorem wakes_call (w : World) : Calls Try.prog 7 #[] w fun e w' => e = .returned (.bool true) ∧ Below w.heap.size w w' := by
  have sA : ∀ w : World, Calls Try.prog 9 #[.agg (lg kA)] w fun e w' => e = .returned (.int .i64 32768) ∧ Below w.heap.size w w' := fun w => by
    have h := sum_call kA kA_lng w
    rw [k_sum.1] at h
    exact h
  have fA : ∀ w : World, Calls Try.prog 10 #[.agg (lg kA)] w fun e w' => e = .returned (.bool true) ∧ Below w.heap.size w w' := fun w => by
    have h := fits_call kA kA_lng w
    rw [k_sum.1] at h
    exact h
  have cA : ∀ w : World, Calls Try.prog 11 #[.agg (lg kA)] w fun e w' => e = .returned (.bool true) ∧ Below w.heap.size w w' := fun w => by
    have h := complete_call kA kA_lng w
    rw [k_sum.1] at h
    exact h
  have sB : ∀ w : World, Calls Try.prog 9 #[.agg (lg kB)] w fun e w' => e = .returned (.int .i64 32769) ∧ Below w.heap.size w w' := fun w => by
    have h := sum_call kB kB_lng w
    rw [k_sum.2.1] at h
    exact h
  have fB : ∀ w : World, Calls Try.prog 10 #[.agg (lg kB)] w fun e w' => e = .returned (.bool false) ∧ Below w.heap.size w w' := fun w => by
    have h := fits_call kB kB_lng w
    rw [k_sum.2.1] at h
    exact h
  have cB : ∀ w : World, Calls Try.prog 11 #[.agg (lg kB)] w fun e w' => e = .returned (.bool false) ∧ Below w.heap.size w w' := fun w => by
    have h := complete_call kB kB_lng w
    rw [k_sum.2.1] at h
    exact h
  have sC : ∀ w : World, Calls Try.prog 9 #[.agg (lg kC)] w fun e w' => e = .returned (.int .i64 16384) ∧ Below w.heap.size w w' := fun w => by
    have h := sum_call kC kC_lng w
    rw [k_sum.2.2.1] at h
    exact h
  have fC : ∀ w : World, Calls Try.prog 10 #[.agg (lg kC)] w fun e w' => e = .returned (.bool true) ∧ Below w.heap.size w w' := fun w => by
    have h := fits_call kC kC_lng w
    rw [k_sum.2.2.1] at h
    exact h
  have cC : ∀ w : World, Calls Try.prog 11 #[.agg (lg kC)] w fun e w' => e = .returned (.bool false) ∧ Below w.heap.size w w' := fun w => by
    have h := complete_call kC kC_lng w
    rw [k_sum.2.2.1] at h
    exact h
  have sD : ∀ w : World, Calls Try.prog 9 #[.agg (lg kD)] w fun e w' => e = .returned (.int .i64 32769) ∧ Below w.heap.size w w' := fun w => by
    have h := sum_call kD kD_lng w
    rw [k_sum.2.2.2] at h
    exact h
  have fD : ∀ w : World, Calls Try.prog 10 #[.agg (lg kD)] w fun e w' => e = .returned (.bool false) ∧ Below w.heap.size w w' := fun w => by
    have h := fits_call kD kD_lng w
    rw [k_sum.2.2.2] at h
    exact h
  have tA : ∀ w : World, Calls Try.prog 12 #[.agg (lg kA)] w fun e w' => e = .returned (.bool true) ∧ Below w.heap.size w w' := fun w => by
    have h := table_call kA kA_lng w
    rw [k_tab] at h
    exact h
  have cT : ∀ w : World, Calls Try.prog 16 #[.agg (tl kT), .agg (lg kA)] w fun e w' => e = .returned (.int .i64 9) ∧ Below w.heap.size w w' := fun w => by
    have h := cost_call kT kA kT_tal kA_lng w
    rw [k_cost.1] at h
    exact h
  have cN : ∀ w : World, Calls Try.prog 16 #[.agg ((tl zT).setIfInBounds 0 (.int .i64 (-1))), .agg (lg kA)] w fun e w' => e = .returned (.int .i64 0) ∧ Below w.heap.size w w' := fun w => by
    have h := cost_call kN kA kN_tal kA_lng w
    rw [k_cost.2, show tl kN = (tl zT).setIfInBounds 0 (.int .i64 (-1)) from (tl_set zT 0 (-1)).symm] at h
    exact h
  have hK := fun w => counts_call kA kA_lng w
  have hd : ∀ (sp : Option Addr) (w : World), LSrc w sp [kA, kB, kA] → Calls Try.prog 18 #[.slice sp 3 3] w fun e w' => e = .returned (.int .i64 2) ∧ Below w.heap.size w w' := fun sp w h => by
    have := diff_call sp 3 3 [kA, kB, kA] w rfl h (by omega)
    rw [k_dst] at this
    exact this
  have hS := cntT_sxt kA 258 (by omega)
  obtain ⟨n0, n1, n2⟩ := k_cnt
  have n0 := fun (w' : World) (g : Nat) (hg : w'.heap[g]? = some (.cells (xl (cntT kA 258)) 30 (0, 0))) => n0 ▸ xl_cell hg hS 0 (by omega)
  have n1 := fun (w' : World) (g : Nat) (hg : w'.heap[g]? = some (.cells (xl (cntT kA 258)) 30 (0, 0))) => n1 ▸ xl_cell hg hS 1 (by omega)
  have n2 := fun (w' : World) (g : Nat) (hg : w'.heap[g]? = some (.cells (xl (cntT kA 258)) 30 (0, 0))) => n2 ▸ xl_cell hg hS 2 (by omega)
  have CE := Lib.hid (And.intro n0 (And.intro n1 n2))
  clear n0 n1 n2
  have hA := kA_lng
  have hB := kB_lng
  have hC := kC_lng
  have hD := kD_lng
  have hT := kT_tal
  have eA := Lib.hid (show ((zL.set 0 1).set 1 2).set 257 2 = kA from rfl)
  have eB := Lib.hid (show ((zL.set 0 1).set 1 1).set 257 15 = kB from rfl)
  have eC := Lib.hid (show zL.set 257 1 = kC from rfl)
  have eD := Lib.hid (show zL.set 5 16 = kD from rfl)
  have eT := Lib.hid (show ((zT.set 0 5).set 1 2).set 9 7 = kT from rfl)
  generalize kA = A at *
  generalize kB = B at *
  generalize kC = C at *
  generalize kD = D at *
  generalize kT = T at *
  generalize cntT A 258 = N at hK hS CE
  have hzL := lngZ
  have hzT := talZ
  have hzX := sxtZ
  go_enter Try.func7, Try.ntmps7
  go_upto_region 2 with fail
  have h := W4.new w zL_lng
  generalize (((w.alloc (.cells (lg zL) 23)).alloc (.cells (lg zL) 23)).alloc (.cells (lg zL) 23)).alloc (.cells (lg zL) 23) = w1 at h ⊢
  go_upto_region 6 with (first
    | (refine h.st_a rfl _ _ rfl rfl 0 (by omega) rfl 1 (by decide) rfl ?_; clear h; intro y h)
    | (refine h.st_a rfl _ _ rfl rfl 1 (by omega) rfl 2 (by decide) rfl ?_; clear h; intro y h)
    | (refine h.st_a rfl _ _ rfl rfl 257 (by omega) rfl 2 (by decide) rfl ?_; clear h; intro y h)
    | (refine h.st_b rfl _ _ rfl rfl 0 (by omega) rfl 1 (by decide) rfl ?_; clear h; intro y h)
    | (refine h.st_b rfl _ _ rfl rfl 1 (by omega) rfl 1 (by decide) rfl ?_; clear h; intro y h)
    | (refine h.st_b rfl _ _ rfl rfl 257 (by omega) rfl 15 (by decide) rfl ?_; clear h; intro y h)
    | (refine h.st_c rfl _ _ rfl rfl 257 (by omega) rfl 1 (by decide) rfl ?_; clear h; intro y h)
    | (refine h.st_d rfl _ _ rfl rfl 5 (by omega) rfl 16 (by decide) rfl ?_; clear h; intro y h))
  rw [eA.out, eB.out, eC.out, eD.out] at h
  have HA := Lib.hid h.a
  have ga := h.a
  go_upto_region 7 with (first
    | (refine wpList_load_row rfl 23 _ rfl w.heap.size rfl 23 (lg A) (0, 0) _ ga Try.underlying23 rfl (lngIk hA) ?_)
    | (with_reducible refine (hK _).mono ?_
       rintro e x ⟨rfl, hb⟩
       replace h := h.on hb
       clear hb hK)
    | (refine wpList_store_row rfl 30 _ _ rfl x.heap.size (xl N) rfl rfl 30 (xl zX) (heap_alloc_last x _) (sxtIk hS) (by rw [xl_size zX_sxt, xl_size hS]) (xl_all _) ?_))
  rw [World.setRow_alloc_new]
  have hn := heap_alloc_last x (.cells (xl N) 30)
  replace h := h.on (below_al x (.cells (xl N) 30))
  generalize x.alloc (.cells (xl N) 30) = x1 at hn h ⊢
  clear ga HA
  go_upto_region 8 with fail
  have ht := T1.new x1 zT_tal
  generalize x1.alloc (.cells (tl zT) 25) = x2 at ht ⊢
  go_upto_region 9 with (first
    | (refine ht.st rfl _ _ rfl rfl 0 (by omega) rfl 5 (by decide) rfl ?_; clear ht; intro x2 ht)
    | (refine ht.st rfl _ _ rfl rfl 1 (by omega) rfl 2 (by decide) rfl ?_; clear ht; intro x2 ht)
    | (refine ht.st rfl _ _ rfl rfl 9 (by omega) rfl 7 (by decide) rfl ?_; clear ht; intro x2 ht))
  rw [eT.out] at ht
  replace h := h.on ht.bel
  replace hn := heap_on ht.bel hn
  have hgT := ht.row
  have m0 := CE.out.1 _ _ hn
  have m1 := CE.out.2.1 _ _ hn
  have m2 := CE.out.2.2 _ _ hn
  have ga := h.a
  have gb := h.b
  have gc := h.c
  have gd := h.d
  have HB := Lib.hid h.bel
  clear h ht hn hzL hzX CE eA eB eC eD eT hS
  dsimp only [List.append]
  go_wp2_with (refine wpList_load_row rfl 23 _ rfl w.heap.size rfl 23 (lg A) (0, 0) _ ga Try.underlying23 rfl (lngIk hA) ?_)
  with_reducible refine (sA _).mono ?_
  rintro e z ⟨rfl, hb⟩
  replace HB := Lib.hid (HB.out.trans (hb.mono HB.out.size))
  replace hgT := heap_on hb hgT
  replace ga := heap_on hb ga
  replace gb := heap_on hb gb
  replace gc := heap_on hb gc
  replace gd := heap_on hb gd
  replace m0 := cell_on hb m0
  replace m1 := cell_on hb m1
  replace m2 := cell_on hb m2
  clear hb sA
  go_wp2_with (refine wpList_load_row_g 3 true rfl 23 rfl _ rfl rfl 23 _ rfl w.heap.size rfl 23 (lg A) (0, 0) _ ga Try.underlying23 rfl (lngIk hA) ?_)
  with_reducible refine (fA _).mono ?_
  rintro e z ⟨rfl, hb⟩
  replace HB := Lib.hid (HB.out.trans (hb.mono HB.out.size))
  replace hgT := heap_on hb hgT
  replace ga := heap_on hb ga
  replace gb := heap_on hb gb
  replace gc := heap_on hb gc
  replace gd := heap_on hb gd
  replace m0 := cell_on hb m0
  replace m1 := cell_on hb m1
  replace m2 := cell_on hb m2
  clear hb fA
  go_wp2_with (refine wpList_load_row_g 7 true rfl 27 rfl _ rfl rfl 23 _ rfl w.heap.size rfl 23 (lg A) (0, 0) _ ga Try.underlying23 rfl (lngIk hA) ?_)
  with_reducible refine (cA _).mono ?_
  rintro e z ⟨rfl, hb⟩
  replace HB := Lib.hid (HB.out.trans (hb.mono HB.out.size))
  replace hgT := heap_on hb hgT
  replace ga := heap_on hb ga
  replace gb := heap_on hb gb
  replace gc := heap_on hb gc
  replace gd := heap_on hb gd
  replace m0 := cell_on hb m0
  replace m1 := cell_on hb m1
  replace m2 := cell_on hb m2
  clear hb cA
  go_wp2_with (refine wpList_load_row_g 11 true rfl 31 rfl _ rfl rfl 23 _ rfl w.heap.size rfl 23 (lg A) (0, 0) _ ga Try.underlying23 rfl (lngIk hA) ?_)
  with_reducible refine (tA _).mono ?_
  rintro e z ⟨rfl, hb⟩
  replace HB := Lib.hid (HB.out.trans (hb.mono HB.out.size))
  replace hgT := heap_on hb hgT
  replace ga := heap_on hb ga
  replace gb := heap_on hb gb
  replace gc := heap_on hb gc
  replace gd := heap_on hb gd
  replace m0 := cell_on hb m0
  replace m1 := cell_on hb m1
  replace m2 := cell_on hb m2
  clear hb tA
  go_wp2_with (refine wpList_load_row_g 15 true rfl 35 rfl _ rfl rfl 23 _ rfl (w.heap.size + 1) rfl 23 (lg B) (0, 0) _ gb Try.underlying23 rfl (lngIk hB) ?_)
  with_reducible refine (sB _).mono ?_
  rintro e z ⟨rfl, hb⟩
  replace HB := Lib.hid (HB.out.trans (hb.mono HB.out.size))
  replace hgT := heap_on hb hgT
  replace ga := heap_on hb ga
  replace gb := heap_on hb gb
  replace gc := heap_on hb gc
  replace gd := heap_on hb gd
  replace m0 := cell_on hb m0
  replace m1 := cell_on hb m1
  replace m2 := cell_on hb m2
  clear hb sB
  go_wp2_with (refine wpList_load_row_g 20 true rfl 40 rfl _ rfl rfl 23 _ rfl (w.heap.size + 1) rfl 23 (lg B) (0, 0) _ gb Try.underlying23 rfl (lngIk hB) ?_)
  with_reducible refine (fB _).mono ?_
  rintro e z ⟨rfl, hb⟩
  replace HB := Lib.hid (HB.out.trans (hb.mono HB.out.size))
  replace hgT := heap_on hb hgT
  replace ga := heap_on hb ga
  replace gb := heap_on hb gb
  replace gc := heap_on hb gc
  replace gd := heap_on hb gd
  replace m0 := cell_on hb m0
  replace m1 := cell_on hb m1
  replace m2 := cell_on hb m2
  clear hb fB
  go_wp2_with (refine wpList_load_row_g 25 true rfl 45 rfl _ rfl rfl 23 _ rfl (w.heap.size + 1) rfl 23 (lg B) (0, 0) _ gb Try.underlying23 rfl (lngIk hB) ?_)
  with_reducible refine (cB _).mono ?_
  rintro e z ⟨rfl, hb⟩
  replace HB := Lib.hid (HB.out.trans (hb.mono HB.out.size))
  replace hgT := heap_on hb hgT
  replace ga := heap_on hb ga
  replace gb := heap_on hb gb
  replace gc := heap_on hb gc
  replace gd := heap_on hb gd
  replace m0 := cell_on hb m0
  replace m1 := cell_on hb m1
  replace m2 := cell_on hb m2
  clear hb cB
  go_wp2_with (refine wpList_load_row_g 30 true rfl 50 rfl _ rfl rfl 23 _ rfl (w.heap.size + 1 + 1) rfl 23 (lg C) (0, 0) _ gc Try.underlying23 rfl (lngIk hC) ?_)
  with_reducible refine (sC _).mono ?_
  rintro e z ⟨rfl, hb⟩
  replace HB := Lib.hid (HB.out.trans (hb.mono HB.out.size))
  replace hgT := heap_on hb hgT
  replace ga := heap_on hb ga
  replace gb := heap_on hb gb
  replace gc := heap_on hb gc
  replace gd := heap_on hb gd
  replace m0 := cell_on hb m0
  replace m1 := cell_on hb m1
  replace m2 := cell_on hb m2
  clear hb sC
  go_wp2_with (refine wpList_load_row_g 35 true rfl 55 rfl _ rfl rfl 23 _ rfl (w.heap.size + 1 + 1) rfl 23 (lg C) (0, 0) _ gc Try.underlying23 rfl (lngIk hC) ?_)
  with_reducible refine (fC _).mono ?_
  rintro e z ⟨rfl, hb⟩
  replace HB := Lib.hid (HB.out.trans (hb.mono HB.out.size))
  replace hgT := heap_on hb hgT
  replace ga := heap_on hb ga
  replace gb := heap_on hb gb
  replace gc := heap_on hb gc
  replace gd := heap_on hb gd
  replace m0 := cell_on hb m0
  replace m1 := cell_on hb m1
  replace m2 := cell_on hb m2
  clear hb fC
  go_wp2_with (refine wpList_load_row_g 39 true rfl 59 rfl _ rfl rfl 23 _ rfl (w.heap.size + 1 + 1) rfl 23 (lg C) (0, 0) _ gc Try.underlying23 rfl (lngIk hC) ?_)
  with_reducible refine (cC _).mono ?_
  rintro e z ⟨rfl, hb⟩
  replace HB := Lib.hid (HB.out.trans (hb.mono HB.out.size))
  replace hgT := heap_on hb hgT
  replace ga := heap_on hb ga
  replace gb := heap_on hb gb
  replace gc := heap_on hb gc
  replace gd := heap_on hb gd
  replace m0 := cell_on hb m0
  replace m1 := cell_on hb m1
  replace m2 := cell_on hb m2
  clear hb cC
  go_wp2_with (refine wpList_load_row_g 44 true rfl 64 rfl _ rfl rfl 23 _ rfl (w.heap.size + 1 + 1 + 1) rfl 23 (lg D) (0, 0) _ gd Try.underlying23 rfl (lngIk hD) ?_)
  with_reducible refine (sD _).mono ?_
  rintro e z ⟨rfl, hb⟩
  replace HB := Lib.hid (HB.out.trans (hb.mono HB.out.size))
  replace hgT := heap_on hb hgT
  replace ga := heap_on hb ga
  replace gb := heap_on hb gb
  replace gc := heap_on hb gc
  replace gd := heap_on hb gd
  replace m0 := cell_on hb m0
  replace m1 := cell_on hb m1
  replace m2 := cell_on hb m2
  clear hb sD
  go_wp2_with (refine wpList_load_row_g 49 true rfl 69 rfl _ rfl rfl 23 _ rfl (w.heap.size + 1 + 1 + 1) rfl 23 (lg D) (0, 0) _ gd Try.underlying23 rfl (lngIk hD) ?_)
  with_reducible refine (fD _).mono ?_
  rintro e z ⟨rfl, hb⟩
  replace HB := Lib.hid (HB.out.trans (hb.mono HB.out.size))
  replace hgT := heap_on hb hgT
  replace ga := heap_on hb ga
  replace gb := heap_on hb gb
  replace gc := heap_on hb gc
  replace gd := heap_on hb gd
  replace m0 := cell_on hb m0
  replace m1 := cell_on hb m1
  replace m2 := cell_on hb m2
  clear hb fD
  go_wp2_with (first | (refine wpList_load_row_g 69 true rfl 89 rfl _ rfl rfl 25 _ rfl x1.heap.size rfl 25 (tl T) (0, 0) _ hgT Try.underlying25 rfl (talIk hT) ?_) | (refine wpList_load_row_g 69 true rfl 89 rfl _ rfl rfl 23 _ rfl w.heap.size rfl 23 (lg A) (0, 0) _ ga Try.underlying23 rfl (lngIk hA) ?_))
  with_reducible refine (cT _).mono ?_
  rintro e z ⟨rfl, hb⟩
  replace HB := Lib.hid (HB.out.trans (hb.mono HB.out.size))
  replace hgT := heap_on hb hgT
  replace ga := heap_on hb ga
  replace gb := heap_on hb gb
  replace gc := heap_on hb gc
  replace gd := heap_on hb gd
  clear hb cT
  go_wp2_with (refine wpList_load_row_g 75 true rfl 95 rfl _ rfl rfl 23 _ rfl w.heap.size rfl 23 (lg A) (0, 0) _ ga Try.underlying23 rfl (lngIk hA) ?_)
  with_reducible refine (cN _).mono ?_
  rintro e z ⟨rfl, hb⟩
  replace HB := Lib.hid (HB.out.trans (hb.mono HB.out.size))
  replace hgT := heap_on hb hgT
  replace ga := heap_on hb ga
  replace gb := heap_on hb gb
  replace gc := heap_on hb gc
  replace gd := heap_on hb gd
  clear hb cN
  go_wp2_with (first | (refine wpList_load_row_g 81 true rfl 101 rfl _ rfl rfl 23 _ rfl w.heap.size rfl 23 (lg A) (0, 0) _ ga Try.underlying23 rfl (lngIk hA) ?_) | (refine wpList_load_row_g 81 true rfl 101 rfl _ rfl rfl 23 _ rfl (w.heap.size + 1) rfl 23 (lg B) (0, 0) _ gb Try.underlying23 rfl (lngIk hB) ?_))
  refine wp_lngs3 _ _ _ rfl A B A hA hB hA rfl rfl rfl ?_
  intro cells hsrc
  have hdd := hd _ _ hsrc
  have hl := below_al z (.cells cells 23)
  replace HB := Lib.hid (HB.out.trans (hl.mono HB.out.size))
  generalize z.alloc (.cells cells 23) = z1 at hdd hl HB ⊢
  clear hsrc hl hd
  go_wp2_with (refine hdd.mono ?_; rintro e z2 ⟨rfl, hb⟩; replace HB := Lib.hid (HB.out.trans (hb.mono HB.out.size)); clear hb hdd)
  go_ret
  exact ⟨rfl, HB.out⟩
end Go.Proofs.Ytcekjibkifdchaa
