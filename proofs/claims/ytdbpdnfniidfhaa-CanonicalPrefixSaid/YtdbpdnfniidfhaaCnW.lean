/- wakes of stage 9. -/
import Derived.Test.YtdbpdnfniidfhaaCnFd
import Derived.Test.YtdbpdnfniidfhaaCnO
import Derived.Test.YtdbpdnfniidfhaaCnR
set_option linter.unusedVariables false
set_option linter.unusedSimpArgs false
namespace Go.Proofs.Ytdbpdnfniidfhaa
open Go.RowKit

def kA : List Int := (((zL.set 0 3).set 1 3).set 2 2).set 3 1
def kB : List Int := ((zL.set 0 1).set 1 1).set 2 1
def kC : List Int := zL.set 0 16
def kD : List Int := (((zC.set 0 6).set 1 7).set 2 2).set 3 0
theorem kA_lng : Lng kA := (((zL_lng.set 0 3 (by decide)).set 1 3 (by decide)).set 2 2 (by decide)).set 3 1 (by decide)
theorem kB_lng : Lng kB := ((zL_lng.set 0 1 (by decide)).set 1 1 (by decide)).set 2 1 (by decide)
theorem kC_lng : Lng kC := zL_lng.set 0 16 (by decide)
theorem kD_cds : Cds kD := (((zC_cds.set 0 6 (by decide)).set 1 7 (by decide)).set 2 2 (by decide)).set 3 0 (by decide)
theorem k_sum : ks kA = 32768 ∧ ks kB = 49152 ∧ ks kC = 32769 := by decide +kernel
theorem kA_v : VL kA := ⟨kA_lng, by rw [k_sum.1]; decide⟩
theorem k_fc : fcL (cntT kA 258) 3 = 6 ∧ cc kA 3 258 = 2 ∧ cc kA 4 258 = 0 := by decide +kernel
theorem k_cod : codT kA 258 = kD := by decide +kernel
theorem k_fnd : fndL kA 7 3 258 = some 1 ∧ fndL kA 7 4 258 = none := by decide +kernel
theorem k_ord : ordI kA = [3, 2, 0, 1] := by decide +kernel

set_option maxRecDepth 100000 in
set_option maxHeartbeats 4000000 in
theorem wakes_call (w : World) : Calls Try.prog 6 #[] w fun e w' => e = .returned (.bool true) ∧ Below w.heap.size w w' := by
  have vA := kA_v
  have cA : ∀ w : World, Calls Try.prog 7 #[.agg (lg kA)] w fun e w' => e = .returned (.tuple #[.agg (cl kD), .int .i64 0]) ∧ Below w.heap.size w w' := fun w => by
    have h := codes_call kA kA_lng w
    rw [show codR kA = codT kA 258 from if_pos vA.sum, show codE kA = 0 from if_pos vA.sum, k_cod] at h
    exact h
  have nB : ¬ ks kB ≤ 32768 := by rw [k_sum.2.1]; decide
  have nC : ¬ ks kC ≤ 32768 := by rw [k_sum.2.2]; decide
  have cB : ∀ w : World, Calls Try.prog 7 #[.agg (((( lg zL).setIfInBounds 0 (.int .u8 1)).setIfInBounds 1 (.int .u8 1)).setIfInBounds 2 (.int .u8 1))] w fun e w' => e = .returned (.tuple #[.agg (cl zC), .int .i64 2]) ∧ Below w.heap.size w w' := fun w => by
    have h := codes_call kB kB_lng w
    rw [show codR kB = zC from if_neg nB, show codE kB = 2 from if_neg nB] at h
    rw [lg_set, lg_set, lg_set]
    exact h
  have cC : ∀ w : World, Calls Try.prog 7 #[.agg ((lg zL).setIfInBounds 0 (.int .u8 16))] w fun e w' => e = .returned (.tuple #[.agg (cl zC), .int .i64 2]) ∧ Below w.heap.size w w' := fun w => by
    have h := codes_call kC kC_lng w
    rw [show codR kC = zC from if_neg nC, show codE kC = 2 from if_neg nC] at h
    rw [lg_set]
    exact h
  have f3 : ∀ w : World, Calls Try.prog 10 #[.agg (lg kA), .int .u32 7, .int .i64 3] w fun e w' => e = .returned (.tuple #[.int .i64 1, .bool true]) ∧ Below w.heap.size w w' := fun w => by
    have h := find_call kA vA 7 3 (by decide) (by decide) w
    rw [fndV, k_fnd.1] at h
    exact h
  have f4 : ∀ w : World, Calls Try.prog 10 #[.agg (lg kA), .int .u32 7, .int .i64 4] w fun e w' => e = .returned (.tuple #[.int .i64 0, .bool false]) ∧ Below w.heap.size w w' := fun w => by
    have h := find_call kA vA 7 4 (by decide) (by decide) w
    rw [fndV, k_fnd.2] at h
    exact h
  have t3 : ∀ w : World, Calls Try.prog 11 #[.agg (lg kA), .int .i64 3] w fun e w' => e = .returned (.tuple #[.int .u32 6, .int .i64 2, .bool true]) ∧ Below w.heap.size w w' := fun w => by
    have h := first_call kA vA 3 (by decide) (by decide) w
    rw [fstV, k_fc.1, k_fc.2.1] at h
    exact h
  have t4 : ∀ w : World, Calls Try.prog 11 #[.agg (lg kA), .int .i64 4] w fun e w' => e = .returned (.tuple #[.int .u32 0, .int .i64 0, .bool false]) ∧ Below w.heap.size w w' := fun w => by
    have h := first_call kA vA 4 (by decide) (by decide) w
    rw [fstV, k_fc.2.2] at h
    exact h
  have oA : ∀ w : World, Calls Try.prog 8 #[.agg (lg kA)] w fun e w' => ∃ A c, e = .returned (.slice (ad0 A) 4 c) ∧ Src w' .i64 (ad0 A) [3, 2, 0, 1] ∧ Below w.heap.size w w' := fun w => by
    refine (order_call kA kA_lng w).mono ?_
    rintro e w' ⟨A, c, rfl, h1, h2, h3⟩
    rw [show ordR kA = ordI kA from if_pos vA.sum, k_ord] at h1 ⊢
    exact ⟨A, c, rfl, h1.src, h3⟩
  have iA : ∀ (a b : Option Addr) (c e : Nat) (w : World), Src w .i64 a [3, 2, 0, 1] → Src w .i64 b [3, 2, 0, 1] → Calls Try.prog 12 #[.slice a 4 c, .slice b 4 e] w fun r w' => r = .returned (.bool true) ∧ Below w.heap.size w w' := fun a b c e w h1 h2 => by
    have h := ints_call a b 4 4 c e [3, 2, 0, 1] [3, 2, 0, 1] w rfl rfl h1 h2 (by decide) (by decide)
    exact h
  have uA : ∀ w : World, Calls Try.prog 13 #[.agg (lg kA)] w fun e w' => e = .returned (.bool true) ∧ Below w.heap.size w w' := fun w => by
    have h := valid_call kA kA_lng w
    rw [decide_eq_true vA.sum] at h
    exact h
  have uB : ∀ w : World, Calls Try.prog 13 #[.agg (((( lg zL).setIfInBounds 0 (.int .u8 1)).setIfInBounds 1 (.int .u8 1)).setIfInBounds 2 (.int .u8 1))] w fun e w' => e = .returned (.bool false) ∧ Below w.heap.size w w' := fun w => by
    have h := valid_call kB kB_lng w
    rw [decide_eq_false nB] at h
    rw [lg_set, lg_set, lg_set]
    exact h
  have hA := kA_lng
  have hD := kD_cds
  have eA := Lib.hid (show (((((lg zL).setIfInBounds 0 (.int .u8 3)).setIfInBounds 1 (.int .u8 3)).setIfInBounds 2 (.int .u8 2)).setIfInBounds 3 (.int .u8 1)) = lg kA by rw [lg_set, lg_set, lg_set, lg_set]; rfl)
  have hq : ∀ W : World, (Op.equalIn 10000 28 (.agg (cl kD)) (.agg ((((( cl zC).setIfInBounds 0 (.int .u32 6)).setIfInBounds 1 (.int .u32 7)).setIfInBounds 2 (.int .u32 2)).setIfInBounds 3 (.int .u32 0)))).run Try.prog W = .ok true W := fun W => by
    rw [cl_set, cl_set, cl_set, cl_set]
    have := run_eqi_cds W kD_cds kD_cds
    rw [decide_eq_true rfl] at this
    exact this
  have HIA := Lib.hid iA
  have HO := Lib.hid oA
  clear iA oA vA nB nC
  have hZ := zC_cds
  have hzC := cdsZ
  generalize zC = Z at *
  generalize kA = A at *
  generalize kD = D at *
  have hzL := lngZ
  go_enter Try.func6, Try.ntmps6
  have hzs := lg_size zL_lng
  have hZs := cl_size hZ
  have hne1 : ¬ cl Z = #[] := fun e => by have := cl_size hZ; rw [e] at this; simp at this
  have hne2 : ¬ lg zL = #[] := fun e => by have := lg_size zL_lng; rw [e] at this; simp at this
  go_upto_region 2 with (refine wpList_store_row rfl 23 _ _ rfl w.heap.size (((((lg zL).setIfInBounds 0 (.int .u8 3)).setIfInBounds 1 (.int .u8 3)).setIfInBounds 2 (.int .u8 2)).setIfInBounds 3 (.int .u8 1)) rfl rfl 23 (lg zL) (heap_alloc_last w _) (by rw [eA.out]; exact lngIk hA) (by rw [eA.out, lg_size hA, hzs]) (by rw [eA.out]; exact lg_all _) ?_)
  rw [World.setRow_alloc_new]
  try simp only [Act.put]
  rw [eA.out]
  have hg := heap_alloc_last w (.cells (lg A) 23)
  have hb := (Below.refl w.heap.size w).alloc (Nat.le_refl _) (.cells (lg A) 23)
  generalize w.alloc (.cells (lg A) 23) = w1 at hg hb ⊢
  have HB := Lib.hid hb
  clear hb
  go_upto_region 3 with (first
    | (refine wpList_load_row rfl 23 _ rfl w.heap.size rfl 23 (lg A) (0, 0) _ hg Try.underlying23 rfl (lngIk hA) ?_)
    | (with_reducible refine (cA _).mono ?_; rintro e x ⟨rfl, hbx⟩)
    | (refine wpList_store_row rfl 28 _ _ rfl x.heap.size (cl D) rfl rfl 28 (cl Z) (heap_alloc_last x _) (cdsIk hD) (by simp only [cl_size hZ, cl_size hD]) (cl_all _) ?_))
  rw [World.setRow_alloc_new]
  try simp only [Act.put]
  have hby := hbx.alloc (o := .cells (cl D) 28) hbx.size
  replace hg := heap_on hby hg
  replace HB := Lib.hid (HB.out.trans (hby.mono HB.out.size))
  have hd := heap_alloc_last x (.cells (cl D) 28)
  obtain ⟨g2, hg2⟩ : ∃ g2, g2 = x.heap.size := ⟨_, rfl⟩
  rw [← hg2] at hd ⊢
  clear hg2
  generalize x.alloc (.cells (cl D) 28) = w2 at hg hd HB ⊢
  have HD := Lib.hid hd
  clear hd hbx hby
  go_upto_region 4 with (first
    | (refine wpList_load_row rfl 23 _ rfl w.heap.size rfl 23 (lg A) (0, 0) _ hg Try.underlying23 rfl (lngIk hA) ?_)
    | (with_reducible refine (cB _).mono ?_; rintro e x ⟨rfl, hbx⟩)
    | (refine wpList_store_row rfl 28 _ _ rfl x.heap.size (cl Z) rfl rfl 28 (cl Z) (heap_alloc_last x _) (cdsIk hZ) (by simp only [cl_size hZ, cl_size hD]) (cl_all _) ?_))
  rw [World.setRow_alloc_new]
  try simp only [Act.put]
  have hby := hbx.alloc (o := .cells (cl Z) 28) hbx.size
  replace hg := heap_on hby hg
  replace HB := Lib.hid (HB.out.trans (hby.mono HB.out.size))
  replace HD := Lib.hid (heap_on hby HD.out)
  generalize x.alloc (.cells (cl Z) 28) = w3 at hg HD HB ⊢
  clear hbx hby
  go_upto_region 5 with (first
    | (refine wpList_load_row rfl 23 _ rfl w.heap.size rfl 23 (lg A) (0, 0) _ hg Try.underlying23 rfl (lngIk hA) ?_)
    | (with_reducible refine (cC _).mono ?_; rintro e x ⟨rfl, hbx⟩)
    | (refine wpList_store_row rfl 28 _ _ rfl x.heap.size (cl Z) rfl rfl 28 (cl Z) (heap_alloc_last x _) (cdsIk hZ) (by simp only [cl_size hZ, cl_size hD]) (cl_all _) ?_))
  rw [World.setRow_alloc_new]
  try simp only [Act.put]
  have hby := hbx.alloc (o := .cells (cl Z) 28) hbx.size
  replace hg := heap_on hby hg
  replace HB := Lib.hid (HB.out.trans (hby.mono HB.out.size))
  replace HD := Lib.hid (heap_on hby HD.out)
  generalize x.alloc (.cells (cl Z) 28) = w4 at hg HD HB ⊢
  clear hbx hby
  go_upto_region 6 with (first
    | (refine wpList_load_row rfl 23 _ rfl w.heap.size rfl 23 (lg A) (0, 0) _ hg Try.underlying23 rfl (lngIk hA) ?_)
    | (with_reducible refine (f3 _).mono ?_; rintro e w5 ⟨rfl, hbx⟩))
  replace hg := heap_on hbx hg
  replace HD := Lib.hid (heap_on hbx HD.out)
  replace HB := Lib.hid (HB.out.trans (hbx.mono HB.out.size))
  clear hbx
  go_upto_region 7 with (first
    | (refine wpList_load_row rfl 23 _ rfl w.heap.size rfl 23 (lg A) (0, 0) _ hg Try.underlying23 rfl (lngIk hA) ?_)
    | (with_reducible refine (f4 _).mono ?_; rintro e w6 ⟨rfl, hbx⟩))
  replace hg := heap_on hbx hg
  replace HD := Lib.hid (heap_on hbx HD.out)
  replace HB := Lib.hid (HB.out.trans (hbx.mono HB.out.size))
  clear hbx
  go_upto_region 8 with (first
    | (refine wpList_load_row rfl 23 _ rfl w.heap.size rfl 23 (lg A) (0, 0) _ hg Try.underlying23 rfl (lngIk hA) ?_)
    | (with_reducible refine (t3 _).mono ?_; rintro e w7 ⟨rfl, hbx⟩))
  replace hg := heap_on hbx hg
  replace HD := Lib.hid (heap_on hbx HD.out)
  replace HB := Lib.hid (HB.out.trans (hbx.mono HB.out.size))
  clear hbx
  go_upto_region 9 with (first
    | (refine wpList_load_row rfl 23 _ rfl w.heap.size rfl 23 (lg A) (0, 0) _ hg Try.underlying23 rfl (lngIk hA) ?_)
    | (with_reducible refine (t4 _).mono ?_; rintro e w8 ⟨rfl, hbx⟩))
  replace hg := heap_on hbx hg
  replace HD := Lib.hid (heap_on hbx HD.out)
  replace HB := Lib.hid (HB.out.trans (hbx.mono HB.out.size))
  clear hbx
  clear f3 f4 t3 t4 cA cB cC
  have hd := HD.out
  clear hzL
  go_wp2_with (first | (refine wpList_load_row_g 2 true rfl 58 rfl _ rfl rfl 28 _ rfl g2 rfl 28 (cl D) (0, 0) _ hd Try.underlying28 rfl (cdsIk hD) ?_) | (refine wpList_load_row_g 41 true rfl 97 rfl _ rfl rfl 23 _ rfl w.heap.size rfl 23 (lg A) (0, 0) _ hg Try.underlying23 rfl (lngIk hA) ?_))
  with_reducible refine (HO.out _).mono ?_
  rintro e x ⟨AO, c, rfl, hs, hbx⟩
  replace hg := heap_on hbx hg
  have hby := hbx.alloc (o := .cells #[.int .i64 3, .int .i64 2, .int .i64 0, .int .i64 1] 3) hbx.size
  replace HB := Lib.hid (HB.out.trans (hby.mono HB.out.size))
  replace hg := heap_on ((Below.refl _ x).alloc (Nat.le_refl _) (.cells #[.int .i64 3, .int .i64 2, .int .i64 0, .int .i64 1] 3)) hg
  have HS := Lib.hid (hs.below ((Below.refl _ x).alloc (Nat.le_refl _) (.cells #[.int .i64 3, .int .i64 2, .int .i64 0, .int .i64 1] 3)))
  have HS2 : RowKit.Hid (Src (x.alloc (.cells #[.int .i64 3, .int .i64 2, .int .i64 0, .int .i64 1] 3)) .i64 (some ⟨x.heap.size, 0, none⟩) [3, 2, 0, 1]) := Src.whole (l := [3, 2, 0, 1]) (heap_alloc_last x _)
  clear hs hbx hby hd hq
  go_wp2_with fail
  with_reducible refine (HIA.out _ _ _ _ _ HS.out HS2.out).mono ?_
  rintro e y ⟨rfl, hb3⟩
  replace hg := heap_on hb3 hg
  replace HB := Lib.hid (HB.out.trans (hb3.mono HB.out.size))
  clear hb3 HS HS2
  go_wp2_with (refine wpList_load_row_g 47 true rfl 103 rfl _ rfl rfl 23 _ rfl w.heap.size rfl 23 (lg A) (0, 0) _ hg Try.underlying23 rfl (lngIk hA) ?_)
  with_reducible refine (uA _).mono ?_
  rintro e z ⟨rfl, hb4⟩
  replace HB := Lib.hid (HB.out.trans (hb4.mono HB.out.size))
  have hzL := lngZ
  clear hb4 hg
  go_wp2_with fail
  with_reducible refine (uB _).mono ?_
  rintro e z2 ⟨rfl, hb4⟩
  replace HB := Lib.hid (HB.out.trans (hb4.mono HB.out.size))
  clear hb4
  go_wp2_with fail
  go_ret
  exact ⟨rfl, HB.out⟩
end Go.Proofs.Ytdbpdnfniidfhaa
