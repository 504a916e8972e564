/- wakes of stage 7. -/
import Derived.Test.YtemjlmeakkknbaaLe
set_option linter.unusedVariables false
set_option linter.unusedSimpArgs false
namespace Go.Proofs.Ytemjlmeakkknbaa
open Go.RowKit

def wT : List Int := (((zT.set 0 1).set 1 1).set 2 2).set 3 4
def wU : List Int := (zT.set 0 0).set 1 9
def wN : List Int := zT.set 0 (-1)
def w1L : List Int := (((zL.set 0 3).set 1 3).set 2 2).set 3 1
def w2L : List Int := (((zL.set 0 2).set 1 2).set 2 2).set 3 2
def w3L : List Int := (zL.set 0 0).set 1 1
theorem wT_tal : Tal wT := (((zT_tal.set 0 1 (by decide)).set 1 1 (by decide)).set 2 2 (by decide)).set 3 4 (by decide)
theorem wU_tal : Tal wU := (zT_tal.set 0 0 (by decide)).set 1 9 (by decide)
theorem wN_tal : Tal wN := zT_tal.set 0 (-1) (by decide)
theorem w1L_lng : Lng w1L := (((zL_lng.set 0 3 (by decide)).set 1 3 (by decide)).set 2 2 (by decide)).set 3 1 (by decide)
theorem w2L_lng : Lng w2L := (((zL_lng.set 0 2 (by decide)).set 1 2 (by decide)).set 2 2 (by decide)).set 3 2 (by decide)
theorem w3L_lng : Lng w3L := (zL_lng.set 0 0 (by decide)).set 1 1 (by decide)
theorem lvT_wT : lvT wT = [(0, 1), (1, 1), (2, 2), (3, 4)] := by decide +kernel
theorem lvT_wU : lvT wU = [(1, 9)] := by decide +kernel
theorem lvT_zT : lvT zT = [] := by decide +kernel
theorem vt_w : VT wT ∧ VT wU ∧ VT zT ∧ ¬ VT wN := by decide +kernel
theorem get_w : ∀ s : Nat, 4 ≤ s → wT.getD s 0 = 0 ∧ w1L.getD s 0 = 0 ∧ w2L.getD s 0 = 0 := fun s hs => by
  have e : ∀ (i : Nat) (v : Int) (q : List Int), i ≠ s → (q.set i v).getD s 0 = q.getD s 0 := fun i v q h => by
    rw [List.getD_eq_getElem?_getD, List.getD_eq_getElem?_getD, List.getElem?_set, if_neg h]
  unfold wT w1L w2L
  refine ⟨?_, ?_, ?_⟩ <;> (rw [e 3 _ _ (by omega), e 2 _ _ (by omega), e 1 _ _ (by omega), e 0 _ _ (by omega)])
  · exact zT_get s
  · exact zL_get s
  · exact zL_get s
theorem get_u : ∀ s : Nat, 2 ≤ s → wU.getD s 0 = 0 ∧ w3L.getD s 0 = 0 := fun s hs => by
  have e : ∀ (i : Nat) (v : Int) (q : List Int), i ≠ s → (q.set i v).getD s 0 = q.getD s 0 := fun i v q h => by
    rw [List.getD_eq_getElem?_getD, List.getD_eq_getElem?_getD, List.getElem?_set, if_neg h]
  unfold wU w3L
  refine ⟨?_, ?_⟩ <;> (rw [e 1 _ _ (by omega), e 0 _ _ (by omega)])
  · exact zT_get s
  · exact zL_get s
theorem len_w1 : Is (fun s => lenV wT 15 s) w1L := ⟨w1L_lng.1, fun s hs => by
  show _ = ((lenV wT 15 s : Nat) : Int)
  by_cases h : 4 ≤ s
  · rw [(get_w s h).2.1, lenV_zero 15 (by rw [(get_w s h).1]; omega)]; rfl
  · unfold lenV
    rw [lvT_wT]
    have : s = 0 ∨ s = 1 ∨ s = 2 ∨ s = 3 := by omega
    rcases this with rfl | rfl | rfl | rfl <;> decide +kernel⟩
theorem len_w2 : Is (fun s => lenV wT 2 s) w2L := ⟨w2L_lng.1, fun s hs => by
  show _ = ((lenV wT 2 s : Nat) : Int)
  by_cases h : 4 ≤ s
  · rw [(get_w s h).2.2, lenV_zero 2 (by rw [(get_w s h).1]; omega)]; rfl
  · unfold lenV
    rw [lvT_wT]
    have : s = 0 ∨ s = 1 ∨ s = 2 ∨ s = 3 := by omega
    rcases this with rfl | rfl | rfl | rfl <;> decide +kernel⟩
theorem len_w3 : Is (fun s => lenV wU 1 s) w3L := ⟨w3L_lng.1, fun s hs => by
  show _ = ((lenV wU 1 s : Nat) : Int)
  by_cases h : 2 ≤ s
  · rw [(get_u s h).2, lenV_zero 1 (by rw [(get_u s h).1]; omega)]; rfl
  · unfold lenV
    rw [lvT_wU]
    have : s = 0 ∨ s = 1 := by omega
    rcases this with rfl | rfl <;> decide +kernel⟩
theorem len_w4 : Is (fun s => lenV zT 3 s) zL := ⟨zL_lng.1, fun s hs => by show _ = ((lenV zT 3 s : Nat) : Int); rw [zL_get, lenV_zero 3 (by rw [zT_get]; omega)]; rfl⟩
theorem ok_w : LOk wT 15 ∧ LOk wT 2 ∧ ¬ LOk wT 1 ∧ ¬ LOk wT 16 ∧ LOk wU 1 ∧ LOk zT 3 ∧ ¬ LOk wN 3 := by
  unfold LOk
  rw [lvT_wT, lvT_wU, lvT_zT]
  obtain ⟨a, b, c, d⟩ := vt_w
  exact ⟨⟨a, by decide, by decide, by decide⟩, ⟨a, by decide, by decide, by decide⟩, fun h => absurd h.2.2.2 (by decide), fun h => absurd h.2.2.1 (by decide), ⟨b, by decide, by decide, by decide⟩, ⟨c, by decide, by decide, by decide⟩, fun h => d h.1⟩
theorem q_w : lenQ wT 15 = w1L ∧ lenQ wT 2 = w2L ∧ lenQ wU 1 = w3L ∧ lenQ zT 3 = zL :=
  ⟨(lenQ_is wT_tal.1 ok_w.1).eq len_w1, (lenQ_is wT_tal.1 ok_w.2.1).eq len_w2, (lenQ_is wU_tal.1 ok_w.2.2.2.2.1).eq len_w3, (lenQ_is zT_tal.1 ok_w.2.2.2.2.2.1).eq len_w4⟩
theorem tot_w : totV wT w1L = 14 ∧ totV wT w2L = 16 := by decide +kernel
theorem ord_w : ordV wT = [0, 1, 2, 3] := by
  unfold ordV ordL
  rw [if_pos vt_w.1, lvT_wT]
  rfl
theorem below_al (w : World) (o : Obj) : Below w.heap.size w (w.alloc o) := (Below.refl _ _).alloc (Nat.le_refl _) o
theorem src_lit (w : World) (l : List Int) : Src (w.alloc (.cells (icells .i64 l) 3)) .i64 (some ⟨w.heap.size, 0, none⟩) l := .inr ⟨w.heap.size, 0, rfl, fun j hj => by
  simp only [World.cell?, heap_alloc_last, Nat.zero_add, icells_get]
  simp [List.getD_eq_getElem?_getD, hj]⟩

set_option maxRecDepth 100000 in
set_option maxHeartbeats 4000000 in
theorem wakes_call (w : World) : Calls Try.prog 17 #[] w fun e w' => e = .returned (.bool true) ∧ Below w.heap.size w w' := by
  have hk1 : ∀ w : World, Calls Try.prog 8 #[.agg (tl wT), .int .i64 15] w fun e w' => e = .returned (.tuple #[.agg (lg w1L), .int .i64 0]) ∧ Below w.heap.size w w' := fun w => by
    have h := lengths_call wT wT_tal 15 (by omega) w
    rw [q_w.1, lenE_ok ok_w.1] at h
    exact h
  have hk2 : ∀ w : World, Calls Try.prog 8 #[.agg (tl wT), .int .i64 2] w fun e w' => e = .returned (.tuple #[.agg (lg w2L), .int .i64 0]) ∧ Below w.heap.size w w' := fun w => by
    have h := lengths_call wT wT_tal 2 (by omega) w
    rw [q_w.2.1, lenE_ok ok_w.2.1] at h
    exact h
  have hk3 : ∀ w : World, Calls Try.prog 8 #[.agg (tl wT), .int .i64 1] w fun e w' => e = .returned (.tuple #[.agg (lg zL), .int .i64 2]) ∧ Below w.heap.size w w' := fun w => by
    have h := lengths_call wT wT_tal 1 (by omega) w
    rw [(lenQ_no ok_w.2.2.1).1, (lenQ_no ok_w.2.2.1).2] at h
    exact h
  have hk4 : ∀ w : World, Calls Try.prog 8 #[.agg (tl wT), .int .i64 16] w fun e w' => e = .returned (.tuple #[.agg (lg zL), .int .i64 2]) ∧ Below w.heap.size w w' := fun w => by
    have h := lengths_call wT wT_tal 16 (by omega) w
    rw [(lenQ_no ok_w.2.2.2.1).1, (lenQ_no ok_w.2.2.2.1).2] at h
    exact h
  have hk5 : ∀ w : World, Calls Try.prog 8 #[.agg (tl wU), .int .i64 1] w fun e w' => e = .returned (.tuple #[.agg (lg w3L), .int .i64 0]) ∧ Below w.heap.size w w' := fun w => by
    have h := lengths_call wU wU_tal 1 (by omega) w
    rw [q_w.2.2.1, lenE_ok ok_w.2.2.2.2.1] at h
    exact h
  have hk6 : ∀ w : World, Calls Try.prog 8 #[.agg (tl zT), .int .i64 3] w fun e w' => e = .returned (.tuple #[.agg (lg zL), .int .i64 0]) ∧ Below w.heap.size w w' := fun w => by
    have h := lengths_call zT zT_tal 3 (by omega) w
    rw [q_w.2.2.2, lenE_ok ok_w.2.2.2.2.2.1] at h
    exact h
  have hk7 : ∀ w : World, Calls Try.prog 8 #[.agg (tl wN), .int .i64 3] w fun e w' => e = .returned (.tuple #[.agg (lg zL), .int .i64 2]) ∧ Below w.heap.size w w' := fun w => by
    have h := lengths_call wN wN_tal 3 (by omega) w
    rw [(lenQ_no ok_w.2.2.2.2.2.2).1, (lenQ_no ok_w.2.2.2.2.2.2).2] at h
    exact h
  have ht1 : ∀ w : World, Calls Try.prog 13 #[.agg (tl wT), .agg (lg w1L)] w fun e w' => e = .returned (.int .i64 14) ∧ Below w.heap.size w w' := fun w => by
    have h := total_call wT w1L wT_tal w1L_lng w
    rw [tot_w.1] at h
    exact h
  have ht2 : ∀ w : World, Calls Try.prog 13 #[.agg (tl wT), .agg (lg w2L)] w fun e w' => e = .returned (.int .i64 16) ∧ Below w.heap.size w w' := fun w => by
    have h := total_call wT w2L wT_tal w2L_lng w
    rw [tot_w.2] at h
    exact h
  have hor : ∀ w : World, Calls Try.prog 11 #[.agg (tl wT)] w fun e w' => ∃ a c, e = .returned (.slice a 4 c) ∧ Src w' .i64 a [0, 1, 2, 3] ∧ Below w.heap.size w w' := fun w => by
    have h := order_call wT wT_tal w
    rw [ord_w] at h
    exact h
  have hii : ∀ (a : Option Addr) (c : Nat) (w : World), Src w .i64 a [0, 1, 2, 3] → Calls Try.prog 10 #[.slice a 4 c, .slice (some ⟨w.heap.size, 0, none⟩) 4 4] (w.alloc (.cells #[.int .i64 0, .int .i64 1, .int .i64 2, .int .i64 3] 3)) fun e w' => e = .returned (.bool true) ∧ Below w.heap.size w w' := fun a c w hs => by
    have h := ints_call a (some ⟨w.heap.size, 0, none⟩) 4 4 c 4 [0, 1, 2, 3] [0, 1, 2, 3] (w.alloc (.cells (icells .i64 [0, 1, 2, 3]) 3)) rfl rfl (hs.below (below_al w _)) (src_lit w _) (by omega) (by omega)
    refine h.mono ?_
    rintro e w' ⟨rfl, hb⟩
    exact ⟨by rw [decide_eq_true rfl], (below_al w _).trans (hb.mono (by simp))⟩
  have hv1 : ∀ w : World, Calls Try.prog 15 #[.agg (tl wT)] w fun e w' => e = .returned (.bool true) ∧ Below w.heap.size w w' := fun w => by
    have h := valid_call wT wT_tal w
    rw [decide_eq_true vt_w.1] at h
    exact h
  have hv2 : ∀ w : World, Calls Try.prog 15 #[.agg (tl wN)] w fun e w' => e = .returned (.bool false) ∧ Below w.heap.size w w' := fun w => by
    have h := valid_call wN wN_tal w
    rw [decide_eq_false vt_w.2.2.2] at h
    exact h
  have eT : (((((tl zT).setIfInBounds 0 (.int .i64 1)).setIfInBounds 1 (.int .i64 1)).setIfInBounds 2 (.int .i64 2)).setIfInBounds 3 (.int .i64 4)) = tl wT := by rw [tl_set, tl_set, tl_set, tl_set]; rfl
  have eU : (((tl zT).setIfInBounds 0 (.int .i64 0)).setIfInBounds 1 (.int .i64 9)) = tl wU := by rw [tl_set, tl_set]; rfl
  have eN : ((tl zT).setIfInBounds 0 (.int .i64 (-1))) = tl wN := tl_set _ _ _
  have e1 : (((((lg zL).setIfInBounds 0 (.int .u8 3)).setIfInBounds 1 (.int .u8 3)).setIfInBounds 2 (.int .u8 2)).setIfInBounds 3 (.int .u8 1)) = lg w1L := by rw [lg_set, lg_set, lg_set, lg_set]; rfl
  have e2 : (((((lg zL).setIfInBounds 0 (.int .u8 2)).setIfInBounds 1 (.int .u8 2)).setIfInBounds 2 (.int .u8 2)).setIfInBounds 3 (.int .u8 2)) = lg w2L := by rw [lg_set, lg_set, lg_set, lg_set]; rfl
  have e3 : (((lg zL).setIfInBounds 0 (.int .u8 0)).setIfInBounds 1 (.int .u8 1)) = lg w3L := by rw [lg_set, lg_set]; rfl
  have hT := wT_tal
  have hU := wU_tal
  have hN := wN_tal
  have h1L := w1L_lng
  have h2L := w2L_lng
  have h3L := w3L_lng
  obtain ⟨Z, hZe⟩ : ∃ Z, Z = zL := ⟨_, rfl⟩
  rw [← hZe] at hk3 hk4 hk6 hk7
  have hZ : Lng Z := by rw [hZe]; exact zL_lng
  have hq1 := fun w => run_eqi_lng w h1L h1L
  have hq2 := fun w => run_eqi_lng w h2L h2L
  have hq3 := fun w => run_eqi_lng w h3L h3L
  have hq0 := fun w => run_eqi_lng w hZ zL_lng
  rw [decide_eq_true hZe] at hq0
  simp only [decide_true] at hq1 hq2 hq3
  clear hZe
  generalize wT = T at *
  generalize wU = U at *
  generalize wN = N at *
  generalize w1L = L1 at *
  generalize w2L = L2 at *
  generalize w3L = L3 at *
  have hzT := talZ
  have hzL := lngZ
  go_enter Try.func17, Try.ntmps17

  go_upto_region 2 with (refine wpList_store_row rfl 23 _ _ rfl w.heap.size (tl T) rfl rfl 23 (tl zT) (heap_alloc_last w _) (talIk hT) (by rw [tl_size zT_tal, tl_size hT]) (tl_all _) ?_)
  rw [World.setRow_alloc_new]
  have hgT := heap_alloc_last w (.cells (tl T) 23)
  have hb := below_al w (.cells (tl T) 23)
  generalize w.alloc (.cells (tl T) 23) = w0 at hgT hb ⊢
  have HB := Lib.hid hb
  clear hb
  go_upto_region 3 with (first
    | (refine wpList_load_row rfl 23 _ rfl w.heap.size rfl 23 (tl T) (0, 0) _ hgT Try.underlying23 rfl (talIk hT) ?_)
    | (with_reducible refine (hk1 _).mono ?_
       rintro e x1 ⟨rfl, hb⟩
       replace HB := Lib.hid (HB.out.trans (hb.mono HB.out.size))
       replace hgT := heap_on hb hgT
       clear hb hk1)
    | (refine wpList_store_row rfl 25 _ _ rfl x1.heap.size (lg L1) rfl rfl 25 (lg zL) (heap_alloc_last x1 _) (lngIk h1L) (by rw [lg_size zL_lng, lg_size h1L]) (lg_all _) ?_))
  rw [World.setRow_alloc_new]
  have hb := below_al x1 (.cells (lg L1) 25)
  have hg1 := heap_alloc_last x1 (.cells (lg L1) 25)
  replace HB := Lib.hid (HB.out.trans (hb.mono HB.out.size))
  replace hgT := heap_on hb hgT
  generalize x1.alloc (.cells (lg L1) 25) = y1 at hb hg1 HB hgT  ⊢
  clear hb
  go_upto_region 4 with (first
    | (refine wpList_load_row rfl 23 _ rfl w.heap.size rfl 23 (tl T) (0, 0) _ hgT Try.underlying23 rfl (talIk hT) ?_)
    | (with_reducible refine (hk2 _).mono ?_
       rintro e x2 ⟨rfl, hb⟩
       replace HB := Lib.hid (HB.out.trans (hb.mono HB.out.size))
       replace hgT := heap_on hb hgT
       replace hg1 := heap_on hb hg1
       clear hb hk2)
    | (refine wpList_store_row rfl 25 _ _ rfl x2.heap.size (lg L2) rfl rfl 25 (lg zL) (heap_alloc_last x2 _) (lngIk h2L) (by rw [lg_size zL_lng, lg_size h2L]) (lg_all _) ?_))
  rw [World.setRow_alloc_new]
  have hb := below_al x2 (.cells (lg L2) 25)
  have hg2 := heap_alloc_last x2 (.cells (lg L2) 25)
  replace HB := Lib.hid (HB.out.trans (hb.mono HB.out.size))
  replace hgT := heap_on hb hgT
  replace hg1 := heap_on hb hg1
  generalize x2.alloc (.cells (lg L2) 25) = y2 at hb hg2 HB hgT hg1 ⊢
  clear hb
  go_upto_region 5 with (first
    | (refine wpList_load_row rfl 23 _ rfl w.heap.size rfl 23 (tl T) (0, 0) _ hgT Try.underlying23 rfl (talIk hT) ?_)
    | (with_reducible refine (hk3 _).mono ?_
       rintro e x3 ⟨rfl, hb⟩
       replace HB := Lib.hid (HB.out.trans (hb.mono HB.out.size))
       replace hgT := heap_on hb hgT
       replace hg1 := heap_on hb hg1
       replace hg2 := heap_on hb hg2
       clear hb hk3)
    | (refine wpList_store_row rfl 25 _ _ rfl x3.heap.size (lg Z) rfl rfl 25 (lg zL) (heap_alloc_last x3 _) (lngIk hZ) (by rw [lg_size zL_lng, lg_size hZ]) (lg_all _) ?_))
  rw [World.setRow_alloc_new]
  have hb := below_al x3 (.cells (lg Z) 25)
  have hg3 := heap_alloc_last x3 (.cells (lg Z) 25)
  replace HB := Lib.hid (HB.out.trans (hb.mono HB.out.size))
  replace hgT := heap_on hb hgT
  replace hg1 := heap_on hb hg1
  replace hg2 := heap_on hb hg2
  generalize x3.alloc (.cells (lg Z) 25) = y3 at hb hg3 HB hgT hg1 hg2 ⊢
  clear hb
  go_upto_region 6 with (first
    | (refine wpList_load_row rfl 23 _ rfl w.heap.size rfl 23 (tl T) (0, 0) _ hgT Try.underlying23 rfl (talIk hT) ?_)
    | (with_reducible refine (hk4 _).mono ?_
       rintro e x4 ⟨rfl, hb⟩
       replace HB := Lib.hid (HB.out.trans (hb.mono HB.out.size))
       replace hgT := heap_on hb hgT
       replace hg1 := heap_on hb hg1
       replace hg2 := heap_on hb hg2
       replace hg3 := heap_on hb hg3
       clear hb hk4)
    | (refine wpList_store_row rfl 25 _ _ rfl x4.heap.size (lg Z) rfl rfl 25 (lg zL) (heap_alloc_last x4 _) (lngIk hZ) (by rw [lg_size zL_lng, lg_size hZ]) (lg_all _) ?_))
  rw [World.setRow_alloc_new]
  have hb := below_al x4 (.cells (lg Z) 25)
  have hg4 := heap_alloc_last x4 (.cells (lg Z) 25)
  replace HB := Lib.hid (HB.out.trans (hb.mono HB.out.size))
  replace hgT := heap_on hb hgT
  replace hg1 := heap_on hb hg1
  replace hg2 := heap_on hb hg2
  replace hg3 := heap_on hb hg3
  generalize x4.alloc (.cells (lg Z) 25) = y4 at hb hg4 HB hgT hg1 hg2 hg3 ⊢
  clear hb
  go_upto_region 7 with (first
    | (refine wpList_load_row rfl 23 _ rfl w.heap.size rfl 23 (tl T) (0, 0) _ hgT Try.underlying23 rfl (talIk hT) ?_)
    | (with_reducible refine (hk5 _).mono ?_
       rintro e x5 ⟨rfl, hb⟩
       replace HB := Lib.hid (HB.out.trans (hb.mono HB.out.size))
       replace hgT := heap_on hb hgT
       replace hg1 := heap_on hb hg1
       replace hg2 := heap_on hb hg2
       replace hg3 := heap_on hb hg3
       replace hg4 := heap_on hb hg4
       clear hb hk5)
    | (refine wpList_store_row rfl 25 _ _ rfl x5.heap.size (lg L3) rfl rfl 25 (lg zL) (heap_alloc_last x5 _) (lngIk h3L) (by rw [lg_size zL_lng, lg_size h3L]) (lg_all _) ?_))
  rw [World.setRow_alloc_new]
  have hb := below_al x5 (.cells (lg L3) 25)
  have hg5 := heap_alloc_last x5 (.cells (lg L3) 25)
  replace HB := Lib.hid (HB.out.trans (hb.mono HB.out.size))
  replace hgT := heap_on hb hgT
  replace hg1 := heap_on hb hg1
  replace hg2 := heap_on hb hg2
  replace hg3 := heap_on hb hg3
  replace hg4 := heap_on hb hg4
  generalize x5.alloc (.cells (lg L3) 25) = y5 at hb hg5 HB hgT hg1 hg2 hg3 hg4 ⊢
  clear hb
  go_upto_region 8 with (first
    | (refine wpList_load_row rfl 23 _ rfl w.heap.size rfl 23 (tl T) (0, 0) _ hgT Try.underlying23 rfl (talIk hT) ?_)
    | (with_reducible refine (hk6 _).mono ?_
       rintro e x6 ⟨rfl, hb⟩
       replace HB := Lib.hid (HB.out.trans (hb.mono HB.out.size))
       replace hgT := heap_on hb hgT
       replace hg1 := heap_on hb hg1
       replace hg2 := heap_on hb hg2
       replace hg3 := heap_on hb hg3
       replace hg4 := heap_on hb hg4
       replace hg5 := heap_on hb hg5
       clear hb hk6)
    | (refine wpList_store_row rfl 25 _ _ rfl x6.heap.size (lg Z) rfl rfl 25 (lg zL) (heap_alloc_last x6 _) (lngIk hZ) (by rw [lg_size zL_lng, lg_size hZ]) (lg_all _) ?_))
  rw [World.setRow_alloc_new]
  have hb := below_al x6 (.cells (lg Z) 25)
  have hg6 := heap_alloc_last x6 (.cells (lg Z) 25)
  replace HB := Lib.hid (HB.out.trans (hb.mono HB.out.size))
  replace hgT := heap_on hb hgT
  replace hg1 := heap_on hb hg1
  replace hg2 := heap_on hb hg2
  replace hg3 := heap_on hb hg3
  replace hg4 := heap_on hb hg4
  replace hg5 := heap_on hb hg5
  generalize x6.alloc (.cells (lg Z) 25) = y6 at hb hg6 HB hgT hg1 hg2 hg3 hg4 hg5 ⊢
  clear hb
  go_upto_region 9 with (first
    | (refine wpList_load_row rfl 23 _ rfl w.heap.size rfl 23 (tl T) (0, 0) _ hgT Try.underlying23 rfl (talIk hT) ?_)
    | (with_reducible refine (hk7 _).mono ?_
       rintro e x7 ⟨rfl, hb⟩
       replace HB := Lib.hid (HB.out.trans (hb.mono HB.out.size))
       replace hgT := heap_on hb hgT
       replace hg1 := heap_on hb hg1
       replace hg2 := heap_on hb hg2
       replace hg3 := heap_on hb hg3
       replace hg4 := heap_on hb hg4
       replace hg5 := heap_on hb hg5
       replace hg6 := heap_on hb hg6
       clear hb hk7)
    | (refine wpList_store_row rfl 25 _ _ rfl x7.heap.size (lg Z) rfl rfl 25 (lg zL) (heap_alloc_last x7 _) (lngIk hZ) (by rw [lg_size zL_lng, lg_size hZ]) (lg_all _) ?_))
  rw [World.setRow_alloc_new]
  have hb := below_al x7 (.cells (lg Z) 25)
  have hg7 := heap_alloc_last x7 (.cells (lg Z) 25)
  replace HB := Lib.hid (HB.out.trans (hb.mono HB.out.size))
  replace hgT := heap_on hb hgT
  replace hg1 := heap_on hb hg1
  replace hg2 := heap_on hb hg2
  replace hg3 := heap_on hb hg3
  replace hg4 := heap_on hb hg4
  replace hg5 := heap_on hb hg5
  replace hg6 := heap_on hb hg6
  generalize x7.alloc (.cells (lg Z) 25) = y7 at hb hg7 HB hgT hg1 hg2 hg3 hg4 hg5 hg6 ⊢
  clear hb
  clear hg3 hg4 hg7
  dsimp only [List.append]
  go_wp2_with (first
    | (refine wpList_load_row_g 2 true rfl 54 rfl _ rfl rfl 25 _ rfl x1.heap.size rfl 25 (lg L1) (0, 0) _ hg1 Try.underlying25 rfl (lngIk h1L) ?_)
    | (refine wpList_load_row_g 11 true rfl 63 rfl _ rfl rfl 25 _ rfl x2.heap.size rfl 25 (lg L2) (0, 0) _ hg2 Try.underlying25 rfl (lngIk h2L) ?_)
    | (refine wpList_load_row_g 28 true rfl 80 rfl _ rfl rfl 25 _ rfl x5.heap.size rfl 25 (lg L3) (0, 0) _ hg5 Try.underlying25 rfl (lngIk h3L) ?_)
    | (refine wpList_load_row_g 37 true rfl 89 rfl _ rfl rfl 25 _ rfl x6.heap.size rfl 25 (lg Z) (0, 0) _ hg6 Try.underlying25 rfl (lngIk hZ) ?_)
    | (refine wpList_load_row_g 46 true rfl 98 rfl _ rfl rfl 23 _ rfl w.heap.size rfl 23 (tl T) (0, 0) _ hgT Try.underlying23 rfl (talIk hT) ?_)
    | (refine wpList_load_row_g 52 true rfl 104 rfl _ rfl rfl 23 _ rfl w.heap.size rfl 23 (tl T) (0, 0) _ hgT Try.underlying23 rfl (talIk hT) ?_)
    | (refine wpList_load_row_g 58 true rfl 110 rfl _ rfl rfl 23 _ rfl w.heap.size rfl 23 (tl T) (0, 0) _ hgT Try.underlying23 rfl (talIk hT) ?_)
    | (refine wpList_load_row_g 64 true rfl 116 rfl _ rfl rfl 23 _ rfl w.heap.size rfl 23 (tl T) (0, 0) _ hgT Try.underlying23 rfl (talIk hT) ?_)
    | (refine wpList_load_row_g 46 true rfl 98 rfl _ rfl rfl 25 _ rfl x1.heap.size rfl 25 (lg L1) (0, 0) _ hg1 Try.underlying25 rfl (lngIk h1L) ?_)
    | (refine wpList_load_row_g 52 true rfl 104 rfl _ rfl rfl 25 _ rfl x2.heap.size rfl 25 (lg L2) (0, 0) _ hg2 Try.underlying25 rfl (lngIk h2L) ?_)
    | (with_reducible refine (ht1 _).mono ?_; rintro e z ⟨rfl, hb⟩; replace HB := Lib.hid (HB.out.trans (hb.mono HB.out.size)); replace hgT := heap_on hb hgT; replace hg1 := heap_on hb hg1; replace hg2 := heap_on hb hg2; replace hg5 := heap_on hb hg5; replace hg6 := heap_on hb hg6; clear hb ht1)
    | (with_reducible refine (ht2 _).mono ?_; rintro e z ⟨rfl, hb⟩; replace HB := Lib.hid (HB.out.trans (hb.mono HB.out.size)); replace hgT := heap_on hb hgT; replace hg1 := heap_on hb hg1; replace hg2 := heap_on hb hg2; replace hg5 := heap_on hb hg5; replace hg6 := heap_on hb hg6; clear hb ht2)
    | (with_reducible refine (hv1 _).mono ?_; rintro e z ⟨rfl, hb⟩; replace HB := Lib.hid (HB.out.trans (hb.mono HB.out.size)); replace hgT := heap_on hb hgT; replace hg1 := heap_on hb hg1; replace hg2 := heap_on hb hg2; replace hg5 := heap_on hb hg5; replace hg6 := heap_on hb hg6; clear hb hv1)
    | (with_reducible refine (hv2 _).mono ?_; rintro e z ⟨rfl, hb⟩; replace HB := Lib.hid (HB.out.trans (hb.mono HB.out.size)); replace hgT := heap_on hb hgT; replace hg1 := heap_on hb hg1; replace hg2 := heap_on hb hg2; replace hg5 := heap_on hb hg5; replace hg6 := heap_on hb hg6; clear hb hv2)
    | (with_reducible refine (hor _).mono ?_; rintro e z ⟨a, c, rfl, hs, hb⟩; replace HB := Lib.hid (HB.out.trans (hb.mono HB.out.size)); replace hgT := heap_on hb hgT; replace hg1 := heap_on hb hg1; replace hg2 := heap_on hb hg2; replace hg5 := heap_on hb hg5; replace hg6 := heap_on hb hg6; have hi := hii a c _ hs; clear hb hor hs hii)
    | (with_reducible refine hi.mono ?_; rintro e z ⟨rfl, hb⟩; replace HB := Lib.hid (HB.out.trans (hb.mono HB.out.size)); replace hgT := heap_on hb hgT; replace hg1 := heap_on hb hg1; replace hg2 := heap_on hb hg2; replace hg5 := heap_on hb hg5; replace hg6 := heap_on hb hg6; clear hb hi))
  go_ret
  exact ⟨rfl, HB.out⟩
end Go.Proofs.Ytemjlmeakkknbaa
