/- Package kraft: weights, Sum, Fits, Counts; canonical.Valid. -/
import Derived.Test.YtbegpakjojiblabArr
import Derived.RegionTactic
import Derived.Deep.RegionHeld3
import Derived.Deep.DeepMust
import Derived.Deep.CutBlock
import Derived.Deep.DeepCutAuto
set_option linter.unusedVariables false
set_option linter.unusedSimpArgs false
namespace Go.Proofs.Ytbegpakjojiblab
open Go.RowKit

theorem _root_.Go.RowKit.Below.drewN {B : Nat} {w w' : World} (h : Below B w w') (n : Nat) : Below B w (w'.drewN n) := ⟨h.os, h.tape, h.output, h.size, h.block⟩
/-- A length's weight. -/
def wt (z : Int) : Int := if z ≤ 0 then 0 else if 15 < z then 32769 else 2 ^ (15 - z).toNat
theorem mid_cases {z : Int} (h1 : ¬ z ≤ 0) (h2 : ¬ 15 < z) : z = 1 ∨ z = 2 ∨ z = 3 ∨ z = 4 ∨ z = 5 ∨ z = 6 ∨ z = 7 ∨ z = 8 ∨ z = 9 ∨ z = 10 ∨ z = 11 ∨ z = 12 ∨ z = 13 ∨ z = 14 ∨ z = 15 := by omega
theorem wt_bd (z : Int) : 0 ≤ wt z ∧ wt z ≤ 32769 := by
  unfold wt
  split
  · omega
  · rename_i h1
    split
    · omega
    · rename_i h2
      rcases mid_cases h1 h2 with rfl | rfl | rfl | rfl | rfl | rfl | rfl | rfl | rfl | rfl | rfl | rfl | rfl | rfl | rfl <;> decide
/-- The sum of the weights of the first k symbols. -/
def ksT (l : List Int) (k : Nat) : Int := ((l.take k).map wt).sum
def ks (l : List Int) : Int := (l.map wt).sum
theorem ksT_zero (l : List Int) : ksT l 0 = 0 := by simp [ksT]
theorem ksT_all (l : List Int) (k : Nat) (h : l.length ≤ k) : ksT l k = ks l := by rw [ksT, List.take_of_length_le h]; rfl
theorem ksT_step (l : List Int) (k : Nat) (hk : k < l.length) : ksT l k + wt (l.getD k 0) = ksT l (k + 1) := by
  have e : l.getD k 0 = l[k] := by simp [List.getD_eq_getElem?_getD, hk]
  unfold ksT
  rw [e, List.take_add_one, List.getElem?_eq_getElem hk, List.map_append, List.sum_append]
  simp only [Option.toList_some, List.map_cons, List.map_nil, List.sum_cons, List.sum_nil, Int.add_zero]
theorem ksT_bd (l : List Int) (k : Nat) : 0 ≤ ksT l k ∧ ksT l k ≤ 32769 * k := by
  induction k with
  | zero => simp [ksT]
  | succ k ih =>
    by_cases hk : k < l.length
    · rw [← ksT_step l k hk]
      have := wt_bd (l.getD k 0)
      omega
    · have e1 := ksT_all l k (by omega)
      have e2 := ksT_all l (k + 1) (by omega)
      rw [e2, ← e1]
      omega
theorem ks_bd {l : List Int} (h : Lng l) : 0 ≤ ks l ∧ ks l ≤ 8454402 := by
  have := ksT_bd l 258
  rw [ksT_all l 258 (by rw [h.1]; exact Nat.le_refl _)] at this
  omega
set_option maxRecDepth 100000 in
set_option maxHeartbeats 1000000 in
theorem weight_call (z : Int) (h : (Lit.int .u8 z).wf = true) (w : World) :
    Calls Try.prog 30 #[.int .u8 z] w fun e w' => e = .returned (.int .i64 (wt z)) ∧ Below w.heap.size w w' := by
  have hb := bounds_u8 h
  by_cases h0 : z ≤ 0
  · have hw : wt z = 0 := if_pos h0
    have HW := Lib.hid hw
    obtain rfl : z = 0 := by omega
    clear hw
    go_enter Try.func30, Try.ntmps30
    go_wp2_with fail
    go_ret
    exact ⟨by rw [HW.out]; rfl, Below.refl _ _⟩
  · by_cases h1 : 15 < z
    · have hw : wt z = 32769 := by rw [wt, if_neg h0, if_pos h1]
      have HW := Lib.hid hw
      have h2 : z ≠ 0 := by omega
      clear hw
      go_enter Try.func30, Try.ntmps30
      go_wp2_with fail
      go_ret
      exact ⟨by rw [HW.out]; rfl, Below.refl _ _⟩
    · rcases mid_cases h0 h1 with rfl | rfl | rfl | rfl | rfl | rfl | rfl | rfl | rfl | rfl | rfl | rfl | rfl | rfl | rfl <;>
      · clear h0 h1 hb
        go_enter Try.func30, Try.ntmps30
        go_wp2_with fail
        go_ret
        exact ⟨rfl, Below.refl _ _⟩

set_option maxRecDepth 100000 in
set_option maxHeartbeats 1000000 in
theorem ksum_call (l : List Int) (h : Lng l) (w : World) :
    Calls Try.prog 28 #[.agg (lg l)] w fun e w' => e = .returned (.int .i64 (ks l)) ∧ Below w.heap.size w w' := by
  go_enter Try.func28, Try.ntmps28
  go_upto_region 1 with fail
  have hg := heap_alloc_last w (.cells (lg l) 23)
  have hb := (Below.refl w.heap.size w).alloc (Nat.le_refl _) (.cells (lg l) 23)
  generalize w.alloc (.cells (lg l) 23) = w1 at hg hb ⊢
  have HB := Lib.hid hb
  clear hb
  go_wp2_with (refine wpList_load_row rfl 23 _ rfl w.heap.size rfl 23 (lg l) (0, 0) _ hg Try.underlying23 rfl (lngIk h) ?_)
  go_loopw [3, 7] (fun s i wr => ∃ k : Nat, k ≤ 258 ∧ i = .int .i64 k ∧ Below w.heap.size w wr ∧ s = .int .i64 (ksT l k)) (fun _ i _ => 258 - (intOf i).toNat)
  case atStart => exact ⟨0, by omega, rfl, HB.out, rfl⟩
  case round =>
    obtain ⟨k, hk, rfl, hb, rfl⟩ := hrel
    have HBr := Lib.hid hb
    clear hb
    by_cases hlt : k < 258
    · have hix := fun w => run_index_lng w h k hlt
      have hc := fun w => weight_call (l.getD k 0) (h.get k) w
      have hs := ksT_bd l k
      have HS := Lib.hid (ksT_step l k (by rw [h.1]; exact hlt))
      have hwb := wt_bd (l.getD k 0)
      generalize l.getD k 0 = V at hix hc HS hwb
      generalize wt V = X at hc HS hwb
      generalize ksT l k = S at hs HS ⊢
      go_wp2_with (refine (hc _).mono ?_; rintro e w2 ⟨rfl, hb2⟩)
      exact ⟨⟨k + 1, by omega, by go_num, HBr.out.trans (hb2.mono HBr.out.size), by rw [← HS.out]⟩, by simp [intOf]; omega⟩
    · obtain rfl : k = 258 := by omega
      have HT := Lib.hid (ksT_all l 258 (by rw [h.1]; exact Nat.le_refl _))
      generalize ksT l 258 = S at HT ⊢
      go_wp2_with fail
      go_ret
      exact ⟨by rw [← HT.out]; rfl, HBr.out⟩
set_option maxRecDepth 100000 in
set_option maxHeartbeats 1000000 in
theorem fits_call (l : List Int) (h : Lng l) (w : World) :
    Calls Try.prog 29 #[.agg (lg l)] w fun e w' => e = .returned (.bool (decide (ks l ≤ 32768))) ∧ Below w.heap.size w w' := by
  have hs := ks_bd h
  go_enter Try.func29, Try.ntmps29
  go_upto_region 1 with fail
  have hg := heap_alloc_last w (.cells (lg l) 23)
  have hb := (Below.refl w.heap.size w).alloc (Nat.le_refl _) (.cells (lg l) 23)
  generalize w.alloc (.cells (lg l) 23) = w1 at hg hb ⊢
  have HB := Lib.hid hb
  have hc := fun w => ksum_call l h w
  obtain ⟨S, hS⟩ : ∃ S, S = ks l := ⟨_, rfl⟩
  have HS := Lib.hid hS
  rw [← hS] at hs hc
  clear hS
  clear hb
  go_wp2_with (first
    | (refine wpList_load_row rfl 23 _ rfl w.heap.size rfl 23 (lg l) (0, 0) _ hg Try.underlying23 rfl (lngIk h) ?_)
    | (refine (hc _).mono ?_; rintro e w2 ⟨rfl, hb2⟩))
  go_ret
  exact ⟨by rw [← HS.out]; rfl, HB.out.trans (hb2.mono HB.out.size)⟩

/-- How many of the first k symbols have length i. -/
def cc (l : List Int) (i k : Nat) : Int := ((l.take k).countP (fun z => z == (i : Int)) : Nat)
theorem cc_step (l : List Int) (i k : Nat) (hk : k < l.length) : cc l i (k + 1) = cc l i k + if l.getD k 0 = (i : Int) then 1 else 0 := by
  have e : l.getD k 0 = l[k] := by simp [List.getD_eq_getElem?_getD, hk]
  unfold cc
  rw [e, List.take_add_one, List.getElem?_eq_getElem hk, Option.toList_some, List.countP_append, List.countP_cons, List.countP_nil]
  by_cases h : l[k] = (i : Int)
  · simp [h]
  · simp [h]
theorem cc_bd (l : List Int) (i k : Nat) : 0 ≤ cc l i k ∧ cc l i k ≤ k := by
  have h1 := List.countP_le_length (p := fun z => z == (i : Int)) (l := l.take k)
  have h2 : (l.take k).length ≤ k := by rw [List.length_take]; omega
  unfold cc
  omega
theorem cc_zero (l : List Int) (i : Nat) : cc l i 0 = 0 := by simp [cc]
/-- Sixteen numbers by a function. -/
def row16 (f : Nat → Int) : List Int := (List.range 16).map f
theorem row16_get (f : Nat → Int) (i : Nat) (hi : i < 16) : (row16 f).getD i 0 = f i := by
  simp [row16, List.getD_eq_getElem?_getD, List.getElem?_map, List.getElem?_range hi]
theorem row16_sxt (f : Nat → Int) (h : ∀ i, i < 16 → 0 ≤ f i ∧ f i ≤ 258) : Sxt (row16 f) := by
  refine ⟨by simp [row16], fun z hz => ?_⟩
  obtain ⟨i, hi, rfl⟩ := List.mem_map.1 hz
  have := h i (List.mem_range.1 hi)
  exact WalkArith.wf_i64 ⟨by omega, by omega⟩
theorem row16_set (f g : Nat → Int) (i : Nat) (hi : i < 16) (z : Int) (hz : g i = z) (h : ∀ j, j < 16 → j ≠ i → g j = f j) : (row16 f).set i z = row16 g := by
  apply List.ext_getElem?
  intro j
  rw [List.getElem?_set]
  by_cases hj : j < 16
  · by_cases e : i = j
    · subst e
      simp [row16, hj, hz]
    · simp [row16, e, List.getElem?_map, List.getElem?_range hj, h j hj (fun e2 => e e2.symm)]
  · simp [row16, show 16 ≤ j by omega, show i ≠ j by omega]
theorem row16_congr (f g : Nat → Int) (h : ∀ j, j < 16 → g j = f j) : row16 f = row16 g := by
  unfold row16
  refine List.map_congr_left fun j hj => (h j (List.mem_range.1 hj)).symm
/-- The counts of the first k symbols. -/
def cntT (l : List Int) (k : Nat) : List Int := row16 fun i => cc l i k
theorem cntT_sxt (l : List Int) (k : Nat) (hk : k ≤ 258) : Sxt (cntT l k) := row16_sxt _ fun i _ => by have := cc_bd l i k; omega
theorem cntT_zero (l : List Int) : cntT l 0 = zX := by
  have h : ∀ i, cc l i 0 = 0 := cc_zero l
  simp only [cntT, h]
  rfl
theorem cntT_yes (l : List Int) (k v : Nat) (hk : k < l.length) (hv : v < 16) (e : l.getD k 0 = (v : Int)) : (cntT l k).set v ((cntT l k).getD v 0 + 1) = cntT l (k + 1) := by
  refine row16_set _ _ v hv _ ?_ fun j hj hne => ?_
  · rw [cc_step l v k hk, if_pos e, cntT, row16_get _ v hv]
  · rw [cc_step l j k hk, if_neg (by rw [e]; omega), Int.add_zero]
theorem cntT_no (l : List Int) (k : Nat) (hk : k < l.length) (e : 16 ≤ l.getD k 0) : cntT l k = cntT l (k + 1) := by
  refine row16_congr _ _ fun j hj => ?_
  rw [cc_step l j k hk, if_neg (by omega), Int.add_zero]
/-- While the symbols are counted. -/
structure Ct (w : World) (l c : List Int) (wr : World) : Prop where
  box : wr.heap[w.heap.size]? = some (.cells (lg l) 23 (0, 0))
  res : wr.heap[w.heap.size + 1]? = some (.cells (xl zX) 53 (0, 0))
  cnt : wr.heap[w.heap.size + 2]? = some (.cells (xl c) 53 (0, 0))
  bel : Below w.heap.size w wr
theorem Ct.start (w : World) (l : List Int) : Ct w l zX (((w.alloc (.cells (lg l) 23)).alloc (.cells (xl zX) 53)).alloc (.cells (xl zX) 53)) := by
  refine ⟨?_, ?_, ?_, (((Below.refl _ _).alloc (Nat.le_refl _) _).alloc (by simp) _).alloc (by simp; omega) _⟩
  · rw [heap_alloc_old _ _ (by simp; omega)]
    exact heap_alloc2_old w _ _
  · rw [heap_alloc_old _ _ (by simp)]
    exact heap_alloc2_new w _ _
  · have := heap_alloc_last ((w.alloc (.cells (lg l) 23)).alloc (.cells (xl zX) 53)) (.cells (xl zX) 53)
    simpa using this
theorem Ct.set {w wr : World} {l c : List Int} (h : Ct w l c wr) (v : Nat) (z : Int) : Ct w l (c.set v z) (wr.setCell ⟨w.heap.size + 2, v, none⟩ (.int .i64 z)) :=
  ⟨by rw [heap_setCell_other _ _ _ _ (by simp)]; exact h.box, by rw [heap_setCell_other _ _ _ _ (by simp)]; exact h.res, by rw [heap_setCell_same _ _ _ _ _ _ h.cnt, xl_set], h.bel.setCell (by simp) _⟩

set_option maxRecDepth 100000 in
set_option maxHeartbeats 1000000 in
theorem counts_call (l : List Int) (h : Lng l) (w : World) :
    Calls Try.prog 16 #[.agg (lg l)] w fun e w' => e = .returned (.agg (xl (cntT l 258))) ∧ Below w.heap.size w w' := by
  have hz := sxtZ
  go_enter Try.func16, Try.ntmps16
  go_upto_region 2 with fail
  have hst := Ct.start w l
  generalize ((w.alloc (.cells (lg l) 23)).alloc (.cells (xl zX) 53)).alloc (.cells (xl zX) 53) = w1 at hst ⊢
  have hg := hst.box
  have HST := Lib.hid hst
  clear hst hz
  go_wp2_with (refine wpList_load_row rfl 23 _ rfl w.heap.size rfl 23 (lg l) (0, 0) _ hg Try.underlying23 rfl (lngIk h) ?_)
  go_loopw [7] (fun i wr => ∃ k : Nat, k ≤ 258 ∧ i = .int .i64 k ∧ Ct w l (cntT l k) wr) (fun i _ => 258 - (intOf i).toNat)
  case atStart => exact ⟨0, by omega, rfl, by rw [cntT_zero]; exact HST.out⟩
  case round =>
    obtain ⟨k, hk, rfl, hm⟩ := hrel
    by_cases hlt : k < 258
    · have hix := fun w => run_index_lng w h k hlt
      have hbd := h.bd k
      have hS := cntT_sxt l k hk
      have HY := Lib.hid (cntT_yes l k)
      have HN := Lib.hid (cntT_no l k (by rw [h.1]; exact hlt))
      have hlen : k < l.length := by rw [h.1]; exact hlt
      generalize l.getD k 0 = V at hix hbd HY HN
      obtain ⟨v, rfl⟩ : ∃ v : Nat, V = v := ⟨V.toNat, by omega⟩
      by_cases hv : v < 16
      · have hfz : wr.frozen? ⟨w.heap.size + 2, v, none⟩ = false := frozen_of_row wr (w.heap.size + 2) v _ _ hm.cnt
        have hcl := xl_cell hm.cnt hS v hv
        have hcb := cc_bd l v k
        have HE := Lib.hid (HY.out v hlen hv rfl)
        have HC := Lib.hid (row16_get (fun i => cc l i k) v hv)
        have hce : (cntT l k).getD v 0 = cc l v k := HC.out
        rw [hce] at hcl HE
        generalize cc l v k = C at hcl hcb HE hce
        have HM := Lib.hid hm
        clear hm hS hce
        go_wp2_with fail
        exact ⟨⟨k + 1, by omega, by go_num, HE.out ▸ HM.out.set v _⟩, by simp [intOf]; omega⟩
      · have HE := Lib.hid (HN.out (by omega))
        have HM := Lib.hid hm
        clear hm hS
        go_wp2_with fail
        exact ⟨⟨k + 1, by omega, by go_num, HE.out ▸ HM.out⟩, by simp [intOf]; omega⟩
    · obtain rfl : k = 258 := by omega
      have HM := Lib.hid hm
      have hc : Sxt (cntT l 258) := cntT_sxt l 258 hk
      have hg3 := hm.cnt
      clear hm
      obtain ⟨c, hc0⟩ : ∃ c, c = cntT l 258 := ⟨_, rfl⟩
      rw [← hc0] at hg3 HM hc
      have HCC := Lib.hid hc0
      clear hc0
      go_wp2_with (first
        | (refine wpList_load_row rfl 53 _ rfl (w.heap.size + 2) rfl 53 (xl c) (0, 0) _ hg3 Try.underlying53 rfl (sxtIk hc) ?_)
        | (refine wpList_store_row rfl 53 _ _ rfl (w.heap.size + 1) (xl c) rfl rfl 53 (xl zX) HM.out.res (sxtIk hc) (by rw [xl_size zX_sxt, xl_size hc]) (xl_all _) ?_))
      refine bodyPost_ret (v := .agg (xl c)) ?_ rfl ⟨by rw [HCC.out], HM.out.bel.setRow (by omega) _⟩
      exact results_cell_row Try.results16 _ _ (w.heap.size + 1) 53 (xl c) (0, 0) _ rfl (setRow_heap _ _ _ _ _ _ HM.out.res) Try.underlying53 rfl (sxtIk hc)

set_option maxRecDepth 100000 in
set_option maxHeartbeats 1000000 in
theorem valid_call (l : List Int) (h : Lng l) (w : World) :
    Calls Try.prog 23 #[.agg (lg l)] w fun e w' => e = .returned (.bool (decide (ks l ≤ 32768))) ∧ Below w.heap.size w w' := by
  go_enter Try.func23, Try.ntmps23
  go_upto_region 1 with fail
  have hg := heap_alloc_last w (.cells (lg l) 23)
  have hb := (Below.refl w.heap.size w).alloc (Nat.le_refl _) (.cells (lg l) 23)
  generalize w.alloc (.cells (lg l) 23) = w1 at hg hb ⊢
  have HB := Lib.hid hb
  have hc := fun w => fits_call l h w
  obtain ⟨D, hD⟩ : ∃ D, D = decide (ks l ≤ 32768) := ⟨_, rfl⟩
  rw [← hD] at hc
  have HD := Lib.hid hD
  clear hb hD
  go_wp2_with (first
    | (refine wpList_load_row rfl 23 _ rfl w.heap.size rfl 23 (lg l) (0, 0) _ hg Try.underlying23 rfl (lngIk h) ?_)
    | (refine (hc _).mono ?_; rintro e w2 ⟨rfl, hb2⟩))
  go_ret
  exact ⟨by rw [← HD.out]; rfl, HB.out.trans (hb2.mono HB.out.size)⟩
end Go.Proofs.Ytbegpakjojiblab
