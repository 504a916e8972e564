/- kraft.Complete, kraft.Table (after XKt, over XCnK's weights). -/
import Derived.Test.YtbegpakjojiblabPdN
import Derived.RegionTactic
import Derived.Deep.RegionHeld3
import Derived.Deep.DeepMust
import Derived.Deep.CutBlock
import Derived.Deep.DeepCutAuto
set_option linter.unusedVariables false
set_option linter.unusedSimpArgs false
namespace Go.Proofs.Ytbegpakjojiblab
open Go.RowKit

set_option maxRecDepth 100000 in
set_option maxHeartbeats 1000000 in
theorem complete_call (l : List Int) (h : Lng l) (w : World) :
    Calls Try.prog 22 #[.agg (lg l)] w fun e w' => e = .returned (.bool (decide (ks l = 32768))) ∧ Below w.heap.size w w' := by
  have hs := ks_bd h
  go_enter Try.func22, Try.ntmps22
  go_upto_region 1 with fail
  have hg := heap_alloc_last w (.cells (lg l) 23)
  have hb := (Below.refl w.heap.size w).alloc (Nat.le_refl _) (.cells (lg l) 23)
  generalize w.alloc (.cells (lg l) 23) = w1 at hg hb ⊢
  have HB := Lib.hid hb
  have hc := fun w => ksum_call l h w
  obtain ⟨S, hS⟩ : ∃ S, S = ks l := ⟨_, rfl⟩
  have HS := Lib.hid hS
  rw [← hS] at hs hc
  clear hS
  clear hb
  go_wp2_with (first
    | (refine wpList_load_row rfl 23 _ rfl w.heap.size rfl 23 (lg l) (0, 0) _ hg Try.underlying23 rfl (lngIk h) ?_)
    | (refine (hc _).mono ?_; rintro e w2 ⟨rfl, hb2⟩))
  go_ret
  exact ⟨by rw [← HS.out]; rfl, HB.out.trans (hb2.mono HB.out.size)⟩

set_option maxRecDepth 100000 in
set_option maxHeartbeats 1000000 in
theorem table_call (l : List Int) (h : Lng l) (w : World) :
    Calls Try.prog 14 #[.agg (lg l)] w fun e w' => e = .returned (.bool (tableV l)) ∧ Below w.heap.size w w' := by
  have hs := ks_bd h
  go_enter Try.func14, Try.ntmps14
  go_upto_region 1 with fail
  have hg := heap_alloc_last w (.cells (lg l) 23)
  have hb := (Below.refl w.heap.size w).alloc (Nat.le_refl _) (.cells (lg l) 23)
  generalize w.alloc (.cells (lg l) 23) = w1 at hg hb ⊢
  have HB := Lib.hid hb
  have hc := fun w => complete_call l h w
  have hcl := lg_cell hg h 257 (by omega)
  have HV := Lib.hid (show tableV l = (decide (ks l = 32768) && !decide (l.getD 257 0 = 0)) from rfl)
  have hbd := h.bd 257
  generalize l.getD 257 0 = V at hcl HV hbd
  generalize ks l = S at hs hc HV ⊢
  clear hb
  by_cases hV : V = 0
  · subst hV
    go_wp2_with fail
    go_ret
    exact ⟨by rw [HV.out]; simp, HB.out⟩
  · go_wp2_with (first
      | (refine wpList_load_row_g 3 true rfl 6 rfl _ rfl (by simpa using hV) 23 _ rfl w.heap.size rfl 23 (lg l) (0, 0) _ hg Try.underlying23 rfl (lngIk h) ?_)
      | (refine (hc _).mono ?_; rintro e w2 ⟨rfl, hb2⟩))
    go_ret
    exact ⟨by rw [HV.out]; simp [hV], HB.out.trans (hb2.mono HB.out.size)⟩

end Go.Proofs.Ytbegpakjojiblab
