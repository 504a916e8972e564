/- mtf: Take. -/
import Derived.Test.YtaemmeofchonaaaMuA
set_option linter.unusedVariables false
set_option linter.unusedSimpArgs false
namespace Go.Proofs.Ytaemmeofchonaaa
open Go.RowKit

set_option maxRecDepth 100000 in
set_option maxHeartbeats 1000000 in
theorem take_no (l : List Int) (h : Lst l) (p : Int) (hp : ¬ (0 ≤ p ∧ p ≤ 255)) (w : World) :
    Calls Try.prog 11 #[.agg (ll l), .int .i64 p] w fun e w' => e = .returned (.tuple #[.agg (ll l), .int .u8 0, .bool false]) ∧ Below w.heap.size w w' := by
  have hz := lstZ
  have hg := heap_alloc2_old w (.cells (ll l) 23) (.cells (ll zS) 23)
  have hr := heap_alloc2_new w (.cells (ll l) 23) (.cells (ll zS) 23)
  have HB := Lib.hid (show Below w.heap.size w ((w.alloc (.cells (ll l) 23)).alloc (.cells (ll zS) 23)) from ((Below.refl _ _).alloc (Nat.le_refl _) _).alloc (by simp) _)
  go_enter Try.func11, Try.ntmps11
  go_upto_region 1 with fail
  clear hz
  generalize (w.alloc (.cells (ll l) 23)).alloc (.cells (ll zS) 23) = w1 at HB hg hr ⊢
  by_cases h0 : p < 0
  · have d0 : decide (p < 0) = true := decide_eq_true h0
    go_wp2_with (first
      | (refine wpList_load_row rfl 23 _ rfl w.heap.size rfl 23 (ll l) (0, 0) _ hg Try.underlying23 rfl (lstIk h) ?_)
      | (refine wpList_store_row rfl 23 _ _ rfl (w.heap.size + 1) (ll l) rfl rfl 23 (ll zS) hr (lstIk h) (by rw [ll_size zS_lst, ll_size h]) (ll_all _) ?_))
    refine bodyPost_ret (v := .tuple #[.agg (ll l), .int .u8 0, .bool false]) ?_ rfl ⟨rfl, HB.out.setRow (by omega) _⟩
    exact results_cell_tmp2 Try.results11 _ _ (w.heap.size + 1) 23 (ll l) (0, 0) _ _ _ rfl rfl rfl (setRow_heap _ _ _ _ _ _ hr) Try.underlying23 rfl (lstIk h)
  · have d0 : decide (p < 0) = false := decide_eq_false h0
    have d1 : decide (p ≥ 256) = true := decide_eq_true (by omega)
    have d1' : decide ((256 : Int) ≤ p) = true := decide_eq_true (by omega)
    go_wp2_with (first
      | (refine wpList_load_row rfl 23 _ rfl w.heap.size rfl 23 (ll l) (0, 0) _ hg Try.underlying23 rfl (lstIk h) ?_)
      | (refine wpList_store_row rfl 23 _ _ rfl (w.heap.size + 1) (ll l) rfl rfl 23 (ll zS) hr (lstIk h) (by rw [ll_size zS_lst, ll_size h]) (ll_all _) ?_))
    refine bodyPost_ret (v := .tuple #[.agg (ll l), .int .u8 0, .bool false]) ?_ rfl ⟨rfl, HB.out.setRow (by omega) _⟩
    exact results_cell_tmp2 Try.results11 _ _ (w.heap.size + 1) 23 (ll l) (0, 0) _ _ _ rfl rfl rfl (setRow_heap _ _ _ _ _ _ hr) Try.underlying23 rfl (lstIk h)

set_option maxRecDepth 100000 in
set_option maxHeartbeats 1000000 in
theorem take_yes (l : List Int) (h : Lst l) (p : Nat) (hp : p < 256) (w : World) :
    Calls Try.prog 11 #[.agg (ll l), .int .i64 p] w fun e w' => e = .returned (.tuple #[.agg (ll (tkV l p)), .int .u8 (l.getD p 0), .bool true]) ∧ Below w.heap.size w w' := by
  have hz := lstZ
  have hg := heap_alloc2_old w (.cells (ll l) 23) (.cells (ll zS) 23)
  have hr := heap_alloc2_new w (.cells (ll l) 23) (.cells (ll zS) 23)
  have HB := Lib.hid (show Below w.heap.size w ((w.alloc (.cells (ll l) 23)).alloc (.cells (ll zS) 23)) from ((Below.refl _ _).alloc (Nat.le_refl _) _).alloc (by simp) _)
  have HFR := Lib.hid (fun W => front_call l h p hp W)
  have HTL := Lib.hid (tkV_lst h hp)
  generalize tkV l p = L at HFR HTL ⊢
  obtain ⟨c, hc⟩ : ∃ c, c = l.getD p 0 := ⟨_, rfl⟩
  rw [← hc]
  have HC := Lib.hid hc.symm
  clear hc
  go_enter Try.func11, Try.ntmps11
  go_upto_region 1 with fail
  clear hz
  have hsz : w.heap.size + 2 ≤ ((w.alloc (.cells (ll l) 23)).alloc (.cells (ll zS) 23)).heap.size := by simp
  have HSZ := Lib.hid hsz
  clear hsz
  generalize (w.alloc (.cells (ll l) 23)).alloc (.cells (ll zS) 23) = w1 at HB hg hr HSZ ⊢
  have d0 : decide ((p : Int) < 0) = false := decide_eq_false (by omega)
  have d1 : decide ((256 : Int) ≤ (p : Int)) = false := decide_eq_false (by omega)
  have d1n : decide (256 ≤ p) = false := decide_eq_false (by omega)
  have hpI : (p : Int) < 256 := by omega
  have c1 := ll_cell hg h p hp
  have hcb := h.bd p
  have hs1 := ll_size h
  have HG := Lib.hid hg
  have HR := Lib.hid hr
  clear hr hg
  rw [HC.out] at c1 hcb
  go_upto_region 3 with fail
  clear d0 d1 d1n
  clear c1 hcb hs1
  refine wp_region_noPanic ?_
  refine wp_region_held_drew (S := fun W => W.heap[w.heap.size]? = some (.cells (ll l) 23 (0, 0))) (by kernel_rfl) HG.out (fun hHeld => ?_)
  refine wpAnyH_take (i := 0) (v := .agg (ll l)) rfl (by kernel_rfl) (by kernel_rfl) (by kernel_rfl) (fun _ _ _ h => h) (yieldsIf_load_mid rfl 23 _ rfl w.heap.size 0 rfl ((ll l).toList) _ (fun W hW => ll_whole hW) Try.underlying23 rfl (by rw [Array.length_toList]; exact lstIk h)) (by assumption) ?_
  try simp only [Act.put, List.getElem_toArray, List.getElem_cons_succ, List.getElem_cons_zero, List.setIfInBounds_toArray, List.set_cons_zero, List.set_cons_succ]
  refine wpAnyH_take (i := 1) (v := ?_) rfl (by kernel_rfl) (by kernel_rfl) (by kernel_rfl) (fun _ _ _ h => h) (Or.inl ⟨by rfl, ?_⟩) (by assumption) ?_
  rotate_left
  · (intro W hSw; go_simp) <;> with_reducible rfl
  try simp only [Act.put, List.getElem_toArray, List.getElem_cons_succ, List.getElem_cons_zero, List.setIfInBounds_toArray, List.set_cons_zero, List.set_cons_succ]
  refine wpAnyH_take (i := 3) (v := ?_) rfl (by kernel_rfl) (by kernel_rfl) (by kernel_rfl) (fun _ _ _ h => h) (Or.inl ⟨by rfl, ?_⟩) (by assumption) ?_
  rotate_left
  · (intro W hSw; go_simp) <;> with_reducible rfl
  try simp only [Act.put, List.getElem_toArray, List.getElem_cons_succ, List.getElem_cons_zero, List.setIfInBounds_toArray, List.set_cons_zero, List.set_cons_succ]
  refine wpAnyH_take (i := 4) (v := ?_) rfl (by kernel_rfl) (by kernel_rfl) (by kernel_rfl) (fun _ _ _ h => h) (Or.inl ⟨by rfl, ?_⟩) (by assumption) ?_
  rotate_left
  · (intro W hSw; have hcW := ll_cell hSw h p hp; rw [HC.out] at hcW; go_simp) <;> with_reducible rfl
  try simp only [Act.put, List.getElem_toArray, List.getElem_cons_succ, List.getElem_cons_zero, List.setIfInBounds_toArray, List.set_cons_zero, List.set_cons_succ]
  refine wpAnyH_take (i := 5) (v := ?_) rfl (by kernel_rfl) (by kernel_rfl) (by kernel_rfl) (fun _ _ _ h => h) (Or.inl ⟨by rfl, ?_⟩) (by assumption) ?_
  rotate_left
  · (intro W hSw; have hcW := ll_cell hSw h p hp; rw [HC.out] at hcW; go_simp) <;> with_reducible rfl
  try simp only [Act.put, List.getElem_toArray, List.getElem_cons_succ, List.getElem_cons_zero, List.setIfInBounds_toArray, List.set_cons_zero, List.set_cons_succ]
  refine wpAnyH_ready (rs := [2]) (by kernel_rfl) (by simp) ?_
  refine AllReadyH.cons (o := _) rfl (fun K hK => ?_) (AllReadyH.nil)
  go_simp
  go_at_call 22
  refine (HFR.out _).mono ?_
  rintro e w5 ⟨rfl, hb5⟩
  have hr5 := heap_on hb5 HR.out
  have HB5 := Lib.hid (HB.out.drew.trans (hb5.mono HB.out.size))
  refine hK.out _ _ (heap_on hb5 hHeld) (fun hHeldN => ?_)
  clear K hK hHeld
  have hHeld := hHeldN
  clear hHeldN
  try simp only [Act.put, List.getElem_toArray, List.getElem_cons_succ, List.getElem_cons_zero, List.setIfInBounds_toArray, List.set_cons_zero, List.set_cons_succ]
  refine wpAnyH_ready (rs := [6]) (by kernel_rfl) (by simp) ?_
  refine AllReadyH.cons (o := _) rfl (fun K hK => ?_) (AllReadyH.nil)
  rw [if_pos (by rfl)]
  refine wp_store_row 23 _ _ rfl (w.heap.size + 1) (ll L) rfl rfl 23 (ll zS) hr5 (lstIk HTL.out) (by rw [ll_size zS_lst, ll_size HTL.out]) (ll_all _) ?_
  refine hK.out _ _ ((setRow_other _ _ _ _ (by omega)).trans hHeld) (fun hHeldN => ?_)
  clear K hK hHeld
  have hHeld := hHeldN
  clear hHeldN
  try simp only [Act.put, List.getElem_toArray, List.getElem_cons_succ, List.getElem_cons_zero, List.setIfInBounds_toArray, List.set_cons_zero, List.set_cons_succ]
  refine wpAnyH_take (i := 7) (v := ?_) rfl (by kernel_rfl) (by kernel_rfl) (by kernel_rfl) (fun _ _ _ h => h) (Or.inl ⟨by rfl, ?_⟩) (by assumption) ?_
  rotate_left
  · (intro W hSw; go_simp) <;> with_reducible rfl
  try simp only [Act.put, List.getElem_toArray, List.getElem_cons_succ, List.getElem_cons_zero, List.setIfInBounds_toArray, List.set_cons_zero, List.set_cons_succ]
  refine wpAnyH_take (i := 8) (v := ?_) rfl (by kernel_rfl) (by kernel_rfl) (by kernel_rfl) (fun _ _ _ h => h) (Or.inl ⟨by rfl, ?_⟩) (by assumption) ?_
  rotate_left
  · (intro W hSw; go_simp) <;> with_reducible rfl
  try simp only [Act.put, List.getElem_toArray, List.getElem_cons_succ, List.getElem_cons_zero, List.setIfInBounds_toArray, List.set_cons_zero, List.set_cons_succ]
  refine wpAnyH_done (by kernel_rfl) ?_ _
  refine NoPanic.normal ?_
  have hX := setRow_heap w5 (w.heap.size + 1) _ (ll L) _ _ hr5
  go_wp2
  refine bodyPost_ret (v := .tuple #[.agg (ll L), .int .u8 c, .bool true]) ?_ rfl ⟨rfl, HB5.out.setRow (by omega) _⟩
  exact results_cell_tmp2 Try.results11 _ _ (w.heap.size + 1) 23 (ll L) (0, 0) _ _ _ rfl rfl rfl hX Try.underlying23 rfl (lstIk HTL.out)
end Go.Proofs.Ytaemmeofchonaaa
