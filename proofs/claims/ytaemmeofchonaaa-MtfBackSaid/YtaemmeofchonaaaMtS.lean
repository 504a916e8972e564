/- winepressref13.Take at an index of the list. -/
import Derived.Test.YtaemmeofchonaaaMtR
set_option linter.unusedVariables false
set_option linter.unusedSimpArgs false
namespace Go.Proofs.Ytaemmeofchonaaa
open Go.RowKit

set_option maxRecDepth 100000 in
set_option maxHeartbeats 1000000 in
theorem rtake_yes (l : List Int) (h : Lst l) (p : Nat) (hp : p < 256) (w : World) :
    Calls Try.prog 12 #[.agg (ll l), .int .i64 p] w fun e w' => e = .returned (.tuple #[.agg (ll (tkV l p)), .int .u8 (l.getD p 0), .bool true]) ∧ Below w.heap.size w w' := by
  have hz := lstZ
  have hg := heap_alloc2_old w (.cells (ll l) 23) (.cells (ll zS) 23)
  have hr := heap_alloc2_new w (.cells (ll l) 23) (.cells (ll zS) 23)
  have HB := Lib.hid (show Below w.heap.size w ((w.alloc (.cells (ll l) 23)).alloc (.cells (ll zS) 23)) from ((Below.refl _ _).alloc (Nat.le_refl _) _).alloc (by simp) _)
  have d0 : decide ((p : Int) < 0) = false := decide_eq_false (by omega)
  have d1 : decide ((255 : Int) < (p : Int)) = false := decide_eq_false (by omega)
  have d1n : decide (255 < p) = false := decide_eq_false (by omega)
  have hpI : (p : Int) < 256 := by omega
  have HCL := Lib.hid (fun (W : World) (hg : W.heap[w.heap.size]? = some (.cells (ll l) 23 (0, 0))) => ll_cell hg h p hp)
  have hcb := h.bd p
  have HEND := Lib.hid (shL_end h p hp)
  have HTL := Lib.hid (tkV_lst h hp)
  generalize l.getD p 0 = c at HCL hcb HEND ⊢
  generalize tkV l p = L at HEND HTL ⊢
  go_enter Try.func12, Try.ntmps12
  go_upto_region 1 with fail
  clear hz
  generalize (w.alloc (.cells (ll l) 23)).alloc (.cells (ll zS) 23) = w1 at HB hg hr ⊢
  have hcl := HCL.out _ hg
  rw [← shL_start h p] at hg
  have HG := Lib.hid hg
  have HR := Lib.hid hr
  clear hg hr HCL
  go_upto_region 5 with fail
  clear hcl d0 d1 d1n
  go_loopw [8] (fun v wr => ∃ i : Nat, i ≤ p ∧ v = .int .i64 i ∧ wr.heap[w.heap.size]? = some (.cells (ll (shL l p i)) 23 (0, 0)) ∧ wr.heap[w.heap.size + 1]? = some (.cells (ll zS) 23 (0, 0)) ∧ Below w.heap.size w wr) (fun v _ => (intOf v).toNat)
  case atStart => exact ⟨p, Nat.le_refl _, rfl, HG.out, HR.out, HB.out⟩
  case round =>
    obtain ⟨i, hi, rfl, hg, hr, hb⟩ := hrel
    clear HG HR HB
    have HR := Lib.hid hr
    have HB := Lib.hid hb
    clear hr hb
    cases i with
    | zero =>
      have f0 := frozen_of_row wr w.heap.size 0 _ _ hg
      have c0 := ll_cell hg (shL_lst h p 0) 0 (by omega)
      have H2 := Lib.hid (show (wr.setCell ⟨w.heap.size, 0, none⟩ (.int .u8 c)).heap[w.heap.size]? = some (.cells (ll L) 23 (0, 0)) by rw [heap_setCell_same _ _ _ _ _ _ hg, ll_set, HEND.out])
      have H3 := Lib.hid (show (wr.setCell ⟨w.heap.size, 0, none⟩ (.int .u8 c)).heap[w.heap.size + 1]? = some (.cells (ll zS) 23 (0, 0)) by rw [heap_setCell_other _ _ _ _ (by simp)]; exact HR.out)
      have HB2 := Lib.hid (HB.out.setCell (p := ⟨w.heap.size, 0, none⟩) (by simp) (.int .u8 c))
      clear hg
      go_upto_region 9 with fail
      clear f0 c0
      generalize wr.setCell ⟨w.heap.size, 0, none⟩ (.int .u8 c) = w2 at H2 H3 HB2 ⊢
      have h2 := H2.out
      have h3 := H3.out
      go_wp2_with (first
        | (refine wpList_load_row rfl 23 _ rfl w.heap.size rfl 23 (ll L) (0, 0) _ h2 Try.underlying23 rfl (lstIk HTL.out) ?_)
        | (refine wpList_store_row rfl 23 _ _ rfl (w.heap.size + 1) (ll L) rfl rfl 23 (ll zS) h3 (lstIk HTL.out) (by rw [ll_size zS_lst, ll_size HTL.out]) (ll_all _) ?_))
      refine bodyPost_ret (v := .tuple #[.agg (ll L), .int .u8 c, .bool true]) ?_ rfl ⟨rfl, HB2.out.setRow (by omega) _⟩
      exact results_cell_tmp2 Try.results12 _ _ (w.heap.size + 1) 23 (ll L) (0, 0) _ _ _ rfl rfl rfl (setRow_heap _ _ _ _ _ _ h3) Try.underlying23 rfl (lstIk HTL.out)
    | succ k =>
      have hk1 : ((k + 1 : Nat) : Int) = (k : Int) + 1 := by omega
      have f0 := frozen_of_row wr w.heap.size (k + 1) _ _ hg
      have c0 := ll_cell hg (shL_lst h p (k + 1)) (k + 1) (by omega)
      have c1 := ll_cell hg (shL_lst h p (k + 1)) k (by omega)
      rw [shL_get l p (k + 1) k (by omega) (by omega)] at c1
      have hb := h.bd k
      have H2 := Lib.hid (show (wr.setCell ⟨w.heap.size, k + 1, none⟩ (.int .u8 (l.getD k 0))).heap[w.heap.size]? = some (.cells (ll (shL l p k)) 23 (0, 0)) by rw [heap_setCell_same _ _ _ _ _ _ hg, ll_set, shL_step l p k hp hi])
      have H3 := Lib.hid (show (wr.setCell ⟨w.heap.size, k + 1, none⟩ (.int .u8 (l.getD k 0))).heap[w.heap.size + 1]? = some (.cells (ll zS) 23 (0, 0)) by rw [heap_setCell_other _ _ _ _ (by simp)]; exact HR.out)
      have HB2 := Lib.hid (HB.out.setCell (p := ⟨w.heap.size, k + 1, none⟩) (by simp) (.int .u8 (l.getD k 0)))
      generalize l.getD k 0 = z at c1 hb H2 H3 HB2
      generalize (shL l p (k + 1)).getD (k + 1) 0 = u at c0
      have hki : (k : Int) + 1 < 256 := by omega
      have hkj : (k : Int) < 256 := by omega
      have dk : decide ((0 : Int) < ((k + 1 : Nat) : Int)) = true := decide_eq_true (by omega)
      have dk2 : decide ((0 : Int) < (k : Int) + 1) = true := decide_eq_true (by omega)
      clear hg
      go_wp2_with fail
      exact ⟨⟨k, by omega, by go_num, H2.out, H3.out, HB2.out⟩, by simp [intOf] <;> omega⟩
end Go.Proofs.Ytaemmeofchonaaa
