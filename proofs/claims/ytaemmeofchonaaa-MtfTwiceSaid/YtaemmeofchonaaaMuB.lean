/- mtf: New. -/
import Derived.Test.YtaemmeofchonaaaMtC
import Derived.Deep.DeepMust
set_option linter.unusedVariables false
set_option linter.unusedSimpArgs false
namespace Go.Proofs.Ytaemmeofchonaaa
open Go.RowKit

set_option maxRecDepth 100000 in
set_option maxHeartbeats 1000000 in
theorem new_call (w : World) : Calls Try.prog 15 #[] w fun e w' => e = .returned (.agg (ll idL)) ∧ Below w.heap.size w w' := by
  have hz := lstZ
  have hr := heap_alloc2_old w (.cells (ll zS) 23) (.cells (ll zS) 23)
  have hg := heap_alloc2_new w (.cells (ll zS) 23) (.cells (ll zS) 23)
  have HB := Lib.hid (show Below w.heap.size w ((w.alloc (.cells (ll zS) 23)).alloc (.cells (ll zS) 23)) from ((Below.refl _ _).alloc (Nat.le_refl _) _).alloc (by simp) _)
  rw [← nwL_zero] at hg
  go_enter Try.func15, Try.ntmps15
  go_upto_region 2 with fail
  clear hz
  rw [nwL_zero] at hg
  generalize (w.alloc (.cells (ll zS) 23)).alloc (.cells (ll zS) 23) = w1 at HB hg hr ⊢
  rw [← nwL_zero] at hg
  have HG := Lib.hid hg
  have HR := Lib.hid hr
  clear hg hr
  go_wp2_with fail
  go_loopw [3] (fun v wr => ∃ i : Nat, i ≤ 256 ∧ v = .int .i64 i ∧ wr.heap[w.heap.size + 1]? = some (.cells (ll (nwL i)) 23 (0, 0)) ∧ wr.heap[w.heap.size]? = some (.cells (ll zS) 23 (0, 0)) ∧ Below w.heap.size w wr) (fun v _ => 256 - (intOf v).toNat)
  case atStart => exact ⟨0, by omega, rfl, HG.out, HR.out, HB.out⟩
  case round =>
    obtain ⟨i, hi, rfl, hg, hr, hb⟩ := hrel
    clear HG HR HB
    have HR := Lib.hid hr
    have HB := Lib.hid hb
    clear hr hb
    by_cases hlt : i < 256
    · have f0 := frozen_of_row wr (w.heap.size + 1) i _ _ hg
      have c0 := ll_cell hg (nwL_lst i) i hlt
      have hiI : (i : Int) < 256 := by omega
      have hw8 : IntKind.u8.wrap (i : Int) = (i : Int) := IntWalk.u8_in _ (by omega)
      have H2 := Lib.hid (show (wr.setCell ⟨w.heap.size + 1, i, none⟩ (.int .u8 (i : Int))).heap[w.heap.size + 1]? = some (.cells (ll (nwL (i + 1))) 23 (0, 0)) by rw [heap_setCell_same _ _ _ _ _ _ hg, ll_set, nwL_step i hlt])
      have H3 := Lib.hid (show (wr.setCell ⟨w.heap.size + 1, i, none⟩ (.int .u8 (i : Int))).heap[w.heap.size]? = some (.cells (ll zS) 23 (0, 0)) by rw [heap_setCell_other _ _ _ _ (by simp)]; exact HR.out)
      have HB2 := Lib.hid (HB.out.setCell (p := ⟨w.heap.size + 1, i, none⟩) (by simp) (.int .u8 (i : Int)))
      generalize (nwL i).getD i 0 = u at c0
      clear hg
      go_wp2_with fail
      exact ⟨⟨i + 1, by omega, by go_num, H2.out, H3.out, HB2.out⟩, by simp [intOf] <;> omega⟩
    · obtain rfl : i = 256 := by omega
      rw [nwL_all] at hg
      have hr := HR.out
      have hs0 := ll_size zS_lst
      have hs1 := ll_size idL_lst
      go_wp2_with (first
        | (refine wpList_load_row rfl 23 _ rfl (w.heap.size + 1) rfl 23 (ll idL) (0, 0) _ hg Try.underlying23 rfl (lstIk idL_lst) ?_)
        | (refine wpList_store_row rfl 23 _ _ rfl w.heap.size (ll idL) rfl rfl 23 (ll zS) hr (lstIk idL_lst) (by rw [hs0, hs1]) (ll_all _) ?_))
      refine bodyPost_ret (v := .agg (ll idL)) ?_ rfl ⟨rfl, HB.out.setRow (Nat.le_refl _) _⟩
      exact results_cell1 Try.results15 _ _ w.heap.size 23 (ll idL) (0, 0) _ rfl (setRow_heap _ _ _ _ _ _ hr) Try.underlying23 rfl (lstIk idL_lst)

end Go.Proofs.Ytaemmeofchonaaa
