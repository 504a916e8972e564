/- winepressref13.New. -/
import Derived.Test.YtaemmeofchonaaaMtU
set_option linter.unusedVariables false
set_option linter.unusedSimpArgs false
namespace Go.Proofs.Ytaemmeofchonaaa
open Go.RowKit

/-- The initial list's first k elements, and zeros. -/
def nwL (k : Nat) : List Int := r256 fun j => if j < k then (j : Int) else 0
theorem nwL_lst (k : Nat) : Lst (nwL k) := Lst.of fun i hi => WalkArith.wf_u8 (by split <;> omega)
theorem nwL_zero : nwL 0 = zS := ext256 (r256_len _) zS_lst.1 fun i hi => by rw [nwL, r256_get _ i hi, if_neg (by omega), zS_get]
theorem nwL_all : nwL 256 = idL := ext256 (r256_len _) idL_len fun i hi => by rw [nwL, r256_get _ i hi, if_pos hi, idL_get i hi]
theorem nwL_step (k : Nat) (hk : k < 256) : (nwL k).set k (k : Int) = nwL (k + 1) := by
  refine ext256 (by rw [List.length_set]; exact r256_len _) (r256_len _) fun j hj => ?_
  rw [set_getD _ _ _ _ (by show _ < (r256 _).length; rw [r256_len]; exact hk), nwL, nwL, r256_get _ j hj, r256_get _ j hj]
  by_cases e : j = k
  · subst e
    rw [if_pos rfl, if_pos (by omega)]
  · rw [if_neg e]
    by_cases h : j < k
    · rw [if_pos h, if_pos (by omega)]
    · rw [if_neg h, if_neg (by omega)]
theorem idL_lst : Lst idL := by rw [← nwL_all]; exact nwL_lst 256
theorem Vld.lst {l : List Int} (h : Vld l) : Lst l := ⟨h.len, fun z hz => by
  have := (h.mem z).1 hz
  exact WalkArith.wf_u8 (by omega)⟩
theorem results_cell1 {P : Program} {fn : Func} {p : Tmp} {ty : TypeId} (h : fn.results = #[.cell p ty]) (tmps : Array Value) (w : World) (g : Nat) (t : TypeId) (cs : Array Value) (fr : Nat × Nat) (d : TypeDesc)
    (hp : tmps.getD p undef = .pointer (some ⟨g, 0, none⟩)) (hg : w.heap[g]? = some (.cells cs t fr))
    (hu : P.underlying ty = some d) (hd : (match d with | .struct _ | .array _ _ => true | _ => false) = true) (hi : (P.info? ty).map (·.size) = some cs.size) :
    (results fn tmps).run P w = .ok (.agg cs) w := by
  have hp' : tmps[p]?.getD undef = .pointer (some ⟨g, 0, none⟩) := by simpa using hp
  simp [results, h, hp', asAddr, run_loadVar_row w g t ty cs fr d hg hu hd hi]

set_option maxRecDepth 100000 in
set_option maxHeartbeats 1000000 in
theorem rnew_call (w : World) : Calls Try.prog 16 #[] w fun e w' => e = .returned (.agg (ll idL)) ∧ Below w.heap.size w w' := by
  have hz := lstZ
  have hr := heap_alloc2_old w (.cells (ll zS) 23) (.cells (ll zS) 23)
  have hg := heap_alloc2_new w (.cells (ll zS) 23) (.cells (ll zS) 23)
  have HB := Lib.hid (show Below w.heap.size w ((w.alloc (.cells (ll zS) 23)).alloc (.cells (ll zS) 23)) from ((Below.refl _ _).alloc (Nat.le_refl _) _).alloc (by simp) _)
  rw [← nwL_zero] at hg
  go_enter Try.func16, Try.ntmps16
  go_upto_region 2 with fail
  clear hz
  rw [nwL_zero] at hg
  generalize (w.alloc (.cells (ll zS) 23)).alloc (.cells (ll zS) 23) = w1 at HB hg hr ⊢
  rw [← nwL_zero] at hg
  have HG := Lib.hid hg
  have HR := Lib.hid hr
  clear hg hr
  go_wp2_with fail
  go_loopw [2] (fun v wr => ∃ i : Nat, i ≤ 256 ∧ v = .int .i64 i ∧ wr.heap[w.heap.size + 1]? = some (.cells (ll (nwL i)) 23 (0, 0)) ∧ wr.heap[w.heap.size]? = some (.cells (ll zS) 23 (0, 0)) ∧ Below w.heap.size w wr) (fun v _ => 256 - (intOf v).toNat)
  case atStart => exact ⟨0, by omega, rfl, HG.out, HR.out, HB.out⟩
  case round =>
    obtain ⟨i, hi, rfl, hg, hr, hb⟩ := hrel
    clear HG HR HB
    have HR := Lib.hid hr
    have HB := Lib.hid hb
    clear hr hb
    by_cases hlt : i < 256
    · have f0 := frozen_of_row wr (w.heap.size + 1) i _ _ hg
      have c0 := ll_cell hg (nwL_lst i) i hlt
      have hiI : (i : Int) < 256 := by omega
      have hw8 : IntKind.u8.wrap (i : Int) = (i : Int) := IntWalk.u8_in _ (by omega)
      have H2 := Lib.hid (show (wr.setCell ⟨w.heap.size + 1, i, none⟩ (.int .u8 (i : Int))).heap[w.heap.size + 1]? = some (.cells (ll (nwL (i + 1))) 23 (0, 0)) by rw [heap_setCell_same _ _ _ _ _ _ hg, ll_set, nwL_step i hlt])
      have H3 := Lib.hid (show (wr.setCell ⟨w.heap.size + 1, i, none⟩ (.int .u8 (i : Int))).heap[w.heap.size]? = some (.cells (ll zS) 23 (0, 0)) by rw [heap_setCell_other _ _ _ _ (by simp)]; exact HR.out)
      have HB2 := Lib.hid (HB.out.setCell (p := ⟨w.heap.size + 1, i, none⟩) (by simp) (.int .u8 (i : Int)))
      generalize (nwL i).getD i 0 = u at c0
      clear hg
      go_wp2_with fail
      exact ⟨⟨i + 1, by omega, by go_num, H2.out, H3.out, HB2.out⟩, by simp [intOf] <;> omega⟩
    · obtain rfl : i = 256 := by omega
      rw [nwL_all] at hg
      have hr := HR.out
      have hs0 := ll_size zS_lst
      have hs1 := ll_size idL_lst
      go_wp2_with (first
        | (refine wpList_load_row rfl 23 _ rfl (w.heap.size + 1) rfl 23 (ll idL) (0, 0) _ hg Try.underlying23 rfl (lstIk idL_lst) ?_)
        | (refine wpList_store_row rfl 23 _ _ rfl w.heap.size (ll idL) rfl rfl 23 (ll zS) hr (lstIk idL_lst) (by rw [hs0, hs1]) (ll_all _) ?_))
      refine bodyPost_ret (v := .agg (ll idL)) ?_ rfl ⟨rfl, HB.out.setRow (Nat.le_refl _) _⟩
      exact results_cell1 Try.results16 _ _ w.heap.size 23 (ll idL) (0, 0) _ rfl (setRow_heap _ _ _ _ _ _ hr) Try.underlying23 rfl (lstIk idL_lst)
end Go.Proofs.Ytaemmeofchonaaa
