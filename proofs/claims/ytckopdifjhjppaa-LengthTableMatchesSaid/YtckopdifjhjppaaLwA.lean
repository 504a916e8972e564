/- wakes of layer 10: what it calls. -/
import Derived.Test.YtckopdifjhjppaaLdQ
import Derived.Test.YtckopdifjhjppaaLdS
import Derived.Test.YtckopdifjhjppaaLdR
import Derived.Test.YtckopdifjhjppaaLtS
set_option linter.unusedVariables false
set_option linter.unusedSimpArgs false
namespace Go.Proofs.Ytckopdifjhjppaa
open Go.RowKit

theorem built_lng : Try.prog.built 23 [] = some (lg zL) := by
  have h : (Try.prog.info? 23).map (fun i => (i.zero, i.size)) = some (some (.agg (lg zL)), 258) := by kernel_rfl
  have h2 : (Try.prog.info? 5).map (·.size) = some 1 := by kernel_rfl
  unfold Program.built
  rw [Try.underlying23]
  cases hi : Try.prog.info? 23 with
  | none => rw [hi] at h; cases h
  | some it =>
    rw [hi] at h
    injection h with h
    injection h with hz _
    cases hn : Try.prog.info? 5 with
    | none => rw [hn] at h2; cases h2
    | some jn =>
      simp only [hz]
      rfl
theorem build_l0 (W : World) : (Instr.build 23 #[]).run Try.prog W = .ok (.agg (lg zL)) W := run_build W _ _ _ built_lng
theorem wpList_build_is_g {P : Program} {ops : Array Oper} {rest : List Oper} {o : Oper} {a : Act} {w : World} {Q : Exit → Act → World → Prop} (j : Nat) (want : Bool) (hgd : o.guard = some (j, want)) (s : Nat) (hs : (ops[j]?).bind (·.dst) = some s) (v : Bool) (hv : a.tmps[s]? = some (.bool v)) (hvw : v = want)
    (t : TypeId) (parts : Array (Nat × Operand)) (ho : o.op = .build t parts)
    (vals : Array (Nat × Value)) (u : Value) (hr : ∀ W, (Instr.build t vals).run P W = .ok u W) (hval : (parts.toList.map fun (i, x) => (i, a.eval x)) = vals.toList) (h : wpList P ops Q rest (a.put o.dst u) w) : wpList P ops Q (o :: rest) a w := by
  subst hvw
  refine BigFrame.wpList_want ?_ (fun K hK => ?_)
  · unfold Region.wanted
    rw [hgd]
    simp [yielded, hs, hv]
  · unfold Oper.wp execOp
    simp only [ho, Sem.run_bind]
    have hv2 : (parts.map fun (i, x) => (i, a.eval x)) = vals := by
      apply Array.toList_inj.1
      rw [Array.toList_map]
      exact hval
    rw [hv2, hr w]
    exact hK _ _ h

/-- The lengths of the chapter's example. -/
def L3 : List Int := ((zL.set 0 1).set 1 2).set 257 2
theorem L3_lng : Lng L3 := ((zL_lng.set 0 1 (by decide)).set 1 2 (by decide)).set 257 2 (by decide)
set_option maxRecDepth 100000 in
theorem L3_tab : tableV L3 = true := by kernel_rfl
set_option maxRecDepth 100000 in
theorem L3_len : (ofV L3).length = 272 := by kernel_rfl
set_option maxRecDepth 100000 in
theorem L3_take : (ofV L3).take 13 = [0, 0, 0, 1, 0, 1, 0, 0, 1, 1, 1, 1, 0] := by kernel_rfl
set_option maxRecDepth 100000 in
theorem L3_drop : (ofV L3).drop 267 = [1, 0, 1, 0, 0] := by kernel_rfl
set_option maxRecDepth 100000 in
theorem zL_tab : tableV zL = false := by kernel_rfl
theorem L3_read : readS tableV z0 0 (ofV L3 ++ [1, 1]) = (L3, 272, 0) := by
  rw [read_of tableV L3 L3_lng.1 (table_small L3_lng L3_tab) L3_tab, L3_len]
set_option maxRecDepth 100000 in
theorem rd_bad : readS tableV z0 0 [0, 0, 0, 0, 1, 0, 1, 1] = (z0.L, 0, 100) := by rfl
set_option maxRecDepth 100000 in
theorem rd_short : readS tableV z0 0 [0, 0, 0] = (z0.L, 0, 50) := by rfl
set_option maxRecDepth 100000 in
theorem rd_arg : readS tableV z0 0 [0, 2] = (z0.L, 0, 2) := by rfl
/-- The state after one bit, and one that is not valid. -/
def Z1 : TS := ⟨z0.L, 0, 1, 1, 0⟩
def Z9 : TS := ⟨z0.L, 0, 9, 0, 0⟩
theorem Z1_tst : Tst Z1 := ⟨z0_lng, by decide, by decide, by decide, by decide⟩
theorem Z9_tst : Tst Z9 := ⟨z0_lng, by decide, by decide, by decide, by decide⟩
theorem Z1_valid : validS tableV Z1 = true := by
  rw [← vD_eq Z1_tst.lng]
  unfold vD
  rw [if_pos (by decide), if_pos (by decide)]
  exact decide_eq_true rfl
theorem Z9_valid : validS tableV Z9 = false := by
  rw [← vD_eq Z9_tst.lng]
  unfold vD
  rw [if_neg (by decide), if_neg (by decide), if_neg (by decide)]
theorem z0_valid : validS tableV z0 = true := valid_of (Rch.zero (T := tableV) 0)
theorem step_z0 : stepS tableV z0 1 = (Z1, false, 0) := by
  unfold stepS
  rw [z0_valid, if_neg (by decide)]
  rfl
theorem step_Z9 : stepS tableV Z9 1 = (z0, false, 2) := by
  unfold stepS
  rw [if_pos (.inl Z9_valid)]

set_option maxRecDepth 100000 in
set_option maxHeartbeats 1000000 in
theorem three_call (w : World) :
    Calls Try.prog 23 #[] w fun e w' => e = .returned (.agg (lg L3)) ∧ Below w.heap.size w w' := by
  have hzL := lngZ
  have hg := heap_alloc2_new w (.cells (lg zL) 23) (.cells (lg zL) 23)
  have hr := heap_alloc2_old w (.cells (lg zL) 23) (.cells (lg zL) 23)
  have HB := Lib.hid (show Below w.heap.size w ((w.alloc (.cells (lg zL) 23)).alloc (.cells (lg zL) 23)) from ((Below.refl _ _).alloc (Nat.le_refl _) _).alloc (by simp) _)
  go_enter Try.func23, Try.ntmps23
  go_upto_region 2 with fail
  clear hzL
  generalize (w.alloc (.cells (lg zL) 23)).alloc (.cells (lg zL) 23) = w1 at hg hr HB ⊢
  have c0 := lg_cell hg zL_lng 0 (by omega)
  have c1 := lg_cell hg zL_lng 1 (by omega)
  have c2 := lg_cell hg zL_lng 257 (by omega)
  have f0 := frozen_of_row w1 (w.heap.size + 1) 0 _ _ hg
  have f1 := frozen_of_row w1 (w.heap.size + 1) 1 _ _ hg
  have f2 := frozen_of_row w1 (w.heap.size + 1) 257 _ _ hg
  rw [zL_get] at c0 c1 c2
  have h1 : (w1.setCell ⟨w.heap.size + 1, 0, none⟩ (.int .u8 1)).heap[w.heap.size + 1]? = some (.cells (lg (zL.set 0 1)) 23 (0, 0)) := by rw [heap_setCell_same _ _ _ _ _ _ hg, lg_set]
  have h2 : ((w1.setCell ⟨w.heap.size + 1, 0, none⟩ (.int .u8 1)).setCell ⟨w.heap.size + 1, 1, none⟩ (.int .u8 2)).heap[w.heap.size + 1]? = some (.cells (lg ((zL.set 0 1).set 1 2)) 23 (0, 0)) := by rw [heap_setCell_same _ _ _ _ _ _ h1, lg_set]
  have HG := Lib.hid (show (((w1.setCell ⟨w.heap.size + 1, 0, none⟩ (.int .u8 1)).setCell ⟨w.heap.size + 1, 1, none⟩ (.int .u8 2)).setCell ⟨w.heap.size + 1, 257, none⟩ (.int .u8 2)).heap[w.heap.size + 1]? = some (.cells (lg L3) 23 (0, 0)) by rw [heap_setCell_same _ _ _ _ _ _ h2, lg_set]; rfl)
  have HR := Lib.hid (show (((w1.setCell ⟨w.heap.size + 1, 0, none⟩ (.int .u8 1)).setCell ⟨w.heap.size + 1, 1, none⟩ (.int .u8 2)).setCell ⟨w.heap.size + 1, 257, none⟩ (.int .u8 2)).heap[w.heap.size]? = some (.cells (lg zL) 23 (0, 0)) by
    rw [heap_setCell_other _ _ _ _ (by simp), heap_setCell_other _ _ _ _ (by simp), heap_setCell_other _ _ _ _ (by simp)]; exact hr)
  have HB3 := Lib.hid (((HB.out.setCell (p := ⟨w.heap.size + 1, 0, none⟩) (by simp) (.int .u8 1)).setCell (p := ⟨w.heap.size + 1, 1, none⟩) (by simp) (.int .u8 2)).setCell (p := ⟨w.heap.size + 1, 257, none⟩) (by simp) (.int .u8 2))
  clear h1 h2 hg hr HB
  go_upto_region 3 with fail
  clear c0 c1 c2 f0 f1 f2
  generalize ((w1.setCell ⟨w.heap.size + 1, 0, none⟩ (.int .u8 1)).setCell ⟨w.heap.size + 1, 1, none⟩ (.int .u8 2)).setCell ⟨w.heap.size + 1, 257, none⟩ (.int .u8 2) = w2 at HG HR HB3 ⊢
  have hg := HG.out
  have hr := HR.out
  go_wp2_with (first
    | (refine wpList_load_row rfl 23 _ rfl (w.heap.size + 1) rfl 23 (lg L3) (0, 0) _ hg Try.underlying23 rfl (lngIk L3_lng) ?_)
    | (refine wpList_store_row rfl 23 _ _ rfl w.heap.size (lg L3) rfl rfl 23 (lg zL) hr (lngIk L3_lng) (by rw [lg_size zL_lng, lg_size L3_lng]) (lg_all _) ?_))
  refine bodyPost_ret (v := .agg (lg L3)) ?_ rfl ⟨rfl, HB3.out.setRow (Nat.le_refl _) _⟩
  exact results_cell1 Try.results23 _ _ w.heap.size 23 (lg L3) (0, 0) _ rfl (setRow_heap _ _ _ _ _ _ hr) Try.underlying23 rfl (lngIk L3_lng)
end Go.Proofs.Ytckopdifjhjppaa
