/- Package lengthtable: isBit, isDone, doneWith. -/
import Derived.Test.YtckopdifjhjppaaLtW
import Derived.Deep.QuietTactic
import Derived.BigQuiet
set_option linter.unusedVariables false
set_option linter.unusedSimpArgs false
namespace Go.Proofs.Ytckopdifjhjppaa
open Go.RowKit

theorem isBit_call (b : Int) (w : World) :
    Calls Try.prog 25 #[.int .i64 b] w fun e w' => e = .returned (.bool (decide (b = 0 ∨ b = 1))) ∧ w' = w := by
  by_cases h0 : b = 0
  · subst h0
    go_enter Try.func25, Try.ntmps25
    go_wp2_with fail
    go_ret
    exact ⟨rfl, rfl⟩
  · by_cases h1 : b = 1
    · subst h1
      go_enter Try.func25, Try.ntmps25
      go_wp2_with fail
      go_ret
      exact ⟨rfl, rfl⟩
    · have HD := Lib.hid (show decide (b = 0 ∨ b = 1) = false from decide_eq_false (fun e => e.elim h0 h1))
      have e0 : (b == 0) = false := beq_eq_false_iff_ne.2 h0
      have e1 : (b == 1) = false := beq_eq_false_iff_ne.2 h1
      clear h0 h1
      go_enter Try.func25, Try.ntmps25
      go_wp2_with fail
      go_ret
      exact ⟨by rw [HD.out]; rfl, rfl⟩

set_option maxRecDepth 100000 in
set_option maxHeartbeats 1000000 in
theorem isDone_call (c : TS) (h : c.L.length = 258) (w : World) :
    Calls Try.prog 24 #[.agg (tg c)] w fun e w' => e = .returned (.bool (decide (c.y = 258))) ∧ Below w.heap.size w w' := by
  go_enter Try.func24, Try.ntmps24
  go_upto_region 1 with fail
  have hg := heap_alloc_last w (.cells (tg c) 25)
  have HB := Lib.hid ((Below.refl w.heap.size w).alloc (Nat.le_refl _) (.cells (tg c) 25))
  generalize w.alloc (.cells (tg c) 25) = w1 at hg HB ⊢
  obtain ⟨cy, _, _, _⟩ := tg_cells hg h
  have HD := Lib.hid (show decide (c.y = 258) = (c.y == 258) from rfl)
  go_wp2_with fail
  go_ret
  exact ⟨by rw [HD.out]; rfl, HB.out⟩

/-! Composite literals of states. -/
theorem fold_set (off : Nat) : ∀ (xs : List Value) (k : Nat) (base : Array Value) (i : Nat), ((xs.zipIdx k).foldl (fun cs (c, j) => cs.setIfInBounds (off + j) c) base)[i]? = if off + k ≤ i ∧ i < off + k + xs.length ∧ i < base.size then xs[i - (off + k)]? else base[i]?
  | [], k, base, i => by
    rw [if_neg (by simp; omega)]
    rfl
  | x :: xs, k, base, i => by
    rw [List.zipIdx_cons, List.foldl_cons, fold_set off xs (k + 1) _ i, Array.size_setIfInBounds, List.length_cons]
    by_cases h1 : off + (k + 1) ≤ i ∧ i < off + (k + 1) + xs.length ∧ i < base.size
    · rw [if_pos h1, if_pos (by omega), show i - (off + k) = (i - (off + (k + 1))) + 1 by omega, List.getElem?_cons_succ]
    · rw [if_neg h1, Array.getElem?_setIfInBounds]
      by_cases h2 : off + k = i
      · rw [if_pos h2]
        by_cases h3 : i < base.size
        · rw [if_pos (by omega), if_pos (by omega), show i - (off + k) = 0 by omega]
          rfl
        · rw [if_neg (by omega), if_neg (by omega), Array.getElem?_eq_none (by omega)]
      · rw [if_neg h2, if_neg (by omega)]
theorem built_tst (parts : List (Nat × Value)) : Try.prog.built 25 parts = Instr.fill ((#[(0, 258), (258, 1), (259, 1), (260, 1), (261, 1)] : Array (Nat × Nat))[·]?) (tg z0) parts := by
  have h : (Try.prog.info? 25).map (fun i => (i.zero, i.size)) = some (some (.agg (tg z0)), 262) := by kernel_rfl
  have h1 : (Try.prog.info? 23).map (·.size) = some 258 := by kernel_rfl
  have h2 : (Try.prog.info? 3).map (·.size) = some 1 := by kernel_rfl
  unfold Program.built
  rw [Try.underlying25]
  cases hi : Try.prog.info? 25 with
  | none => rw [hi] at h; cases h
  | some it =>
    rw [hi] at h
    injection h with h
    injection h with hz _
    cases hl : Try.prog.info? 23 with
    | none => rw [hl] at h1; cases h1
    | some il =>
      rw [hl] at h1
      injection h1 with h1
      cases hn : Try.prog.info? 3 with
      | none => rw [hn] at h2; cases h2
      | some jn =>
        rw [hn] at h2
        injection h2 with h2
        simp [hz, hl, hn, h1, h2, Value.cells]
theorem fill_lens (l : List Int) (h : l.length = 258) (rest : List (Nat × Value)) : Instr.fill ((#[(0, 258), (258, 1), (259, 1), (260, 1), (261, 1)] : Array (Nat × Nat))[·]?) (tg z0) ((0, .agg (lg l)) :: rest) = Instr.fill ((#[(0, 258), (258, 1), (259, 1), (260, 1), (261, 1)] : Array (Nat × Nat))[·]?) (tg { z0 with L := l }) rest := by
  have hs : (lg l).size = 258 := by rw [lg, icells_size, h]
  have hz : (tg z0).size = 262 := tg_size z0_len
  rw [Instr.fill]
  show (if (lg l).size ≠ 258 || 0 + (lg l).size > (tg z0).size then none else _) = _
  rw [hs, hz]
  rw [if_neg (by decide)]
  congr 1
  apply Array.ext_getElem?
  intro i
  show ((lg l).zipIdx.foldl (fun cs (c, j) => cs.setIfInBounds (0 + j) c) (tg z0))[i]? = _
  have hf := fold_set 0 (lg l).toList 0 (tg z0) i
  rw [← Array.toList_zipIdx, Array.foldl_toList] at hf
  rw [hf]
  rw [hz, Array.length_toList, hs]
  have hL : ({ z0 with L := l } : TS).L.length = 258 := h
  by_cases hi : i < 258
  · rw [if_pos (by omega), tg_len hL i hi, Nat.zero_add, Nat.sub_zero, Array.getElem?_toList, lg, icells_get, List.getElem?_eq_getElem (by omega), List.getD_eq_getElem?_getD, List.getElem?_eq_getElem (by omega)]
    rfl
  · rw [if_neg (by omega)]
    obtain ⟨j, rfl⟩ : ∃ j, i = 258 + j := ⟨i - 258, by omega⟩
    rw [tg_num z0_len, tg_num hL]
theorem fill_int (k off : Nat) (hk : (#[(0, 258), (258, 1), (259, 1), (260, 1), (261, 1)] : Array (Nat × Nat))[k]? = some (off, 1)) (c : TS) (h : c.L.length = 258) (ho : off < 262) (z : Int) (rest : List (Nat × Value)) : Instr.fill ((#[(0, 258), (258, 1), (259, 1), (260, 1), (261, 1)] : Array (Nat × Nat))[·]?) (tg c) ((k, .int .i64 z) :: rest) = Instr.fill ((#[(0, 258), (258, 1), (259, 1), (260, 1), (261, 1)] : Array (Nat × Nat))[·]?) ((tg c).setIfInBounds off (.int .i64 z)) rest := by
  rw [Instr.fill]
  simp only [hk]
  have hz : (tg c).size = 262 := tg_size h
  have hv : (Value.int .i64 z).cells = #[.int .i64 z] := rfl
  rw [hv, hz]
  rw [if_neg (by simp; omega)]
  rfl
theorem fill_y (c : TS) (h : c.L.length = 258) (z : Int) (rest : List (Nat × Value)) : Instr.fill ((#[(0, 258), (258, 1), (259, 1), (260, 1), (261, 1)] : Array (Nat × Nat))[·]?) (tg c) ((1, .int .i64 z) :: rest) = Instr.fill ((#[(0, 258), (258, 1), (259, 1), (260, 1), (261, 1)] : Array (Nat × Nat))[·]?) (tg { c with y := z }) rest := by
  rw [fill_int 1 258 rfl c h (by decide), tg_setY h]
theorem fill_t (c : TS) (h : c.L.length = 258) (z : Int) (rest : List (Nat × Value)) : Instr.fill ((#[(0, 258), (258, 1), (259, 1), (260, 1), (261, 1)] : Array (Nat × Nat))[·]?) (tg c) ((2, .int .i64 z) :: rest) = Instr.fill ((#[(0, 258), (258, 1), (259, 1), (260, 1), (261, 1)] : Array (Nat × Nat))[·]?) (tg { c with t := z }) rest := by
  rw [fill_int 2 259 rfl c h (by decide), tg_setT h]
theorem fill_n (c : TS) (h : c.L.length = 258) (z : Int) (rest : List (Nat × Value)) : Instr.fill ((#[(0, 258), (258, 1), (259, 1), (260, 1), (261, 1)] : Array (Nat × Nat))[·]?) (tg c) ((3, .int .i64 z) :: rest) = Instr.fill ((#[(0, 258), (258, 1), (259, 1), (260, 1), (261, 1)] : Array (Nat × Nat))[·]?) (tg { c with n := z }) rest := by
  rw [fill_int 3 260 rfl c h (by decide), tg_setNow h]
theorem fill_end (c : TS) : Instr.fill ((#[(0, 258), (258, 1), (259, 1), (260, 1), (261, 1)] : Array (Nat × Nat))[·]?) (tg c) [] = some (tg c) := rfl
theorem run_build_eq {P : Program} {W : World} {t : TypeId} {parts : Array (Nat × Value)} {v : Value} (h : (Instr.build t parts).run P W = .ok v W) {parts' : Array (Nat × Value)} (e : parts' = parts) : (Instr.build t parts').run P W = .ok v W := e ▸ h
theorem wpList_build_is {P : Program} {ops : Array Oper} {rest : List Oper} {o : Oper} {a : Act} {w : World} {Q : Exit → Act → World → Prop} (hg : o.guard = none) (t : TypeId) (parts : Array (Nat × Operand)) (ho : o.op = .build t parts)
    (vals : Array (Nat × Value)) (v : Value) (hr : ∀ W, (Instr.build t vals).run P W = .ok v W) (hv : (parts.toList.map fun (i, x) => (i, a.eval x)) = vals.toList) (h : wpList P ops Q rest (a.put o.dst v) w) : wpList P ops Q (o :: rest) a w := by
  refine wpList_plain hg fun _ hK => ?_
  unfold Oper.wp execOp
  simp only [ho, Sem.run_bind]
  have hv2 : (parts.map fun (i, x) => (i, a.eval x)) = vals := by
    apply Array.toList_inj.1
    rw [Array.toList_map]
    exact hv
  rw [hv2, hr w]
  exact hK _ _ h
theorem build_done (W : World) (l : List Int) (h : l.length = 258) (z : Int) : (Instr.build 25 #[(0, .agg (lg l)), (1, .int .i64 258), (2, .int .i64 4), (3, .int .i64 z)]).run Try.prog W = .ok (.agg (tg ⟨l, 258, 4, z, 0⟩)) W := by
  refine run_build W _ _ _ ?_
  rw [built_tst]
  rw [fill_lens l h, fill_y _ h, fill_t _ h, fill_n _ h]
  exact fill_end _
theorem build_tn (W : World) (t n : Int) : (Instr.build 25 #[(2, .int .i64 t), (3, .int .i64 n)]).run Try.prog W = .ok (.agg (tg ⟨z0.L, 0, t, n, 0⟩)) W := by
  refine run_build W _ _ _ ?_
  rw [built_tst]
  rw [fill_t z0 z0_len, fill_n { z0 with t := t } z0_len]
  exact fill_end _
theorem build_t (W : World) (t : Int) : (Instr.build 25 #[(2, .int .i64 t)]).run Try.prog W = .ok (.agg (tg ⟨z0.L, 0, t, 0, 0⟩)) W := by
  refine run_build W _ _ _ ?_
  rw [built_tst]
  rw [fill_t _ z0_len]
  exact fill_end _
theorem build_0 (W : World) : (Instr.build 25 #[]).run Try.prog W = .ok (.agg (tg z0)) W := by
  refine run_build W _ _ _ ?_
  rw [built_tst]
  exact fill_end _

/-- The state that is done with these lengths. -/
def dnS (l : List Int) : TS := ⟨l, 258, 4, l.getD 257 0, 0⟩
theorem results_cell1 {P : Program} {fn : Func} {p : Tmp} {ty : TypeId} (h : fn.results = #[.cell p ty]) (tmps : Array Value) (w : World) (g : Nat) (t : TypeId) (cs : Array Value) (fr : Nat × Nat) (d : TypeDesc)
    (hp : tmps.getD p undef = .pointer (some ⟨g, 0, none⟩)) (hg : w.heap[g]? = some (.cells cs t fr))
    (hu : P.underlying ty = some d) (hd : (match d with | .struct _ | .array _ _ => true | _ => false) = true) (hi : (P.info? ty).map (·.size) = some cs.size) :
    (results fn tmps).run P w = .ok (.agg cs) w := by
  have hp' : tmps[p]?.getD undef = .pointer (some ⟨g, 0, none⟩) := by simpa using hp
  simp [results, h, hp', asAddr, run_loadVar_row w g t ty cs fr d hg hu hd hi]
set_option maxRecDepth 100000 in
set_option maxHeartbeats 1000000 in
theorem doneWith_call (l : List Int) (h : Lng l) (w : World) :
    Calls Try.prog 32 #[.agg (lg l)] w fun e w' => e = .returned (.agg (tg (dnS l))) ∧ Below w.heap.size w w' := by
  have hz := tstZ
  have HB := Lib.hid (show Below w.heap.size w ((w.alloc (.cells (lg l) 23)).alloc (.cells (tg z0) 25)) from ((Below.refl _ _).alloc (Nat.le_refl _) _).alloc (by simp) _)
  have ha := heap_alloc2_old w (.cells (lg l) 23) (.cells (tg z0) 25)
  have hr := heap_alloc2_new w (.cells (lg l) 23) (.cells (tg z0) 25)
  go_enter Try.func32, Try.ntmps32
  go_upto_region 1 with fail
  clear hz
  generalize (w.alloc (.cells (lg l) 23)).alloc (.cells (tg z0) 25) = w1 at HB ha hr ⊢
  have hcl := lg_cell ha h 257 (by omega)
  have hbd := h.bd 257
  have HD := Lib.hid (show dnS l = ⟨l, 258, 4, l.getD 257 0, 0⟩ from rfl)
  generalize l.getD 257 0 = z at hcl hbd HD
  have hDL : (dnS l).L.length = 258 := h.1
  have hbu := fun W => build_done W l h.1 z
  rw [← HD.out] at hbu
  have HBU := Lib.hid hbu
  clear hbu
  have hz0 := tg_size z0_len
  go_wp2_with (first
    | (refine wpList_load_row rfl 23 _ rfl w.heap.size rfl 23 (lg l) (0, 0) _ ha Try.underlying23 rfl (lngIk h) ?_)
    | (refine wpList_build_is rfl 25 _ rfl _ _ HBU.out rfl ?_)
    | (refine wpList_store_row rfl 25 _ _ rfl (w.heap.size + 1) (tg (dnS l)) rfl rfl 25 (tg z0) hr (tstIk hDL) (by rw [tg_size z0_len, tg_size hDL]) (tg_all _) ?_))
  refine bodyPost_ret (v := .agg (tg (dnS l))) ?_ rfl ⟨rfl, HB.out.setRow (by omega) _⟩
  exact results_cell1 Try.results32 _ _ (w.heap.size + 1) 25 (tg (dnS l)) (0, 0) _ rfl (setRow_heap _ _ _ _ _ _ hr) Try.underlying25 rfl (tstIk hDL)
end Go.Proofs.Ytckopdifjhjppaa
