/- Decoder states: composite literals, equality. -/
import Derived.Test.YtbegpakjojiblabPdC
import Derived.DeepKeys5
import Derived.Deep.WholeRow
set_option linter.unusedVariables false
set_option linter.unusedSimpArgs false
namespace Go.Proofs.Ytbegpakjojiblab
open Go.RowKit

theorem fold_set (off : Nat) : ∀ (xs : List Value) (k : Nat) (base : Array Value) (i : Nat), ((xs.zipIdx k).foldl (fun cs (c, j) => cs.setIfInBounds (off + j) c) base)[i]? = if off + k ≤ i ∧ i < off + k + xs.length ∧ i < base.size then xs[i - (off + k)]? else base[i]?
  | [], k, base, i => by
    rw [if_neg (by simp; omega)]
    rfl
  | x :: xs, k, base, i => by
    rw [List.zipIdx_cons, List.foldl_cons, fold_set off xs (k + 1) _ i, Array.size_setIfInBounds, List.length_cons]
    by_cases h1 : off + (k + 1) ≤ i ∧ i < off + (k + 1) + xs.length ∧ i < base.size
    · rw [if_pos h1, if_pos (by omega), show i - (off + k) = (i - (off + (k + 1))) + 1 by omega, List.getElem?_cons_succ]
    · rw [if_neg h1, Array.getElem?_setIfInBounds]
      by_cases h2 : off + k = i
      · rw [if_pos h2]
        by_cases h3 : i < base.size
        · rw [if_pos (by omega), if_pos (by omega), show i - (off + k) = 0 by omega]
          rfl
        · rw [if_neg (by omega), if_neg (by omega), Array.getElem?_eq_none (by omega)]
      · rw [if_neg h2, if_neg (by omega)]
theorem built_st (parts : List (Nat × Value)) : Try.prog.built 34 parts = Instr.fill ((#[(0, 258), (258, 1), (259, 1)] : Array (Nat × Nat))[·]?) (sg zL 0 0) parts := by
  have h : (Try.prog.info? 34).map (fun i => (i.zero, i.size)) = some (some (.agg (sg zL 0 0)), 260) := by kernel_rfl
  have h1 : (Try.prog.info? 23).map (·.size) = some 258 := by kernel_rfl
  have h2 : (Try.prog.info? 3).map (·.size) = some 1 := by kernel_rfl
  unfold Program.built
  rw [Try.underlying34]
  cases hi : Try.prog.info? 34 with
  | none => rw [hi] at h; cases h
  | some it =>
    rw [hi] at h
    injection h with h
    injection h with hz _
    cases hl : Try.prog.info? 23 with
    | none => rw [hl] at h1; cases h1
    | some il =>
      rw [hl] at h1
      injection h1 with h1
      cases hn : Try.prog.info? 3 with
      | none => rw [hn] at h2; cases h2
      | some jn =>
        rw [hn] at h2
        injection h2 with h2
        simp [hz, hl, hn, h1, h2, Value.cells]
theorem fill_lens {l : List Int} (h : Lng l) (rest : List (Nat × Value)) : Instr.fill ((#[(0, 258), (258, 1), (259, 1)] : Array (Nat × Nat))[·]?) (sg zL 0 0) ((0, .agg (lg l)) :: rest) = Instr.fill ((#[(0, 258), (258, 1), (259, 1)] : Array (Nat × Nat))[·]?) (sg l 0 0) rest := by
  have hs : (lg l).size = 258 := lg_size h
  have hz : (sg zL 0 0).size = 260 := sg_size zL_lng 0 0
  have hl := h.1
  rw [Instr.fill]
  show (if (lg l).size ≠ 258 || 0 + (lg l).size > (sg zL 0 0).size then none else _) = _
  rw [hs, hz]
  rw [if_neg (by decide)]
  congr 1
  apply Array.ext_getElem?
  intro i
  show ((lg l).zipIdx.foldl (fun cs (c, j) => cs.setIfInBounds (0 + j) c) (sg zL 0 0))[i]? = _
  have hf := fold_set 0 (lg l).toList 0 (sg zL 0 0) i
  rw [← Array.toList_zipIdx, Array.foldl_toList] at hf
  rw [hf]
  rw [hz, Array.length_toList, hs]
  by_cases hi : i < 258
  · rw [if_pos (by omega), sg_len h 0 0 i hi, Nat.zero_add, Nat.sub_zero, Array.getElem?_toList, lg_get h i hi]
  · rw [if_neg (by omega)]
    obtain ⟨j, rfl⟩ : ∃ j, i = 258 + j := ⟨i - 258, by omega⟩
    rw [sg_num zL_lng, sg_num h]
theorem sg_setN {l : List Int} (h : Lng l) (c n : Int) (j : Nat) (v : Value) : (sg l c n).setIfInBounds (258 + j) v = (l.map (Value.int .u8) ++ [Value.int .i64 c, .int .i64 n].set j v).toArray := by
  have hl := h.1
  unfold sg
  rw [List.setIfInBounds_toArray]
  unfold sgl
  congr 1
  rw [List.set_append_right _ _ (by rw [List.length_map]; omega), List.length_map, hl, show 258 + j - 258 = j by omega]
theorem sg_setC {l : List Int} (h : Lng l) (c n z : Int) : (sg l c n).setIfInBounds 258 (.int .i64 z) = sg l z n := sg_setN h c n 0 _
theorem sg_setB {l : List Int} (h : Lng l) (c n z : Int) : (sg l c n).setIfInBounds 259 (.int .i64 z) = sg l c z := sg_setN h c n 1 _
theorem fill_int (k off : Nat) (hk : (#[(0, 258), (258, 1), (259, 1)] : Array (Nat × Nat))[k]? = some (off, 1)) {l : List Int} (h : Lng l) (c n : Int) (ho : off < 260) (z : Int) (rest : List (Nat × Value)) : Instr.fill ((#[(0, 258), (258, 1), (259, 1)] : Array (Nat × Nat))[·]?) (sg l c n) ((k, .int .i64 z) :: rest) = Instr.fill ((#[(0, 258), (258, 1), (259, 1)] : Array (Nat × Nat))[·]?) ((sg l c n).setIfInBounds off (.int .i64 z)) rest := by
  rw [Instr.fill]
  simp only [hk]
  have hz : (sg l c n).size = 260 := sg_size h c n
  have hv : (Value.int .i64 z).cells = #[.int .i64 z] := rfl
  rw [hv, hz]
  rw [if_neg (by simp; omega)]
  rfl
theorem fill_c {l : List Int} (h : Lng l) (c n z : Int) (rest : List (Nat × Value)) : Instr.fill ((#[(0, 258), (258, 1), (259, 1)] : Array (Nat × Nat))[·]?) (sg l c n) ((1, .int .i64 z) :: rest) = Instr.fill ((#[(0, 258), (258, 1), (259, 1)] : Array (Nat × Nat))[·]?) (sg l z n) rest := by
  rw [fill_int 1 258 rfl h c n (by decide), sg_setC h]
theorem fill_n {l : List Int} (h : Lng l) (c n z : Int) (rest : List (Nat × Value)) : Instr.fill ((#[(0, 258), (258, 1), (259, 1)] : Array (Nat × Nat))[·]?) (sg l c n) ((2, .int .i64 z) :: rest) = Instr.fill ((#[(0, 258), (258, 1), (259, 1)] : Array (Nat × Nat))[·]?) (sg l c z) rest := by
  rw [fill_int 2 259 rfl h c n (by decide), sg_setB h]
theorem fill_end (l : List Int) (c n : Int) : Instr.fill ((#[(0, 258), (258, 1), (259, 1)] : Array (Nat × Nat))[·]?) (sg l c n) [] = some (sg l c n) := rfl
theorem run_build_eq {P : Program} {W : World} {t : TypeId} {parts : Array (Nat × Value)} {v : Value} (h : (Instr.build t parts).run P W = .ok v W) {parts' : Array (Nat × Value)} (e : parts' = parts) : (Instr.build t parts').run P W = .ok v W := e ▸ h
theorem wpList_build_is {P : Program} {ops : Array Oper} {rest : List Oper} {o : Oper} {a : Act} {w : World} {Q : Exit → Act → World → Prop} (hg : o.guard = none) (t : TypeId) (parts : Array (Nat × Operand)) (ho : o.op = .build t parts)
    (vals : Array (Nat × Value)) (v : Value) (hr : ∀ W, (Instr.build t vals).run P W = .ok v W) (hv : (parts.toList.map fun (i, x) => (i, a.eval x)) = vals.toList) (h : wpList P ops Q rest (a.put o.dst v) w) : wpList P ops Q (o :: rest) a w := by
  refine wpList_plain hg fun _ hK => ?_
  unfold Oper.wp execOp
  simp only [ho, Sem.run_bind]
  have hv2 : (parts.map fun (i, x) => (i, a.eval x)) = vals := by
    apply Array.toList_inj.1
    rw [Array.toList_map]
    exact hv
  rw [hv2, hr w]
  exact hK _ _ h
theorem build_l (W : World) {l : List Int} (h : Lng l) : (Instr.build 34 #[(0, .agg (lg l))]).run Try.prog W = .ok (.agg (sg l 0 0)) W := by
  refine run_build W _ _ _ ?_
  rw [built_st]
  rw [fill_lens h]
  exact fill_end _ _ _
theorem build_lcn (W : World) {l : List Int} (h : Lng l) (c n : Int) : (Instr.build 34 #[(0, .agg (lg l)), (1, .int .i64 c), (2, .int .i64 n)]).run Try.prog W = .ok (.agg (sg l c n)) W := by
  refine run_build W _ _ _ ?_
  rw [built_st]
  rw [fill_lens h, fill_c h, fill_n h]
  exact fill_end _ _ _
theorem build_ln (W : World) {l : List Int} (h : Lng l) (n : Int) : (Instr.build 34 #[(0, .agg (lg l)), (2, .int .i64 n)]).run Try.prog W = .ok (.agg (sg l 0 n)) W := by
  refine run_build W _ _ _ ?_
  rw [built_st]
  rw [fill_lens h, fill_n h]
  exact fill_end _ _ _
theorem build_0 (W : World) : (Instr.build 34 #[]).run Try.prog W = .ok (.agg (sg zL 0 0)) W := by
  refine run_build W _ _ _ ?_
  rw [built_st]
  exact fill_end _ _ _

theorem results_cell1 {P : Program} {fn : Func} {p : Tmp} {ty : TypeId} (h : fn.results = #[.cell p ty]) (tmps : Array Value) (w : World) (g : Nat) (t : TypeId) (cs : Array Value) (fr : Nat × Nat) (d : TypeDesc)
    (hp : tmps.getD p undef = .pointer (some ⟨g, 0, none⟩)) (hg : w.heap[g]? = some (.cells cs t fr))
    (hu : P.underlying ty = some d) (hd : (match d with | .struct _ | .array _ _ => true | _ => false) = true) (hi : (P.info? ty).map (·.size) = some cs.size) :
    (results fn tmps).run P w = .ok (.agg cs) w := by
  have hp' : tmps[p]?.getD undef = .pointer (some ⟨g, 0, none⟩) := by simpa using hp
  simp [results, h, hp', asAddr, run_loadVar_row w g t ty cs fr d hg hu hd hi]
/-! Equality. -/
theorem sg_inj {l m : List Int} (hl : Lng l) (hm : Lng m) {c n d k : Int} (h : sg l c n = sg m d k) : l = m ∧ c = d ∧ n = k := by
  have h1 := hl.1
  have h2 := hm.1
  refine ⟨?_, ?_, ?_⟩
  · apply List.ext_getElem?
    intro i
    by_cases hi : i < 258
    · have e := sg_len hl c n i hi
      rw [h, sg_len hm d k i hi] at e
      injection e with e
      injection e with _ e
      rw [List.getD_eq_getElem?_getD, List.getD_eq_getElem?_getD, List.getElem?_eq_getElem (by omega), List.getElem?_eq_getElem (by omega)] at e
      rw [List.getElem?_eq_getElem (by omega), List.getElem?_eq_getElem (by omega)]
      simp only [Option.getD_some] at e
      rw [e]
    · rw [List.getElem?_eq_none (by omega), List.getElem?_eq_none (by omega)]
  · have e := sg_c hl c n
    rw [h, sg_c hm] at e
    injection e with e
    injection e with _ e
    exact e.symm
  · have e := sg_n hl c n
    rw [h, sg_n hm] at e
    injection e with e
    injection e with _ e
    exact e.symm
theorem st_key {l : List Int} (h : Lng l) (c n : Int) (hc : (Lit.int .i64 c).wf = true) (hn : (Lit.int .i64 n).wf = true) : ∃ lx, keyOf Try.prog 34 (.agg (sg l c n)) = some lx := by
  have hk : Try.prog.keyType 34 = true := by kernel_rfl
  have hcs : Try.prog.cellsOf 34 = 260 := by kernel_rfl
  have hcl : Try.prog.cellsOf 23 = 258 := by kernel_rfl
  have hi : Try.prog.cellsOf 3 = 1 := by kernel_rfl
  have h8 : Try.prog.cellsOf 5 = 1 := by kernel_rfl
  have hl0 := h.1
  have ht : ∃ D, Try.prog.types.size + 1 = D + 3 := by
    have h1 : decide (2 < Try.prog.types.size) = true := by kernel_rfl
    have h2 := of_decide_eq_true h1
    exact ⟨Try.prog.types.size - 2, by omega⟩
  obtain ⟨D, hD⟩ := ht
  have hf : (Value.agg (sg l c n)).formed Try.prog 34 = true := by simp [Value.formed, Try.underlying34, hcs, sg_size h]
  have hint : ∀ (d : Nat) (z : Int), (Lit.int .i64 z).wf = true → Try.prog.keyLits (d + 1) 3 [.int .i64 z] = some [Lit.int .i64 z] := fun d z hz => by
    unfold Program.keyLits
    simp [intU, hz]
  have hlen : ∀ d : Nat, Try.prog.keyLits (d + 2) 23 (l.map (Value.int .u8)) = some ((List.range 258).map fun i => [Lit.int .u8 (l.getD i 0)]).flatten := fun d => by
    unfold Program.keyLits
    simp only [lngU, hcl, h8]
    rw [if_pos (by rw [List.length_map, hl0])]
    rw [mapM_some (g := fun i => [Lit.int .u8 (l.getD i 0)]) _ (fun i hi => ?_)]
    · rfl
    · have hi' : i < 258 := List.mem_range.1 hi
      have e : ((l.map (Value.int .u8)).drop (i * 1)).take 1 = [.int .u8 (l.getD i 0)] := by
        have hl : i < (l.map (Value.int .u8)).length := by rw [List.length_map, hl0]; exact hi'
        rw [Nat.mul_one, List.drop_eq_getElem_cons hl, List.getElem_map, List.getD_eq_getElem?_getD, List.getElem?_eq_getElem (by rw [hl0]; exact hi')]
        rfl
      rw [e]
      unfold Program.keyLits
      have hw := h.get i
      rw [List.getD_eq_getElem?_getD] at hw
      simp [u8U, hw]
  have d0 : ((sgl l c n).drop 0).take 258 = l.map (Value.int .u8) := by
    unfold sgl
    rw [List.drop_zero, List.take_append_of_le_length (by rw [List.length_map, hl0]; exact Nat.le_refl _), List.take_of_length_le (by rw [List.length_map, hl0]; exact Nat.le_refl _)]
  have dj : ∀ j : Nat, ((sgl l c n).drop (258 + j)).take 1 = ([Value.int .i64 c, .int .i64 n].drop j).take 1 := fun j => by
    unfold sgl
    rw [List.drop_append, List.length_map, hl0, List.drop_of_length_le (by rw [List.length_map, hl0]; omega), List.nil_append, show 258 + j - 258 = j by omega]
  refine ⟨.string (keyBytes ((((List.range 258).map fun i => [Lit.int .u8 (l.getD i 0)]).flatten) ++ [Lit.int .i64 c, Lit.int .i64 n])), ?_⟩
  unfold keyOf
  simp only [Try.underlying34, hk, hf, Bool.and_self, if_true]
  rw [hD]
  unfold Program.keyLits
  simp only [Try.underlying34, Value.cells]
  rw [if_pos ⟨by rw [hcs]; exact sgl_len h c n, by simp⟩]
  show Option.map _ (Option.map _ (List.mapM _ [_, _, _])) = _
  simp only [List.mapM_cons, List.mapM_nil, hcl, hi]
  rw [show (sg l c n).toList = sgl l c n from rfl, d0, dj 0, dj 1]
  have q1 : Try.prog.keyLits (D + 2) 3 [Value.int .i64 c] = some [Lit.int .i64 c] := hint (D + 1) _ hc
  have q2 : Try.prog.keyLits (D + 2) 3 [Value.int .i64 n] = some [Lit.int .i64 n] := hint (D + 1) _ hn
  have q0 := hlen D
  generalize ((List.range 258).map fun i => [Lit.int .u8 (l.getD i 0)]).flatten = Q at q0 ⊢
  simp [q0, q1, q2]
theorem st_wide : (match Try.prog.underlying 34 with | some (.array _ _) | some (.struct _) => true | _ => false) = true := by rw [Try.underlying34]
theorem st_keyAt : Try.prog.keyTypeAt 3 34 = true := by kernel_rfl
theorem st_tiled : Try.prog.tiled 3 34 = true := by kernel_rfl
theorem run_equal_st (w : World) {l m : List Int} (hl : Lng l) (hm : Lng m) {c n d k : Int} (hc : (Lit.int .i64 c).wf = true) (hn : (Lit.int .i64 n).wf = true) (hd : (Lit.int .i64 d).wf = true) (hk : (Lit.int .i64 k).wf = true) : (Op.equal 34 (.agg (sg l c n)) (.agg (sg m d k))).run Try.prog w = .ok (decide (l = m ∧ c = d ∧ n = k)) w := by
  obtain ⟨lx, hx⟩ := st_key hl c n hc hn
  obtain ⟨ly, hy⟩ := st_key hm d k hd hk
  obtain ⟨r, h1, h2⟩ := run_equal_deep w (m := 3) (by omega) st_keyAt st_wide hx hy
  rw [h1]
  congr 1
  rw [Bool.eq_iff_iff, h2, decide_eq_true_eq]
  constructor
  · rintro rfl
    have := keyOf_inj_deep st_tiled st_wide hx hy
    injection this with this
    exact sg_inj hl hm this
  · rintro ⟨rfl, rfl, rfl⟩
    rw [hx] at hy
    exact Option.some.inj hy
/-- In the form that the walk meets. -/
theorem run_eqi_st (w : World) {l m : List Int} (hl : Lng l) (hm : Lng m) {c n d k : Int} (hc : (Lit.int .i64 c).wf = true) (hn : (Lit.int .i64 n).wf = true) (hd : (Lit.int .i64 d).wf = true) (hk : (Lit.int .i64 k).wf = true) : (Op.equalIn 10000 34 (.agg (sg l c n)) (.agg (sg m d k))).run Try.prog w = .ok (decide (l = m ∧ c = d ∧ n = k)) w := run_equal_st w hl hm hc hn hd hk
end Go.Proofs.Ytbegpakjojiblab
