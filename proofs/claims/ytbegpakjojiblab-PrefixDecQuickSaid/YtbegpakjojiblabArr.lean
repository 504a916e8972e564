/- Arrays of integers by value: lengths, codes, counts, firsts: in memory, when two are equal. -/
import Derived.Test.YtbegpakjojiblabGen
import Derived.Test.YtbegpakjojiblabProg
import Derived.DeepKeys5
import Derived.Deep.WholeRow
import Derived.Laws.StructEq
set_option linter.unusedVariables false
set_option linter.unusedSimpArgs false
namespace Go.Proofs.Ytbegpakjojiblab
open Go.RowKit

theorem intU : Try.prog.underlying 3 = some (.int .i64) := Try.underlying3
theorem u8U : Try.prog.underlying 5 = some (.int .u8) := Try.underlying5
theorem u32U : Try.prog.underlying 48 = some (.int .u32) := Try.underlying48
theorem mapM_some {β : Type} {f : Nat → Option β} {g : Nat → β} : ∀ (is : List Nat), (∀ i ∈ is, f i = some (g i)) → is.mapM f = some (is.map g)
  | [], _ => rfl
  | i :: is, h => by
    rw [List.mapM_cons, h i (by simp), mapM_some is (fun j hj => h j (by simp [hj]))]
    rfl
/-- The numbers are right. -/
def Lng (l : List Int) : Prop := l.length = 258 ∧ ∀ z ∈ l, (Lit.int .u8 z).wf = true
/-- The cells. -/
def lg (l : List Int) : Array Value := icells .u8 l
theorem lg_size {l : List Int} (h : Lng l) : (lg l).size = 258 := by rw [lg, icells_size, h.1]
theorem lg_inj {l m : List Int} (h : lg l = lg m) : l = m := by
  have h1 : l.map (Value.int .u8) = m.map (Value.int .u8) := by
    have := congrArg Array.toList h
    simpa [lg, icells] using this
  refine List.map_inj_right (f := Value.int .u8) ?_ |>.1 h1
  intro x y e
  injection e
theorem lg_get {l : List Int} (h : Lng l) (i : Nat) (hi : i < 258) : (lg l)[i]? = some (.int .u8 (l.getD i 0)) := by
  rw [lg, icells_get]
  simp [List.getD_eq_getElem?_getD, show i < l.length by rw [h.1]; exact hi]
theorem lg_set (l : List Int) (i : Nat) (z : Int) : (lg l).setIfInBounds i (.int .u8 z) = lg (l.set i z) := by
  apply Array.ext_getElem?
  intro j
  rw [Array.getElem?_setIfInBounds, lg, lg, icells_get, icells_get, icells_size, List.getElem?_set]
  by_cases e : i = j
  · subst e
    rw [if_pos rfl, if_pos rfl]
    by_cases hi : i < l.length
    · rw [if_pos hi, if_pos hi]; rfl
    · rw [if_neg hi, if_neg hi]; rfl
  · rw [if_neg e, if_neg e]
theorem lg_all (l : List Int) : (lg l).all (·.oneCell') = true := by
  rw [Array.all_eq_true_iff_forall_mem]
  intro v hv
  simp only [lg, icells, List.mem_toArray, List.mem_map] at hv
  obtain ⟨z, _, rfl⟩ := hv
  rfl
theorem Lng.get {l : List Int} (h : Lng l) (i : Nat) : (Lit.int .u8 (l.getD i 0)).wf = true := by
  by_cases hi : i < l.length
  · have := h.2 _ (List.getElem_mem hi)
    simpa [List.getD_eq_getElem?_getD, hi] using this
  · have e : l.getD i 0 = 0 := by simp [List.getD_eq_getElem?_getD, show l.length ≤ i by omega]
    rw [e]; decide
theorem Lng.bd {l : List Int} (h : Lng l) (i : Nat) : 0 ≤ l.getD i 0 ∧ l.getD i 0 ≤ 255 := bounds_u8 (h.get i)
theorem Lng.set {l : List Int} (h : Lng l) (i : Nat) (z : Int) (hz : (Lit.int .u8 z).wf = true) : Lng (l.set i z) := by
  refine ⟨by rw [List.length_set]; exact h.1, fun x hx => ?_⟩
  rcases List.mem_or_eq_of_mem_set hx with hx | rfl
  · exact h.2 x hx
  · exact hz
/-- Zeros. -/
def zL : List Int := List.replicate 258 0
theorem zL_lng : Lng zL := ⟨List.length_replicate, fun z hz => by rw [List.eq_of_mem_replicate hz]; decide⟩
theorem zL_get (i : Nat) : zL.getD i 0 = 0 := by
  simp only [zL, List.getD_eq_getElem?_getD, List.getElem?_replicate]
  split <;> rfl

theorem lngI : (Try.prog.info? 23).map (·.size) = some 258 := by kernel_rfl
theorem lngIk {l : List Int} (h : Lng l) : (Try.prog.info? 23).map (·.size) = some (lg l).size := by rw [lg_size h]; exact lngI
theorem lngZ (w : World) : (zeroValue 23).run Try.prog w = .ok (.agg (lg zL)) w := by
  have h : (Try.prog.info? 23).map (fun i => (i.zero, i.size)) = some (some (.agg (lg zL)), 258) := by kernel_rfl
  exact (zero_of_info h).1 w
theorem lngU : Try.prog.underlying 23 = some (.array 258 5) := Try.underlying23
theorem run_index_lng (w : World) {l : List Int} (h : Lng l) (i : Nat) (hi : i < 258) : (Instr.index 23 (.agg (lg l)) (.int .i64 i)).run Try.prog w = .ok (.int .u8 (l.getD i 0)) w := by
  have hs : (Try.prog.info? 5).map (·.size) = some 1 := by kernel_rfl
  cases hq : Try.prog.info? 5 with
  | none => simp [hq] at hs
  | some j =>
    have hj : j.size = 1 := by simpa [hq] using hs
    have hp := run_part_plain (P := Try.prog) w (e := 5) (by simp [Program.plainKey, u8U]) (lg_get h i hi)
    have hi' : (i : Int) < 258 := by omega
    simp [Instr.index, asIntOf, run_underlying lngU, sizeOf, typeInfo, hq, hj, hp, hi, show ¬ 258 ≤ i by omega]

/-- The numbers are right. -/
def Cds (l : List Int) : Prop := l.length = 258 ∧ ∀ z ∈ l, (Lit.int .u32 z).wf = true
/-- The cells. -/
def cl (l : List Int) : Array Value := icells .u32 l
theorem cl_size {l : List Int} (h : Cds l) : (cl l).size = 258 := by rw [cl, icells_size, h.1]
theorem cl_inj {l m : List Int} (h : cl l = cl m) : l = m := by
  have h1 : l.map (Value.int .u32) = m.map (Value.int .u32) := by
    have := congrArg Array.toList h
    simpa [cl, icells] using this
  refine List.map_inj_right (f := Value.int .u32) ?_ |>.1 h1
  intro x y e
  injection e
theorem cl_get {l : List Int} (h : Cds l) (i : Nat) (hi : i < 258) : (cl l)[i]? = some (.int .u32 (l.getD i 0)) := by
  rw [cl, icells_get]
  simp [List.getD_eq_getElem?_getD, show i < l.length by rw [h.1]; exact hi]
theorem cl_set (l : List Int) (i : Nat) (z : Int) : (cl l).setIfInBounds i (.int .u32 z) = cl (l.set i z) := by
  apply Array.ext_getElem?
  intro j
  rw [Array.getElem?_setIfInBounds, cl, cl, icells_get, icells_get, icells_size, List.getElem?_set]
  by_cases e : i = j
  · subst e
    rw [if_pos rfl, if_pos rfl]
    by_cases hi : i < l.length
    · rw [if_pos hi, if_pos hi]; rfl
    · rw [if_neg hi, if_neg hi]; rfl
  · rw [if_neg e, if_neg e]
theorem cl_all (l : List Int) : (cl l).all (·.oneCell') = true := by
  rw [Array.all_eq_true_iff_forall_mem]
  intro v hv
  simp only [cl, icells, List.mem_toArray, List.mem_map] at hv
  obtain ⟨z, _, rfl⟩ := hv
  rfl
theorem Cds.get {l : List Int} (h : Cds l) (i : Nat) : (Lit.int .u32 (l.getD i 0)).wf = true := by
  by_cases hi : i < l.length
  · have := h.2 _ (List.getElem_mem hi)
    simpa [List.getD_eq_getElem?_getD, hi] using this
  · have e : l.getD i 0 = 0 := by simp [List.getD_eq_getElem?_getD, show l.length ≤ i by omega]
    rw [e]; decide
theorem Cds.bd {l : List Int} (h : Cds l) (i : Nat) : 0 ≤ l.getD i 0 ∧ l.getD i 0 ≤ 4294967295 := bounds_u32 (h.get i)
theorem Cds.set {l : List Int} (h : Cds l) (i : Nat) (z : Int) (hz : (Lit.int .u32 z).wf = true) : Cds (l.set i z) := by
  refine ⟨by rw [List.length_set]; exact h.1, fun x hx => ?_⟩
  rcases List.mem_or_eq_of_mem_set hx with hx | rfl
  · exact h.2 x hx
  · exact hz
/-- Zeros. -/
def zC : List Int := List.replicate 258 0
theorem zC_cds : Cds zC := ⟨List.length_replicate, fun z hz => by rw [List.eq_of_mem_replicate hz]; decide⟩
theorem zC_get (i : Nat) : zC.getD i 0 = 0 := by
  simp only [zC, List.getD_eq_getElem?_getD, List.getElem?_replicate]
  split <;> rfl

theorem cdsI : (Try.prog.info? 50).map (·.size) = some 258 := by kernel_rfl
theorem cdsIk {l : List Int} (h : Cds l) : (Try.prog.info? 50).map (·.size) = some (cl l).size := by rw [cl_size h]; exact cdsI
theorem cdsZ (w : World) : (zeroValue 50).run Try.prog w = .ok (.agg (cl zC)) w := by
  have h : (Try.prog.info? 50).map (fun i => (i.zero, i.size)) = some (some (.agg (cl zC)), 258) := by kernel_rfl
  exact (zero_of_info h).1 w
theorem cdsU : Try.prog.underlying 50 = some (.array 258 48) := Try.underlying50
theorem run_index_cds (w : World) {l : List Int} (h : Cds l) (i : Nat) (hi : i < 258) : (Instr.index 50 (.agg (cl l)) (.int .i64 i)).run Try.prog w = .ok (.int .u32 (l.getD i 0)) w := by
  have hs : (Try.prog.info? 48).map (·.size) = some 1 := by kernel_rfl
  cases hq : Try.prog.info? 48 with
  | none => simp [hq] at hs
  | some j =>
    have hj : j.size = 1 := by simpa [hq] using hs
    have hp := run_part_plain (P := Try.prog) w (e := 48) (by simp [Program.plainKey, u32U]) (cl_get h i hi)
    have hi' : (i : Int) < 258 := by omega
    simp [Instr.index, asIntOf, run_underlying cdsU, sizeOf, typeInfo, hq, hj, hp, hi, show ¬ 258 ≤ i by omega]

theorem cds_key (l : List Int) (h : Cds l) : ∃ lx, keyOf Try.prog 50 (.agg (cl l)) = some lx := by
  have hk : Try.prog.keyType 50 = true := by kernel_rfl
  have hc : Try.prog.cellsOf 50 = 258 := by kernel_rfl
  have hi : Try.prog.cellsOf 48 = 1 := by kernel_rfl
  have ht : ∃ D, Try.prog.types.size + 1 = D + 2 := by
    have h1 : decide (1 < Try.prog.types.size) = true := by kernel_rfl
    have h2 := of_decide_eq_true h1
    exact ⟨Try.prog.types.size - 1, by omega⟩
  obtain ⟨D, hD⟩ := ht
  have hf : (Value.agg (cl l)).formed Try.prog 50 = true := by simp [Value.formed, cdsU, hc, cl_size h]
  refine ⟨.string (keyBytes (((List.range 258).map fun i => [Lit.int .u32 (l.getD i 0)]).flatten)), ?_⟩
  unfold keyOf
  simp only [cdsU, hk, hf, Bool.and_self, if_true]
  rw [hD]
  unfold Program.keyLits
  simp only [cdsU, hc, Value.cells, hi]
  rw [if_pos (by rw [Array.length_toList, cl_size h])]
  rw [mapM_some (g := fun i => [Lit.int .u32 (l.getD i 0)]) _ (fun i hi => ?_)]
  · rfl
  · have hi' : i < 258 := List.mem_range.1 hi
    have e : ((cl l).toList.drop (i * 1)).take 1 = [.int .u32 (l.getD i 0)] := by
      have hg := cl_get h i hi'
      rw [← Array.getElem?_toList] at hg
      rw [Nat.mul_one]
      have hl : i < (cl l).toList.length := by rw [Array.length_toList, cl_size h]; exact hi'
      rw [List.drop_eq_getElem_cons hl]
      rw [List.getElem?_eq_getElem hl] at hg
      injection hg with hg
      rw [hg]
      rfl
    rw [e]
    unfold Program.keyLits
    have hw := h.get i
    rw [List.getD_eq_getElem?_getD] at hw
    simp [u32U, hw]
theorem cds_wide : (match Try.prog.underlying 50 with | some (.array _ _) | some (.struct _) => true | _ => false) = true := by rw [cdsU]
theorem cds_keyAt : Try.prog.keyTypeAt 2 50 = true := by kernel_rfl
theorem cds_tiled : Try.prog.tiled 2 50 = true := by kernel_rfl
theorem cds_key_inj {l m : List Int} {lx : Lit} (h : keyOf Try.prog 50 (.agg (cl l)) = some lx) (k : keyOf Try.prog 50 (.agg (cl m)) = some lx) : l = m := by
  have := keyOf_inj_deep cds_tiled cds_wide h k
  injection this with this
  exact cl_inj this
theorem run_equal_cds (w : World) {l m : List Int} (h : Cds l) (k : Cds m) : (Op.equal 50 (.agg (cl l)) (.agg (cl m))).run Try.prog w = .ok (decide (l = m)) w := by
  obtain ⟨lx, hx⟩ := cds_key l h
  obtain ⟨ly, hy⟩ := cds_key m k
  obtain ⟨r, h1, h2⟩ := run_equal_deep w (m := 2) (by omega) cds_keyAt cds_wide hx hy
  rw [h1]
  congr 1
  rw [Bool.eq_iff_iff, h2, decide_eq_true_eq]
  constructor
  · rintro rfl
    exact cds_key_inj hx hy
  · rintro rfl
    rw [hx] at hy
    exact Option.some.inj hy
/-- In the form that the walk meets. -/
theorem run_eqi_cds (w : World) {l m : List Int} (h : Cds l) (k : Cds m) : (Op.equalIn 10000 50 (.agg (cl l)) (.agg (cl m))).run Try.prog w = .ok (decide (l = m)) w := run_equal_cds w h k
theorem run_eql_cds (w : World) {l m : List Int} (h : Cds l) (k : Cds m) : (binOp .eql 50 (.agg (cl l)) (.agg (cl m))).run Try.prog w = .ok (.bool (decide (l = m))) w := by
  simp [binOp, run_equal_cds w h k]
theorem run_neq_cds (w : World) {l m : List Int} (h : Cds l) (k : Cds m) : (binOp .neq 50 (.agg (cl l)) (.agg (cl m))).run Try.prog w = .ok (.bool (!decide (l = m))) w := by
  simp [binOp, run_equal_cds w h k]
/-- The numbers are right. -/
def Sxt (l : List Int) : Prop := l.length = 16 ∧ ∀ z ∈ l, (Lit.int .i64 z).wf = true
/-- The cells. -/
def xl (l : List Int) : Array Value := icells .i64 l
theorem xl_size {l : List Int} (h : Sxt l) : (xl l).size = 16 := by rw [xl, icells_size, h.1]
theorem xl_inj {l m : List Int} (h : xl l = xl m) : l = m := by
  have h1 : l.map (Value.int .i64) = m.map (Value.int .i64) := by
    have := congrArg Array.toList h
    simpa [xl, icells] using this
  refine List.map_inj_right (f := Value.int .i64) ?_ |>.1 h1
  intro x y e
  injection e
theorem xl_get {l : List Int} (h : Sxt l) (i : Nat) (hi : i < 16) : (xl l)[i]? = some (.int .i64 (l.getD i 0)) := by
  rw [xl, icells_get]
  simp [List.getD_eq_getElem?_getD, show i < l.length by rw [h.1]; exact hi]
theorem xl_set (l : List Int) (i : Nat) (z : Int) : (xl l).setIfInBounds i (.int .i64 z) = xl (l.set i z) := by
  apply Array.ext_getElem?
  intro j
  rw [Array.getElem?_setIfInBounds, xl, xl, icells_get, icells_get, icells_size, List.getElem?_set]
  by_cases e : i = j
  · subst e
    rw [if_pos rfl, if_pos rfl]
    by_cases hi : i < l.length
    · rw [if_pos hi, if_pos hi]; rfl
    · rw [if_neg hi, if_neg hi]; rfl
  · rw [if_neg e, if_neg e]
theorem xl_all (l : List Int) : (xl l).all (·.oneCell') = true := by
  rw [Array.all_eq_true_iff_forall_mem]
  intro v hv
  simp only [xl, icells, List.mem_toArray, List.mem_map] at hv
  obtain ⟨z, _, rfl⟩ := hv
  rfl
theorem Sxt.get {l : List Int} (h : Sxt l) (i : Nat) : (Lit.int .i64 (l.getD i 0)).wf = true := by
  by_cases hi : i < l.length
  · have := h.2 _ (List.getElem_mem hi)
    simpa [List.getD_eq_getElem?_getD, hi] using this
  · have e : l.getD i 0 = 0 := by simp [List.getD_eq_getElem?_getD, show l.length ≤ i by omega]
    rw [e]; decide
theorem Sxt.bd {l : List Int} (h : Sxt l) (i : Nat) : -9223372036854775808 ≤ l.getD i 0 ∧ l.getD i 0 ≤ 9223372036854775807 := bounds_i64 (h.get i)
theorem Sxt.set {l : List Int} (h : Sxt l) (i : Nat) (z : Int) (hz : (Lit.int .i64 z).wf = true) : Sxt (l.set i z) := by
  refine ⟨by rw [List.length_set]; exact h.1, fun x hx => ?_⟩
  rcases List.mem_or_eq_of_mem_set hx with hx | rfl
  · exact h.2 x hx
  · exact hz
/-- Zeros. -/
def zX : List Int := List.replicate 16 0
theorem zX_sxt : Sxt zX := ⟨List.length_replicate, fun z hz => by rw [List.eq_of_mem_replicate hz]; decide⟩
theorem zX_get (i : Nat) : zX.getD i 0 = 0 := by
  simp only [zX, List.getD_eq_getElem?_getD, List.getElem?_replicate]
  split <;> rfl

theorem sxtI : (Try.prog.info? 53).map (·.size) = some 16 := by kernel_rfl
theorem sxtIk {l : List Int} (h : Sxt l) : (Try.prog.info? 53).map (·.size) = some (xl l).size := by rw [xl_size h]; exact sxtI
theorem sxtZ (w : World) : (zeroValue 53).run Try.prog w = .ok (.agg (xl zX)) w := by
  have h : (Try.prog.info? 53).map (fun i => (i.zero, i.size)) = some (some (.agg (xl zX)), 16) := by kernel_rfl
  exact (zero_of_info h).1 w
theorem sxtU : Try.prog.underlying 53 = some (.array 16 3) := Try.underlying53
theorem run_index_sxt (w : World) {l : List Int} (h : Sxt l) (i : Nat) (hi : i < 16) : (Instr.index 53 (.agg (xl l)) (.int .i64 i)).run Try.prog w = .ok (.int .i64 (l.getD i 0)) w := by
  have hs : (Try.prog.info? 3).map (·.size) = some 1 := by kernel_rfl
  cases hq : Try.prog.info? 3 with
  | none => simp [hq] at hs
  | some j =>
    have hj : j.size = 1 := by simpa [hq] using hs
    have hp := run_part_plain (P := Try.prog) w (e := 3) (by simp [Program.plainKey, intU]) (xl_get h i hi)
    have hi' : (i : Int) < 16 := by omega
    simp [Instr.index, asIntOf, run_underlying sxtU, sizeOf, typeInfo, hq, hj, hp, hi, show ¬ 16 ≤ i by omega]

/-- The numbers are right. -/
def Fst (l : List Int) : Prop := l.length = 16 ∧ ∀ z ∈ l, (Lit.int .u32 z).wf = true
/-- The cells. -/
def fl (l : List Int) : Array Value := icells .u32 l
theorem fl_size {l : List Int} (h : Fst l) : (fl l).size = 16 := by rw [fl, icells_size, h.1]
theorem fl_inj {l m : List Int} (h : fl l = fl m) : l = m := by
  have h1 : l.map (Value.int .u32) = m.map (Value.int .u32) := by
    have := congrArg Array.toList h
    simpa [fl, icells] using this
  refine List.map_inj_right (f := Value.int .u32) ?_ |>.1 h1
  intro x y e
  injection e
theorem fl_get {l : List Int} (h : Fst l) (i : Nat) (hi : i < 16) : (fl l)[i]? = some (.int .u32 (l.getD i 0)) := by
  rw [fl, icells_get]
  simp [List.getD_eq_getElem?_getD, show i < l.length by rw [h.1]; exact hi]
theorem fl_set (l : List Int) (i : Nat) (z : Int) : (fl l).setIfInBounds i (.int .u32 z) = fl (l.set i z) := by
  apply Array.ext_getElem?
  intro j
  rw [Array.getElem?_setIfInBounds, fl, fl, icells_get, icells_get, icells_size, List.getElem?_set]
  by_cases e : i = j
  · subst e
    rw [if_pos rfl, if_pos rfl]
    by_cases hi : i < l.length
    · rw [if_pos hi, if_pos hi]; rfl
    · rw [if_neg hi, if_neg hi]; rfl
  · rw [if_neg e, if_neg e]
theorem fl_all (l : List Int) : (fl l).all (·.oneCell') = true := by
  rw [Array.all_eq_true_iff_forall_mem]
  intro v hv
  simp only [fl, icells, List.mem_toArray, List.mem_map] at hv
  obtain ⟨z, _, rfl⟩ := hv
  rfl
theorem Fst.get {l : List Int} (h : Fst l) (i : Nat) : (Lit.int .u32 (l.getD i 0)).wf = true := by
  by_cases hi : i < l.length
  · have := h.2 _ (List.getElem_mem hi)
    simpa [List.getD_eq_getElem?_getD, hi] using this
  · have e : l.getD i 0 = 0 := by simp [List.getD_eq_getElem?_getD, show l.length ≤ i by omega]
    rw [e]; decide
theorem Fst.bd {l : List Int} (h : Fst l) (i : Nat) : 0 ≤ l.getD i 0 ∧ l.getD i 0 ≤ 4294967295 := bounds_u32 (h.get i)
theorem Fst.set {l : List Int} (h : Fst l) (i : Nat) (z : Int) (hz : (Lit.int .u32 z).wf = true) : Fst (l.set i z) := by
  refine ⟨by rw [List.length_set]; exact h.1, fun x hx => ?_⟩
  rcases List.mem_or_eq_of_mem_set hx with hx | rfl
  · exact h.2 x hx
  · exact hz
/-- Zeros. -/
def zF : List Int := List.replicate 16 0
theorem zF_fst : Fst zF := ⟨List.length_replicate, fun z hz => by rw [List.eq_of_mem_replicate hz]; decide⟩
theorem zF_get (i : Nat) : zF.getD i 0 = 0 := by
  simp only [zF, List.getD_eq_getElem?_getD, List.getElem?_replicate]
  split <;> rfl

theorem fstI : (Try.prog.info? 62).map (·.size) = some 16 := by kernel_rfl
theorem fstIk {l : List Int} (h : Fst l) : (Try.prog.info? 62).map (·.size) = some (fl l).size := by rw [fl_size h]; exact fstI
theorem fstZ (w : World) : (zeroValue 62).run Try.prog w = .ok (.agg (fl zF)) w := by
  have h : (Try.prog.info? 62).map (fun i => (i.zero, i.size)) = some (some (.agg (fl zF)), 16) := by kernel_rfl
  exact (zero_of_info h).1 w
theorem fstU : Try.prog.underlying 62 = some (.array 16 48) := Try.underlying62
theorem run_index_fst (w : World) {l : List Int} (h : Fst l) (i : Nat) (hi : i < 16) : (Instr.index 62 (.agg (fl l)) (.int .i64 i)).run Try.prog w = .ok (.int .u32 (l.getD i 0)) w := by
  have hs : (Try.prog.info? 48).map (·.size) = some 1 := by kernel_rfl
  cases hq : Try.prog.info? 48 with
  | none => simp [hq] at hs
  | some j =>
    have hj : j.size = 1 := by simpa [hq] using hs
    have hp := run_part_plain (P := Try.prog) w (e := 48) (by simp [Program.plainKey, u32U]) (fl_get h i hi)
    have hi' : (i : Int) < 16 := by omega
    simp [Instr.index, asIntOf, run_underlying fstU, sizeOf, typeInfo, hq, hj, hp, hi, show ¬ 16 ≤ i by omega]

theorem lg_cell {w : World} {g : Nat} {t : TypeId} {fr : Nat × Nat} {l : List Int} (hg : w.heap[g]? = some (.cells (lg l) t fr)) (h : Lng l) (i : Nat) (hi : i < 258) : w.cell? ⟨g, i, none⟩ = some (.int .u8 (l.getD i 0)) := by
  rw [cell_of_row w g i _ t fr hg, lg_get h i hi]
theorem cl_cell {w : World} {g : Nat} {t : TypeId} {fr : Nat × Nat} {l : List Int} (hg : w.heap[g]? = some (.cells (cl l) t fr)) (h : Cds l) (i : Nat) (hi : i < 258) : w.cell? ⟨g, i, none⟩ = some (.int .u32 (l.getD i 0)) := by
  rw [cell_of_row w g i _ t fr hg, cl_get h i hi]
theorem xl_cell {w : World} {g : Nat} {t : TypeId} {fr : Nat × Nat} {l : List Int} (hg : w.heap[g]? = some (.cells (xl l) t fr)) (h : Sxt l) (i : Nat) (hi : i < 16) : w.cell? ⟨g, i, none⟩ = some (.int .i64 (l.getD i 0)) := by
  rw [cell_of_row w g i _ t fr hg, xl_get h i hi]
theorem fl_cell {w : World} {g : Nat} {t : TypeId} {fr : Nat × Nat} {l : List Int} (hg : w.heap[g]? = some (.cells (fl l) t fr)) (h : Fst l) (i : Nat) (hi : i < 16) : w.cell? ⟨g, i, none⟩ = some (.int .u32 (l.getD i 0)) := by
  rw [cell_of_row w g i _ t fr hg, fl_get h i hi]
end Go.Proofs.Ytbegpakjojiblab
