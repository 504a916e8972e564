/- Arrays of 16 integers by value: in memory, when two are equal, as keys of a map. -/
import Derived.Test.YtcekjibkifdchaaTal
set_option linter.unusedVariables false
set_option linter.unusedSimpArgs false
namespace Go.Proofs.Ytcekjibkifdchaa
open Go.RowKit

/-- The numbers are a tally. -/
def Sxt (l : List Int) : Prop := l.length = 16 ∧ ∀ z ∈ l, (Lit.int .i64 z).wf = true
/-- A tally's cells. -/
def xl (l : List Int) : Array Value := icells .i64 l
theorem xl_size {l : List Int} (h : Sxt l) : (xl l).size = 16 := by rw [xl, icells_size, h.1]
theorem xl_inj {l m : List Int} (h : xl l = xl m) : l = m := by
  have h1 : l.map (Value.int .i64) = m.map (Value.int .i64) := by
    have := congrArg Array.toList h
    simpa [xl, icells] using this
  refine List.map_inj_right (f := Value.int .i64) ?_ |>.1 h1
  intro x y e
  injection e
theorem xl_get {l : List Int} (h : Sxt l) (i : Nat) (hi : i < 16) : (xl l)[i]? = some (.int .i64 (l.getD i 0)) := by
  rw [xl, icells_get]
  simp [List.getD_eq_getElem?_getD, show i < l.length by rw [h.1]; exact hi]
theorem xl_set (l : List Int) (i : Nat) (z : Int) : (xl l).setIfInBounds i (.int .i64 z) = xl (l.set i z) := by
  apply Array.ext_getElem?
  intro j
  rw [Array.getElem?_setIfInBounds, xl, xl, icells_get, icells_get, icells_size, List.getElem?_set]
  by_cases e : i = j
  · subst e
    rw [if_pos rfl, if_pos rfl]
    by_cases hi : i < l.length
    · rw [if_pos hi, if_pos hi]; rfl
    · rw [if_neg hi, if_neg hi]; rfl
  · rw [if_neg e, if_neg e]
theorem xl_all (l : List Int) : (xl l).all (·.oneCell') = true := by
  rw [Array.all_eq_true_iff_forall_mem]
  intro v hv
  simp only [xl, icells, List.mem_toArray, List.mem_map] at hv
  obtain ⟨z, _, rfl⟩ := hv
  rfl
theorem Sxt.get {l : List Int} (h : Sxt l) (i : Nat) : (Lit.int .i64 (l.getD i 0)).wf = true := by
  by_cases hi : i < l.length
  · have := h.2 _ (List.getElem_mem hi)
    simpa [List.getD_eq_getElem?_getD, hi] using this
  · have e : l.getD i 0 = 0 := by simp [List.getD_eq_getElem?_getD, show l.length ≤ i by omega]
    rw [e]; decide
theorem Sxt.bd {l : List Int} (h : Sxt l) (i : Nat) : -9223372036854775808 ≤ l.getD i 0 ∧ l.getD i 0 ≤ 9223372036854775807 := bounds_i64 (h.get i)
theorem Sxt.set {l : List Int} (h : Sxt l) (i : Nat) (z : Int) (hz : (Lit.int .i64 z).wf = true) : Sxt (l.set i z) := by
  refine ⟨by rw [List.length_set]; exact h.1, fun x hx => ?_⟩
  rcases List.mem_or_eq_of_mem_set hx with hx | rfl
  · exact h.2 x hx
  · exact hz
/-- The zero tally. -/
def zX : List Int := List.replicate 16 0
theorem zX_sxt : Sxt zX := ⟨List.length_replicate, fun z hz => by rw [List.eq_of_mem_replicate hz]; decide⟩
theorem zX_get (i : Nat) : zX.getD i 0 = 0 := by
  simp only [zX, List.getD_eq_getElem?_getD, List.getElem?_replicate]
  split <;> rfl

theorem sxtI : (Try.prog.info? 30).map (·.size) = some 16 := by kernel_rfl
theorem sxtIk {l : List Int} (h : Sxt l) : (Try.prog.info? 30).map (·.size) = some (xl l).size := by rw [xl_size h]; exact sxtI
theorem sxtZ (w : World) : (zeroValue 30).run Try.prog w = .ok (.agg (xl zX)) w := by
  have h : (Try.prog.info? 30).map (fun i => (i.zero, i.size)) = some (some (.agg (xl zX)), 16) := by kernel_rfl
  exact (zero_of_info h).1 w
theorem sxtU : Try.prog.underlying 30 = some (.array 16 3) := Try.underlying30
theorem run_index_sxt (w : World) {l : List Int} (h : Sxt l) (i : Nat) (hi : i < 16) : (Instr.index 30 (.agg (xl l)) (.int .i64 i)).run Try.prog w = .ok (.int .i64 (l.getD i 0)) w := by
  have hs : (Try.prog.info? 3).map (·.size) = some 1 := by kernel_rfl
  cases hq : Try.prog.info? 3 with
  | none => simp [hq] at hs
  | some j =>
    have hj : j.size = 1 := by simpa [hq] using hs
    have hp := run_part_plain (P := Try.prog) w (e := 3) (by simp [Program.plainKey, intU]) (xl_get h i hi)
    have hi' : (i : Int) < 16 := by omega
    simp [Instr.index, asIntOf, run_underlying sxtU, sizeOf, typeInfo, hq, hj, hp, hi, show ¬ 16 ≤ i by omega]

/-! Equality. -/
theorem sxt_key (l : List Int) (h : Sxt l) : ∃ lx, keyOf Try.prog 30 (.agg (xl l)) = some lx := by
  have hk : Try.prog.keyType 30 = true := by kernel_rfl
  have hc : Try.prog.cellsOf 30 = 16 := by kernel_rfl
  have hi : Try.prog.cellsOf 3 = 1 := by kernel_rfl
  have ht : ∃ D, Try.prog.types.size + 1 = D + 2 := by
    have h1 : decide (1 < Try.prog.types.size) = true := by kernel_rfl
    have h2 := of_decide_eq_true h1
    exact ⟨Try.prog.types.size - 1, by omega⟩
  obtain ⟨D, hD⟩ := ht
  have hf : (Value.agg (xl l)).formed Try.prog 30 = true := by simp [Value.formed, sxtU, hc, xl_size h]
  refine ⟨.string (keyBytes (((List.range 16).map fun i => [Lit.int .i64 (l.getD i 0)]).flatten)), ?_⟩
  unfold keyOf
  simp only [sxtU, hk, hf, Bool.and_self, if_true]
  rw [hD]
  unfold Program.keyLits
  simp only [sxtU, hc, Value.cells, hi]
  rw [if_pos (by rw [Array.length_toList, xl_size h])]
  rw [mapM_some (g := fun i => [Lit.int .i64 (l.getD i 0)]) _ (fun i hi => ?_)]
  · rfl
  · have hi' : i < 16 := List.mem_range.1 hi
    have e : ((xl l).toList.drop (i * 1)).take 1 = [.int .i64 (l.getD i 0)] := by
      have hg := xl_get h i hi'
      rw [← Array.getElem?_toList] at hg
      rw [Nat.mul_one]
      have hl : i < (xl l).toList.length := by rw [Array.length_toList, xl_size h]; exact hi'
      rw [List.drop_eq_getElem_cons hl]
      rw [List.getElem?_eq_getElem hl] at hg
      injection hg with hg
      rw [hg]
      rfl
    rw [e]
    unfold Program.keyLits
    have hw := h.get i
    rw [List.getD_eq_getElem?_getD] at hw
    simp [intU, hw]
theorem sxt_wide : (match Try.prog.underlying 30 with | some (.array _ _) | some (.struct _) => true | _ => false) = true := by rw [sxtU]
theorem sxt_keyAt : Try.prog.keyTypeAt 2 30 = true := by kernel_rfl
theorem sxt_tiled : Try.prog.tiled 2 30 = true := by kernel_rfl
theorem sxt_key_inj {l m : List Int} {lx : Lit} (h : keyOf Try.prog 30 (.agg (xl l)) = some lx) (k : keyOf Try.prog 30 (.agg (xl m)) = some lx) : l = m := by
  have := keyOf_inj_deep sxt_tiled sxt_wide h k
  injection this with this
  exact xl_inj this
theorem run_equal_sxt (w : World) {l m : List Int} (h : Sxt l) (k : Sxt m) : (Op.equal 30 (.agg (xl l)) (.agg (xl m))).run Try.prog w = .ok (decide (l = m)) w := by
  obtain ⟨lx, hx⟩ := sxt_key l h
  obtain ⟨ly, hy⟩ := sxt_key m k
  obtain ⟨r, h1, h2⟩ := run_equal_deep w (m := 2) (by omega) sxt_keyAt sxt_wide hx hy
  rw [h1]
  congr 1
  rw [Bool.eq_iff_iff, h2, decide_eq_true_eq]
  constructor
  · rintro rfl
    exact sxt_key_inj hx hy
  · rintro rfl
    rw [hx] at hy
    exact Option.some.inj hy
/-- In the form that the walk meets. -/
theorem run_eqi_sxt (w : World) {l m : List Int} (h : Sxt l) (k : Sxt m) : (Op.equalIn 10000 30 (.agg (xl l)) (.agg (xl m))).run Try.prog w = .ok (decide (l = m)) w := run_equal_sxt w h k
theorem run_eql_sxt (w : World) {l m : List Int} (h : Sxt l) (k : Sxt m) : (binOp .eql 30 (.agg (xl l)) (.agg (xl m))).run Try.prog w = .ok (.bool (decide (l = m))) w := by
  simp [binOp, run_equal_sxt w h k]
theorem run_neq_sxt (w : World) {l m : List Int} (h : Sxt l) (k : Sxt m) : (binOp .neq 30 (.agg (xl l)) (.agg (xl m))).run Try.prog w = .ok (.bool (!decide (l = m))) w := by
  simp [binOp, run_equal_sxt w h k]
end Go.Proofs.Ytcekjibkifdchaa
