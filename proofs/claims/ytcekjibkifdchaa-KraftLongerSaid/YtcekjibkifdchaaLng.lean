/- Lengths: 258 bytes by value: in memory, when two are equal. -/
import Derived.Test.YtcekjibkifdchaaTal
import Derived.DeepKeys5
import Derived.Deep.WholeRow
import Derived.Laws.StructEq
set_option linter.unusedVariables false
set_option linter.unusedSimpArgs false
namespace Go.Proofs.Ytcekjibkifdchaa
open Go.RowKit

/-- The numbers are a tally. -/
def Lng (l : List Int) : Prop := l.length = 258 ∧ ∀ z ∈ l, (Lit.int .u8 z).wf = true
/-- A tally's cells. -/
def lg (l : List Int) : Array Value := icells .u8 l
theorem lg_size {l : List Int} (h : Lng l) : (lg l).size = 258 := by rw [lg, icells_size, h.1]
theorem lg_inj {l m : List Int} (h : lg l = lg m) : l = m := by
  have h1 : l.map (Value.int .u8) = m.map (Value.int .u8) := by
    have := congrArg Array.toList h
    simpa [lg, icells] using this
  refine List.map_inj_right (f := Value.int .u8) ?_ |>.1 h1
  intro x y e
  injection e
theorem lg_get {l : List Int} (h : Lng l) (i : Nat) (hi : i < 258) : (lg l)[i]? = some (.int .u8 (l.getD i 0)) := by
  rw [lg, icells_get]
  simp [List.getD_eq_getElem?_getD, show i < l.length by rw [h.1]; exact hi]
theorem lg_set (l : List Int) (i : Nat) (z : Int) : (lg l).setIfInBounds i (.int .u8 z) = lg (l.set i z) := by
  apply Array.ext_getElem?
  intro j
  rw [Array.getElem?_setIfInBounds, lg, lg, icells_get, icells_get, icells_size, List.getElem?_set]
  by_cases e : i = j
  · subst e
    rw [if_pos rfl, if_pos rfl]
    by_cases hi : i < l.length
    · rw [if_pos hi, if_pos hi]; rfl
    · rw [if_neg hi, if_neg hi]; rfl
  · rw [if_neg e, if_neg e]
theorem lg_all (l : List Int) : (lg l).all (·.oneCell') = true := by
  rw [Array.all_eq_true_iff_forall_mem]
  intro v hv
  simp only [lg, icells, List.mem_toArray, List.mem_map] at hv
  obtain ⟨z, _, rfl⟩ := hv
  rfl
theorem Lng.get {l : List Int} (h : Lng l) (i : Nat) : (Lit.int .u8 (l.getD i 0)).wf = true := by
  by_cases hi : i < l.length
  · have := h.2 _ (List.getElem_mem hi)
    simpa [List.getD_eq_getElem?_getD, hi] using this
  · have e : l.getD i 0 = 0 := by simp [List.getD_eq_getElem?_getD, show l.length ≤ i by omega]
    rw [e]; decide
theorem Lng.bd {l : List Int} (h : Lng l) (i : Nat) : 0 ≤ l.getD i 0 ∧ l.getD i 0 ≤ 255 := bounds_u8 (h.get i)
theorem Lng.set {l : List Int} (h : Lng l) (i : Nat) (z : Int) (hz : (Lit.int .u8 z).wf = true) : Lng (l.set i z) := by
  refine ⟨by rw [List.length_set]; exact h.1, fun x hx => ?_⟩
  rcases List.mem_or_eq_of_mem_set hx with hx | rfl
  · exact h.2 x hx
  · exact hz
/-- The zero tally. -/
def zL : List Int := List.replicate 258 0
theorem zL_lng : Lng zL := ⟨List.length_replicate, fun z hz => by rw [List.eq_of_mem_replicate hz]; decide⟩
theorem zL_get (i : Nat) : zL.getD i 0 = 0 := by
  simp only [zL, List.getD_eq_getElem?_getD, List.getElem?_replicate]
  split <;> rfl

theorem lngI : (Try.prog.info? 23).map (·.size) = some 258 := by kernel_rfl
theorem lngIk {l : List Int} (h : Lng l) : (Try.prog.info? 23).map (·.size) = some (lg l).size := by rw [lg_size h]; exact lngI
theorem lngZ (w : World) : (zeroValue 23).run Try.prog w = .ok (.agg (lg zL)) w := by
  have h : (Try.prog.info? 23).map (fun i => (i.zero, i.size)) = some (some (.agg (lg zL)), 258) := by kernel_rfl
  exact (zero_of_info h).1 w
theorem u8U : Try.prog.underlying 5 = some (.int .u8) := Try.underlying5
theorem lngU : Try.prog.underlying 23 = some (.array 258 5) := Try.underlying23
theorem run_index_lng (w : World) {l : List Int} (h : Lng l) (i : Nat) (hi : i < 258) : (Instr.index 23 (.agg (lg l)) (.int .i64 i)).run Try.prog w = .ok (.int .u8 (l.getD i 0)) w := by
  have hs : (Try.prog.info? 5).map (·.size) = some 1 := by kernel_rfl
  cases hq : Try.prog.info? 5 with
  | none => simp [hq] at hs
  | some j =>
    have hj : j.size = 1 := by simpa [hq] using hs
    have hp := run_part_plain (P := Try.prog) w (e := 5) (by simp [Program.plainKey, u8U]) (lg_get h i hi)
    have hi' : (i : Int) < 258 := by omega
    simp [Instr.index, asIntOf, run_underlying lngU, sizeOf, typeInfo, hq, hj, hp, hi, show ¬ 258 ≤ i by omega]

/-! Equality. -/
theorem lng_key (l : List Int) (h : Lng l) : ∃ lx, keyOf Try.prog 23 (.agg (lg l)) = some lx := by
  have hk : Try.prog.keyType 23 = true := by kernel_rfl
  have hc : Try.prog.cellsOf 23 = 258 := by kernel_rfl
  have hi : Try.prog.cellsOf 5 = 1 := by kernel_rfl
  have ht : ∃ D, Try.prog.types.size + 1 = D + 2 := by
    have h1 : decide (1 < Try.prog.types.size) = true := by kernel_rfl
    have h2 := of_decide_eq_true h1
    exact ⟨Try.prog.types.size - 1, by omega⟩
  obtain ⟨D, hD⟩ := ht
  have hf : (Value.agg (lg l)).formed Try.prog 23 = true := by simp [Value.formed, lngU, hc, lg_size h]
  refine ⟨.string (keyBytes (((List.range 258).map fun i => [Lit.int .u8 (l.getD i 0)]).flatten)), ?_⟩
  unfold keyOf
  simp only [lngU, hk, hf, Bool.and_self, if_true]
  rw [hD]
  unfold Program.keyLits
  simp only [lngU, hc, Value.cells, hi]
  rw [if_pos (by rw [Array.length_toList, lg_size h])]
  rw [mapM_some (g := fun i => [Lit.int .u8 (l.getD i 0)]) _ (fun i hi => ?_)]
  · rfl
  · have hi' : i < 258 := List.mem_range.1 hi
    have e : ((lg l).toList.drop (i * 1)).take 1 = [.int .u8 (l.getD i 0)] := by
      have hg := lg_get h i hi'
      rw [← Array.getElem?_toList] at hg
      rw [Nat.mul_one]
      have hl : i < (lg l).toList.length := by rw [Array.length_toList, lg_size h]; exact hi'
      rw [List.drop_eq_getElem_cons hl]
      rw [List.getElem?_eq_getElem hl] at hg
      injection hg with hg
      rw [hg]
      rfl
    rw [e]
    unfold Program.keyLits
    have hw := h.get i
    rw [List.getD_eq_getElem?_getD] at hw
    simp [u8U, hw]
theorem lng_wide : (match Try.prog.underlying 23 with | some (.array _ _) | some (.struct _) => true | _ => false) = true := by rw [lngU]
theorem lng_keyAt : Try.prog.keyTypeAt 2 23 = true := by kernel_rfl
theorem lng_tiled : Try.prog.tiled 2 23 = true := by kernel_rfl
theorem lng_key_inj {l m : List Int} {lx : Lit} (h : keyOf Try.prog 23 (.agg (lg l)) = some lx) (k : keyOf Try.prog 23 (.agg (lg m)) = some lx) : l = m := by
  have := keyOf_inj_deep lng_tiled lng_wide h k
  injection this with this
  exact lg_inj this
theorem run_equal_lng (w : World) {l m : List Int} (h : Lng l) (k : Lng m) : (Op.equal 23 (.agg (lg l)) (.agg (lg m))).run Try.prog w = .ok (decide (l = m)) w := by
  obtain ⟨lx, hx⟩ := lng_key l h
  obtain ⟨ly, hy⟩ := lng_key m k
  obtain ⟨r, h1, h2⟩ := run_equal_deep w (m := 2) (by omega) lng_keyAt lng_wide hx hy
  rw [h1]
  congr 1
  rw [Bool.eq_iff_iff, h2, decide_eq_true_eq]
  constructor
  · rintro rfl
    exact lng_key_inj hx hy
  · rintro rfl
    rw [hx] at hy
    exact Option.some.inj hy
/-- In the form that the walk meets. -/
theorem run_eqi_lng (w : World) {l m : List Int} (h : Lng l) (k : Lng m) : (Op.equalIn 10000 23 (.agg (lg l)) (.agg (lg m))).run Try.prog w = .ok (decide (l = m)) w := run_equal_lng w h k
theorem run_eql_lng (w : World) {l m : List Int} (h : Lng l) (k : Lng m) : (binOp .eql 23 (.agg (lg l)) (.agg (lg m))).run Try.prog w = .ok (.bool (decide (l = m))) w := by
  simp [binOp, run_equal_lng w h k]
theorem run_neq_lng (w : World) {l m : List Int} (h : Lng l) (k : Lng m) : (binOp .neq 23 (.agg (lg l)) (.agg (lg m))).run Try.prog w = .ok (.bool (!decide (l = m))) w := by
  simp [binOp, run_equal_lng w h k]
end Go.Proofs.Ytcekjibkifdchaa
