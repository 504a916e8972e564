/- Tallies: 258 integers by value: in memory, when two are equal, as keys of a map. -/
import Derived.Test.YtcekjibkifdchaaGen
import Derived.Test.YtcekjibkifdchaaProg
import Derived.DeepKeys5
import Derived.Deep.WholeRow
import Derived.Laws.StructEq
set_option linter.unusedVariables false
set_option linter.unusedSimpArgs false
namespace Go.Proofs.Ytcekjibkifdchaa
open Go.RowKit

/-- The numbers are a tally. -/
def Tal (l : List Int) : Prop := l.length = 258 ∧ ∀ z ∈ l, (Lit.int .i64 z).wf = true
/-- A tally's cells. -/
def tl (l : List Int) : Array Value := icells .i64 l
theorem tl_size {l : List Int} (h : Tal l) : (tl l).size = 258 := by rw [tl, icells_size, h.1]
theorem tl_inj {l m : List Int} (h : tl l = tl m) : l = m := by
  have h1 : l.map (Value.int .i64) = m.map (Value.int .i64) := by
    have := congrArg Array.toList h
    simpa [tl, icells] using this
  refine List.map_inj_right (f := Value.int .i64) ?_ |>.1 h1
  intro x y e
  injection e
theorem tl_get {l : List Int} (h : Tal l) (i : Nat) (hi : i < 258) : (tl l)[i]? = some (.int .i64 (l.getD i 0)) := by
  rw [tl, icells_get]
  simp [List.getD_eq_getElem?_getD, show i < l.length by rw [h.1]; exact hi]
theorem tl_set (l : List Int) (i : Nat) (z : Int) : (tl l).setIfInBounds i (.int .i64 z) = tl (l.set i z) := by
  apply Array.ext_getElem?
  intro j
  rw [Array.getElem?_setIfInBounds, tl, tl, icells_get, icells_get, icells_size, List.getElem?_set]
  by_cases e : i = j
  · subst e
    rw [if_pos rfl, if_pos rfl]
    by_cases hi : i < l.length
    · rw [if_pos hi, if_pos hi]; rfl
    · rw [if_neg hi, if_neg hi]; rfl
  · rw [if_neg e, if_neg e]
theorem tl_all (l : List Int) : (tl l).all (·.oneCell') = true := by
  rw [Array.all_eq_true_iff_forall_mem]
  intro v hv
  simp only [tl, icells, List.mem_toArray, List.mem_map] at hv
  obtain ⟨z, _, rfl⟩ := hv
  rfl
theorem Tal.get {l : List Int} (h : Tal l) (i : Nat) : (Lit.int .i64 (l.getD i 0)).wf = true := by
  by_cases hi : i < l.length
  · have := h.2 _ (List.getElem_mem hi)
    simpa [List.getD_eq_getElem?_getD, hi] using this
  · have e : l.getD i 0 = 0 := by simp [List.getD_eq_getElem?_getD, show l.length ≤ i by omega]
    rw [e]; decide
theorem Tal.bd {l : List Int} (h : Tal l) (i : Nat) : -9223372036854775808 ≤ l.getD i 0 ∧ l.getD i 0 ≤ 9223372036854775807 := bounds_i64 (h.get i)
theorem Tal.set {l : List Int} (h : Tal l) (i : Nat) (z : Int) (hz : (Lit.int .i64 z).wf = true) : Tal (l.set i z) := by
  refine ⟨by rw [List.length_set]; exact h.1, fun x hx => ?_⟩
  rcases List.mem_or_eq_of_mem_set hx with hx | rfl
  · exact h.2 x hx
  · exact hz
/-- The zero tally. -/
def zT : List Int := List.replicate 258 0
theorem zT_tal : Tal zT := ⟨List.length_replicate, fun z hz => by rw [List.eq_of_mem_replicate hz]; decide⟩
theorem zT_get (i : Nat) : zT.getD i 0 = 0 := by
  simp only [zT, List.getD_eq_getElem?_getD, List.getElem?_replicate]
  split <;> rfl

theorem talI : (Try.prog.info? 25).map (·.size) = some 258 := by kernel_rfl
theorem talIk {l : List Int} (h : Tal l) : (Try.prog.info? 25).map (·.size) = some (tl l).size := by rw [tl_size h]; exact talI
theorem talZ (w : World) : (zeroValue 25).run Try.prog w = .ok (.agg (tl zT)) w := by
  have h : (Try.prog.info? 25).map (fun i => (i.zero, i.size)) = some (some (.agg (tl zT)), 258) := by kernel_rfl
  exact (zero_of_info h).1 w
theorem intU : Try.prog.underlying 3 = some (.int .i64) := Try.underlying3
theorem talU : Try.prog.underlying 25 = some (.array 258 3) := Try.underlying25
theorem run_index_tal (w : World) {l : List Int} (h : Tal l) (i : Nat) (hi : i < 258) : (Instr.index 25 (.agg (tl l)) (.int .i64 i)).run Try.prog w = .ok (.int .i64 (l.getD i 0)) w := by
  have hs : (Try.prog.info? 3).map (·.size) = some 1 := by kernel_rfl
  cases hq : Try.prog.info? 3 with
  | none => simp [hq] at hs
  | some j =>
    have hj : j.size = 1 := by simpa [hq] using hs
    have hp := run_part_plain (P := Try.prog) w (e := 3) (by simp [Program.plainKey, intU]) (tl_get h i hi)
    have hi' : (i : Int) < 258 := by omega
    simp [Instr.index, asIntOf, run_underlying talU, sizeOf, typeInfo, hq, hj, hp, hi, show ¬ 258 ≤ i by omega]

/-! Equality. -/
theorem mapM_some {β : Type} {f : Nat → Option β} {g : Nat → β} : ∀ (is : List Nat), (∀ i ∈ is, f i = some (g i)) → is.mapM f = some (is.map g)
  | [], _ => rfl
  | i :: is, h => by
    rw [List.mapM_cons, h i (by simp), mapM_some is (fun j hj => h j (by simp [hj]))]
    rfl
theorem tal_key (l : List Int) (h : Tal l) : ∃ lx, keyOf Try.prog 25 (.agg (tl l)) = some lx := by
  have hk : Try.prog.keyType 25 = true := by kernel_rfl
  have hc : Try.prog.cellsOf 25 = 258 := by kernel_rfl
  have hi : Try.prog.cellsOf 3 = 1 := by kernel_rfl
  have ht : ∃ D, Try.prog.types.size + 1 = D + 2 := by
    have h1 : decide (1 < Try.prog.types.size) = true := by kernel_rfl
    have h2 := of_decide_eq_true h1
    exact ⟨Try.prog.types.size - 1, by omega⟩
  obtain ⟨D, hD⟩ := ht
  have hf : (Value.agg (tl l)).formed Try.prog 25 = true := by simp [Value.formed, talU, hc, tl_size h]
  refine ⟨.string (keyBytes (((List.range 258).map fun i => [Lit.int .i64 (l.getD i 0)]).flatten)), ?_⟩
  unfold keyOf
  simp only [talU, hk, hf, Bool.and_self, if_true]
  rw [hD]
  unfold Program.keyLits
  simp only [talU, hc, Value.cells, hi]
  rw [if_pos (by rw [Array.length_toList, tl_size h])]
  rw [mapM_some (g := fun i => [Lit.int .i64 (l.getD i 0)]) _ (fun i hi => ?_)]
  · rfl
  · have hi' : i < 258 := List.mem_range.1 hi
    have e : ((tl l).toList.drop (i * 1)).take 1 = [.int .i64 (l.getD i 0)] := by
      have hg := tl_get h i hi'
      rw [← Array.getElem?_toList] at hg
      rw [Nat.mul_one]
      have hl : i < (tl l).toList.length := by rw [Array.length_toList, tl_size h]; exact hi'
      rw [List.drop_eq_getElem_cons hl]
      rw [List.getElem?_eq_getElem hl] at hg
      injection hg with hg
      rw [hg]
      rfl
    rw [e]
    unfold Program.keyLits
    have hw := h.get i
    rw [List.getD_eq_getElem?_getD] at hw
    simp [intU, hw]
theorem tal_wide : (match Try.prog.underlying 25 with | some (.array _ _) | some (.struct _) => true | _ => false) = true := by rw [talU]
theorem tal_keyAt : Try.prog.keyTypeAt 2 25 = true := by kernel_rfl
theorem tal_tiled : Try.prog.tiled 2 25 = true := by kernel_rfl
theorem tal_key_inj {l m : List Int} {lx : Lit} (h : keyOf Try.prog 25 (.agg (tl l)) = some lx) (k : keyOf Try.prog 25 (.agg (tl m)) = some lx) : l = m := by
  have := keyOf_inj_deep tal_tiled tal_wide h k
  injection this with this
  exact tl_inj this
theorem run_equal_tal (w : World) {l m : List Int} (h : Tal l) (k : Tal m) : (Op.equal 25 (.agg (tl l)) (.agg (tl m))).run Try.prog w = .ok (decide (l = m)) w := by
  obtain ⟨lx, hx⟩ := tal_key l h
  obtain ⟨ly, hy⟩ := tal_key m k
  obtain ⟨r, h1, h2⟩ := run_equal_deep w (m := 2) (by omega) tal_keyAt tal_wide hx hy
  rw [h1]
  congr 1
  rw [Bool.eq_iff_iff, h2, decide_eq_true_eq]
  constructor
  · rintro rfl
    exact tal_key_inj hx hy
  · rintro rfl
    rw [hx] at hy
    exact Option.some.inj hy
/-- In the form that the walk meets. -/
theorem run_eqi_tal (w : World) {l m : List Int} (h : Tal l) (k : Tal m) : (Op.equalIn 10000 25 (.agg (tl l)) (.agg (tl m))).run Try.prog w = .ok (decide (l = m)) w := run_equal_tal w h k
theorem run_eql_tal (w : World) {l m : List Int} (h : Tal l) (k : Tal m) : (binOp .eql 25 (.agg (tl l)) (.agg (tl m))).run Try.prog w = .ok (.bool (decide (l = m))) w := by
  simp [binOp, run_equal_tal w h k]
theorem run_neq_tal (w : World) {l m : List Int} (h : Tal l) (k : Tal m) : (binOp .neq 25 (.agg (tl l)) (.agg (tl m))).run Try.prog w = .ok (.bool (!decide (l = m))) w := by
  simp [binOp, run_equal_tal w h k]
end Go.Proofs.Ytcekjibkifdchaa
