/- Decoder states by value, and the table of 512 entries. -/
import Derived.Test.YtbegpakjojiblabPdN
import Derived.Deep.MidRow
import Derived.Laws.StructEq
set_option linter.unusedVariables false
set_option linter.unusedSimpArgs false
namespace Go.Proofs.Ytbegpakjojiblab
open Go.RowKit

/-- A state's cells. -/
def sgl (l : List Int) (c n : Int) : List Value := l.map (Value.int .u8) ++ [.int .i64 c, .int .i64 n]
def sg (l : List Int) (c n : Int) : Array Value := (sgl l c n).toArray
theorem sgl_len {l : List Int} (h : Lng l) (c n : Int) : (sgl l c n).length = 260 := by
  unfold sgl
  rw [List.length_append, List.length_map, h.1]
  rfl
theorem sg_size {l : List Int} (h : Lng l) (c n : Int) : (sg l c n).size = 260 := by
  show (sgl l c n).length = 260
  exact sgl_len h c n
theorem sg_at (l : List Int) (c n : Int) (i : Nat) : (sg l c n)[i]? = (sgl l c n)[i]? := by simp [sg]
theorem sg_len {l : List Int} (h : Lng l) (c n : Int) (i : Nat) (hi : i < 258) : (sg l c n)[i]? = some (.int .u8 (l.getD i 0)) := by
  have := h.1
  rw [sg_at, sgl, List.getElem?_append_left (by rw [List.length_map]; omega), List.getElem?_map, List.getD_eq_getElem?_getD, List.getElem?_eq_getElem (by omega)]
  rfl
theorem sg_num {l : List Int} (h : Lng l) (c n : Int) (j : Nat) : (sg l c n)[258 + j]? = [Value.int .i64 c, .int .i64 n][j]? := by
  have := h.1
  rw [sg_at, sgl, List.getElem?_append_right (by rw [List.length_map]; omega), List.length_map, this, show 258 + j - 258 = j by omega]
theorem sg_c {l : List Int} (h : Lng l) (c n : Int) : (sg l c n)[258]? = some (.int .i64 c) := sg_num h c n 0
theorem sg_n {l : List Int} (h : Lng l) (c n : Int) : (sg l c n)[259]? = some (.int .i64 n) := sg_num h c n 1
theorem sg_all (l : List Int) (c n : Int) : (sg l c n).all (·.oneCell') = true := by
  rw [Array.all_eq_true_iff_forall_mem]
  intro v hv
  simp only [sg, sgl, List.mem_toArray, List.mem_append, List.mem_map] at hv
  rcases hv with ⟨z, _, rfl⟩ | hv
  · rfl
  · simp at hv
    rcases hv with rfl | rfl <;> rfl
theorem stI : (Try.prog.info? 34).map (·.size) = some 260 := by kernel_rfl
theorem stIk {l : List Int} (h : Lng l) (c n : Int) : (Try.prog.info? 34).map (·.size) = some (sg l c n).size := by rw [sg_size h]; exact stI
theorem stZ (w : World) : (zeroValue 34).run Try.prog w = .ok (.agg (sg zL 0 0)) w := by
  have h : (Try.prog.info? 34).map (fun i => (i.zero, i.size)) = some (some (.agg (sg zL 0 0)), 260) := by kernel_rfl
  exact (zero_of_info h).1 w
theorem sg_cells {w : World} {g : Nat} {t : TypeId} {fr : Nat × Nat} {l : List Int} {c n : Int} (hg : w.heap[g]? = some (.cells (sg l c n) t fr)) (h : Lng l) :
    w.cell? ⟨g, 258, none⟩ = some (.int .i64 c) ∧ w.cell? ⟨g, 259, none⟩ = some (.int .i64 n) := by
  refine ⟨?_, ?_⟩
  · rw [cell_of_row w g _ _ t fr hg, sg_c h]
  · rw [cell_of_row w g _ _ t fr hg, sg_n h]

/-! The table of entries. -/
def qgl (f : Nat → Int × Int) : List Value := (List.range 512).flatMap fun i => [.int .i64 (f i).1, .int .i64 (f i).2]
def qg (f : Nat → Int × Int) : Array Value := (qgl f).toArray
theorem flat_two (f : Nat → Int × Int) : ∀ m : Nat, ((List.range m).flatMap fun i => [Value.int .i64 (f i).1, .int .i64 (f i).2]).length = 2 * m
  | 0 => rfl
  | m + 1 => by
    rw [List.range_succ, List.flatMap_append, List.length_append, flat_two f m]
    simp
    omega
theorem flat_get (f : Nat → Int × Int) : ∀ m i : Nat, i < m → ((List.range m).flatMap fun i => [Value.int .i64 (f i).1, .int .i64 (f i).2])[2 * i]? = some (.int .i64 (f i).1) ∧ ((List.range m).flatMap fun i => [Value.int .i64 (f i).1, .int .i64 (f i).2])[2 * i + 1]? = some (.int .i64 (f i).2)
  | 0, i, h => by omega
  | m + 1, i, h => by
    have hl := flat_two f m
    rw [List.range_succ, List.flatMap_append]
    by_cases e : i < m
    · have := flat_get f m i e
      rw [List.getElem?_append_left (by omega), List.getElem?_append_left (by omega)]
      exact this
    · obtain rfl : i = m := by omega
      rw [List.getElem?_append_right (by omega), List.getElem?_append_right (by omega), hl, Nat.sub_self, show 2 * i + 1 - 2 * i = 1 by omega]
      exact ⟨rfl, rfl⟩
theorem qg_size (f : Nat → Int × Int) : (qg f).size = 1024 := by
  unfold qg qgl
  rw [List.size_toArray, flat_two]
theorem qg_cells {w : World} {g : Nat} {t : TypeId} {fr : Nat × Nat} {f : Nat → Int × Int} (hg : w.heap[g]? = some (.cells (qg f) t fr)) (i : Nat) (hi : i < 512) :
    w.cell? ⟨g, 2 * i, none⟩ = some (.int .i64 (f i).1) ∧ w.cell? ⟨g, 2 * i + 1, none⟩ = some (.int .i64 (f i).2) := by
  have h := flat_get f 512 i hi
  refine ⟨?_, ?_⟩
  · rw [cell_of_row w g _ _ t fr hg]
    show (qgl f).toArray[2 * i]? = _
    rw [List.getElem?_toArray]
    exact h.1
  · rw [cell_of_row w g _ _ t fr hg]
    show (qgl f).toArray[2 * i + 1]? = _
    rw [List.getElem?_toArray]
    exact h.2
theorem qg_all (f : Nat → Int × Int) : (qg f).all (·.oneCell') = true := by
  rw [Array.all_eq_true_iff_forall_mem]
  intro v hv
  simp only [qg, qgl, List.mem_toArray, List.mem_flatMap] at hv
  obtain ⟨i, _, hv⟩ := hv
  simp at hv
  rcases hv with rfl | rfl <;> rfl
theorem qgI : (Try.prog.info? 29).map (·.size) = some 1024 := by kernel_rfl
theorem qgIk (f : Nat → Int × Int) : (Try.prog.info? 29).map (·.size) = some (qg f).size := by rw [qg_size]; exact qgI
/-- The zero table. -/
def zQ : Nat → Int × Int := fun _ => (0, 0)
theorem qgZ (w : World) : (zeroValue 29).run Try.prog w = .ok (.agg (qg zQ)) w := by
  have h : (Try.prog.info? 29).map (fun i => (i.zero, i.size)) = some (some (.agg (qg zQ)), 1024) := by kernel_rfl
  exact (zero_of_info h).1 w
/-- What Quick gives at a number. -/
def quF (l : List Int) (i : Nat) : Int × Int := match fndQ l (i : Int) 258 with
  | some s => ((s : Int), l.getD s 0)
  | none => (0, 0)
end Go.Proofs.Ytbegpakjojiblab
