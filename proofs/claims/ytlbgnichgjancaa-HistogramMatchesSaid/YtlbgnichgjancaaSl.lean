/- sort.Slice at Ranks' own call, over what pdqsort_func gives. -/
import Derived.Test.YtlbgnichgjancaaRk
import Derived.Shelf.GgSortFunc.Slice
import Derived.Shelf.Lay
set_option linter.unusedVariables false
set_option linter.unusedSimpArgs false
namespace Go.Proofs.Ytlbgnichgjancaa
open Go.RowKit Go.Sort Go.Lib Go.Shelf

shelf_lay LaysGg.n6 Ggs 6 at Try as rkL

/-- Which literal Swapper hands back, what it is bound to. -/
def rkF (n : Nat) : Nat := if n = 0 then 31 else if n = 1 then 32 else 39
noncomputable def rkB (g n : Nat) : Array Value := if n ≤ 1 then #[] else #[.slice (some ⟨g, 0, none⟩) n n, typeHandle Try.prog 45]
theorem rkK (n : Nat) : Lib.swapperK n rkE 25 = if n = 0 then 1 else if n = 1 then 2 else 9 := by
  have a : rkE.hasPointers = false := by kernel_rfl
  have b : rkE.bytes = 16 := by kernel_rfl
  simp only [Lib.swapperK, a, b, beq_iff_eq, Bool.false_and, Bool.false_eq_true, if_false]
theorem rkFind (n : Nat) : Try.prog.funcs.findIdx? (·.name == "internal/reflectlite" ++ ".Swapper$" ++ toString (Lib.swapperK n rkE 25)) = some (rkF n) := by
  rw [rkK]
  unfold rkF
  by_cases h0 : n = 0
  · rw [if_pos h0, if_pos h0]; kernel_rfl
  · rw [if_neg h0, if_neg h0]
    by_cases h1 : n = 1
    · rw [if_pos h1, if_pos h1]; kernel_rfl
    · rw [if_neg h1, if_neg h1]; kernel_rfl
theorem rkBound (g n : Nat) : sliceBound Try.prog 45 rkE 25 (some ⟨g, 0, none⟩) n n = rkB g n := by
  unfold sliceBound rkB
  rw [rkK]
  by_cases h0 : n = 0
  · rw [if_pos h0, if_pos (by omega), if_pos (by omega)]
  · rw [if_neg h0]
    by_cases h1 : n = 1
    · rw [if_pos h1, if_pos (by omega), if_pos (by omega)]
    · rw [if_neg h1, if_neg (by omega), if_neg (by omega)]

/-- What is asked of pdqsort_func: that it sorts the row. -/
def PdqOk (n : Nat) : Prop := ∀ (g pv : Nat) (d : Array (Int × Int)) (w : World), RI g n pv d w →
  Calls Try.prog 30 #[.agg #[.func (.func 25) #[] #[.pointer (some ⟨pv, 0, none⟩)], .func (.func (rkF n)) #[] (rkB g n)], .int .i64 0, .int .i64 n, .int .i64 (Lib.bitLen n)] w fun e w' =>
    e = .returned (.tuple #[]) ∧ ∃ d', On g w w' ∧ RI g n pv d' w' ∧ PermIn 0 n d d' ∧ SortedIn rlt 0 n d'

theorem slice_call (g n pv : Nat) (d : Array (Int × Int)) (w : World) (h : RI g n pv d w) (hn : n ≤ 1000000) (hp : PdqOk n) :
    Calls Try.prog 24 #[.iface 43 (.slice (some ⟨g, 0, none⟩) n n), .func (.func 25) #[] #[.pointer (some ⟨pv, 0, none⟩)]] w fun e w' =>
      e = .returned (.tuple #[]) ∧ ∃ d', On g w w' ∧ RI g n pv d' w' ∧ PermIn 0 n d d' ∧ SortedIn rlt 0 n d' := by
  refine Any.sort_Slice_of_pdq rkL 43 45 rkT rkE (by kernel_rfl) (by kernel_rfl) (by kernel_rfl) (by kernel_rfl) 25 (fun _ => by kernel_rfl) (some ⟨g, 0, none⟩) n n (by omega) (rkF n) (rkFind n) _ _ _ w _ ?_
  rw [rkBound]
  have hsm : Sm w (sliceWorld Try.prog rkL_ren 43 (some ⟨g, 0, none⟩) n n w) := by
    unfold sliceWorld
    exact ((Ch.refl _ w).alloc _).alloc _
  generalize sliceWorld Try.prog rkL_ren 43 (some ⟨g, 0, none⟩) n n w = w1 at hsm ⊢
  refine (hp g pv d w1 (h.sm hsm)).mono ?_
  rintro e w' ⟨rfl, d', h1, h2, h3, h4⟩
  exact ⟨rfl, d', hsm.on.trans h1, h2, h3, h4⟩
end Go.Proofs.Ytlbgnichgjancaa
