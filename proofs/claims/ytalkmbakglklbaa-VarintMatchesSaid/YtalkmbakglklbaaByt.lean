/- Laws over any program with []byte: bytes, windows at a literal, facts that hold on. -/
import Derived.Test.YtalkmbakglklbaaList
import Derived.Test.YtalkmbakglklbaaWin
import Derived.Test.YtalkmbakglklbaaProg
set_option linter.unusedVariables false
set_option linter.unusedSimpArgs false
namespace Go.Proofs.Ytalkmbakglklbaa
open Go.RowKit Go.ChangeShapes Go.WideShapes Go.Deep

theorem sliceT : Try.prog.underlying 22 = some (.slice 5) := Try.underlying22
theorem byteI : (Try.prog.info? 5).map (fun i => (i.zero, i.size, i.bytes)) = some (some (.int .u8 0), 1, 1) := by kernel_rfl
/-- All are bytes. -/
def Byts (l : List Int) : Prop := ∀ x ∈ l, 0 ≤ x ∧ x ≤ 255
theorem Byts.take {l : List Int} (h : Byts l) (n : Nat) : Byts (l.take n) := fun x hx => h x (List.mem_of_mem_take hx)
theorem Byts.drop {l : List Int} (h : Byts l) (n : Nat) : Byts (l.drop n) := fun x hx => h x (List.mem_of_mem_drop hx)
theorem Byts.app {l m : List Int} (h : Byts l) (k : Byts m) : Byts (l ++ m) := fun x hx => by
  rcases List.mem_append.1 hx with hx | hx
  · exact h x hx
  · exact k x hx
theorem Byts.getD {l : List Int} (h : Byts l) (i : Nat) : 0 ≤ l.getD i 0 ∧ l.getD i 0 ≤ 255 := by
  by_cases hi : i < l.length
  · have := h _ (List.getElem_mem hi)
    simpa [List.getD_eq_getElem?_getD, hi] using this
  · simp [List.getD_eq_getElem?_getD, show l.length ≤ i by omega]
theorem Src.ch {S : Nat → Prop} {w w' : World} {k : IntKind} {sp : Option Addr} {l : List Int} (h : Src w k sp l) (hc : Ch S w w') (hn : 0 < l.length → ∀ x, sp = some x → ¬ S x.block) : Src w' k sp l := by
  rcases h with h | ⟨g, o, hx, hcl⟩
  · exact .inl h
  · exact .inr ⟨g, o, hx, fun j hj => hc.cell (hcl j hj) (hn (by omega) ⟨g, o, none⟩ hx)⟩
/-- A part of a slice that lies in memory from its beginning on, and the rest. -/
theorem Src.drop {w : World} {k : IntKind} {g o : Nat} {l : List Int} (h : Src w k (some ⟨g, o, none⟩) l) (n : Nat) : Src w k (some ⟨g, o + n, none⟩) (l.drop n) := by
  rcases h with rfl | ⟨g', o', e, hc⟩
  · exact .inl (by simp)
  · injection e with e
    injection e with e1 e2 _
    subst e1 e2
    refine .inr ⟨g, o + n, rfl, fun j hj => ?_⟩
    rw [List.length_drop] at hj
    have := hc (n + j) (by omega)
    rw [show o + n + j = o + (n + j) by omega, this]
    simp [List.getD_eq_getElem?_getD, List.getElem?_drop]
theorem IsRow.capMax {k : IntKind} {w : World} {a : Option Addr} {len cap : Nat} {zs : List Int} (h : IsRow k w a len cap zs) : cap ≤ maxLen := by
  rcases h with ⟨_, _, rfl, _⟩ | ⟨x, _, _, h2, _⟩
  · unfold maxLen; omega
  · exact h2
theorem heap_on {w w' : World} (hb : Below w.heap.size w w') {g : Nat} {o : Obj} (h : w.heap[g]? = some o) : w'.heap[g]? = some o :=
  (hb.block g (Array.getElem?_eq_some_iff.1 h).1).trans h
theorem cell_on {w w' : World} (hb : Below w.heap.size w w') {a : Addr} {v : Value} (h : w.cell? a = some v) : w'.cell? a = some v := (hb.cell (World.block_lt_of_cell? _ _ h)).trans h
theorem WinS.empty (w : World) (k : IntKind) (E : TypeId) : WinS (w.alloc (.cells #[] E)) k E (some ⟨w.heap.size, 0, none⟩) 0 [] :=
  .inr ⟨w.heap.size, 0, #[], rfl, heap_alloc_new w _, Nat.le_refl _, by unfold maxLen; omega, by simp, fun j hj => by simp at hj⟩
theorem WinS.lit {w : World} {k : IntKind} {E : TypeId} {g : Nat} {l : List Int} (h : w.heap[g]? = some (.cells (icells k l) E (0, 0))) (hm : l.length ≤ 1000000) : WinS w k E (some ⟨g, 0, none⟩) l.length l :=
  .inr ⟨g, 0, icells k l, rfl, h, Nat.le_refl _, by unfold maxLen; omega, by rw [icells_size]; omega, fun j hj => by
    rw [Nat.zero_add, icells_get]
    simp [List.getD_eq_getElem?_getD, hj]⟩
theorem WinS.take {w : World} {k : IntKind} {E : TypeId} {a : Option Addr} {c : Nat} {l : List Int} (h : WinS w k E a c l) (n : Nat) : WinS w k E a c (l.take n) := by
  rcases h with ⟨rfl, rfl, rfl⟩ | ⟨g, o, cur, rfl, h1, h2, h3, h4, h5⟩
  · exact .inl ⟨rfl, by simp, rfl⟩
  · refine .inr ⟨g, o, cur, rfl, h1, by rw [List.length_take]; omega, h3, h4, fun j hj => ?_⟩
    have hj' : j < n ∧ j < l.length := by
      rw [List.length_take] at hj
      omega
    rw [h5 j hj'.2]
    simp [List.getD_eq_getElem?_getD, List.getElem?_take, hj'.1]
end Go.Proofs.Ytalkmbakglklbaa
