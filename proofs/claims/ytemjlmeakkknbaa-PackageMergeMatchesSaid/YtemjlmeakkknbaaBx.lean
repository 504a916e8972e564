/- A box of an item: two cells. -/
import Derived.Test.YtemjlmeakkknbaaSoM
import Derived.Test.YtemjlmeakkknbaaGen
import Derived.Laws.IdiomCopy
set_option linter.unusedVariables false
set_option linter.unusedSimpArgs false
namespace Go.Proofs.Ytemjlmeakkknbaa
open Go.RowKit Go.Sort

/-- A pair in a box of its own. -/
def TwoI (w : World) (g : Nat) (a b : Int) : Prop := ∃ t, w.heap[g]? = some (.cells #[.int .i64 a, .int .u64 b] t (0, 0))
theorem TwoI.on {w w' : World} {g : Nat} {a b : Int} (h : TwoI w g a b) (hb : Below w.heap.size w w') : TwoI w' g a b := h.elim fun t h => ⟨t, heap_on hb h⟩
theorem TwoI.c0 {w : World} {g : Nat} {a b : Int} (h : TwoI w g a b) : w.cell? ⟨g, 0, none⟩ = some (.int .i64 a) := by
  obtain ⟨t, h⟩ := h
  simp [World.cell?, h]
theorem TwoI.c1 {w : World} {g : Nat} {a b : Int} (h : TwoI w g a b) : w.cell? ⟨g, 1, none⟩ = some (.int .u64 b) := by
  obtain ⟨t, h⟩ := h
  simp [World.cell?, h]
theorem TwoI.f {w : World} {g : Nat} {a b : Int} (h : TwoI w g a b) (i : Nat) : w.frozen? ⟨g, i, none⟩ = false := by
  obtain ⟨t, h⟩ := h
  simp [World.frozen?, h]
theorem TwoI.set {w : World} {g : Nat} {a b : Int} (h : TwoI w g a b) (x y : Int) : TwoI ((w.setCell ⟨g, 0, none⟩ (.int .i64 x)).setCell ⟨g, 1, none⟩ (.int .u64 y)) g x y := by
  obtain ⟨t, h⟩ := h
  exact ⟨t, by simp [World.setCell, Array.getElem?_modify, h]⟩
theorem TwoI.other {w : World} {g q i : Nat} {a b : Int} (h : TwoI w g a b) (hq : q ≠ g) (v : Value) : TwoI (w.setCell ⟨q, i, none⟩ v) g a b :=
  h.elim fun t h => ⟨t, (Below.heap_setCell _ _ _ _ (by show g ≠ q; omega)).trans h⟩
theorem TwoI.new (w : World) (t : TypeId) (a b : Int) : TwoI (w.alloc (.cells #[.int .i64 a, .int .u64 b] t)) w.heap.size a b := ⟨t, heap_alloc_new w _⟩
/-- Two new boxes, then filled, the first made first or the second. -/
theorem TwoI.pair (w : World) (t : TypeId) (a b c e : Int) :
    let w2 := (w.alloc (.cells #[.int .i64 0, .int .u64 0] t)).alloc (.cells #[.int .i64 0, .int .u64 0] t)
    let w4 := (w2.setCell ⟨w.heap.size, 0, none⟩ (.int .i64 a)).setCell ⟨w.heap.size, 1, none⟩ (.int .u64 b)
    let w6 := (w4.setCell ⟨w.heap.size + 1, 0, none⟩ (.int .i64 c)).setCell ⟨w.heap.size + 1, 1, none⟩ (.int .u64 e)
    TwoI w6 w.heap.size a b ∧ TwoI w6 (w.heap.size + 1) c e ∧ Below w.heap.size w w6 := by
  intro w2 w4 w6
  have h1 : TwoI w2 w.heap.size 0 0 := ⟨t, heap_alloc2_old w _ _⟩
  have h2 : TwoI w2 (w.heap.size + 1) 0 0 := ⟨t, heap_alloc2_new w _ _⟩
  have hb : Below w.heap.size w w2 := ((Below.refl _ w).alloc (Nat.le_refl _) _).alloc (by simp) _
  exact ⟨((h1.set a b).other (by omega) _).other (by omega) _, ((h2.other (by omega) _).other (by omega) _).set c e, (((hb.setCell (p := ⟨_, 0, none⟩) (Nat.le_refl _) _).setCell (p := ⟨_, 1, none⟩) (Nat.le_refl _) _).setCell (p := ⟨_, 0, none⟩) (Nat.le_succ _) _).setCell (p := ⟨_, 1, none⟩) (Nat.le_succ _) _⟩
theorem TwoI.pair' (w : World) (t : TypeId) (a b c e : Int) :
    let w2 := (w.alloc (.cells #[.int .i64 0, .int .u64 0] t)).alloc (.cells #[.int .i64 0, .int .u64 0] t)
    let w4 := (w2.setCell ⟨w.heap.size + 1, 0, none⟩ (.int .i64 a)).setCell ⟨w.heap.size + 1, 1, none⟩ (.int .u64 b)
    let w6 := (w4.setCell ⟨w.heap.size, 0, none⟩ (.int .i64 c)).setCell ⟨w.heap.size, 1, none⟩ (.int .u64 e)
    TwoI w6 (w.heap.size + 1) a b ∧ TwoI w6 w.heap.size c e ∧ Below w.heap.size w w6 := by
  intro w2 w4 w6
  have h1 : TwoI w2 w.heap.size 0 0 := ⟨t, heap_alloc2_old w _ _⟩
  have h2 : TwoI w2 (w.heap.size + 1) 0 0 := ⟨t, heap_alloc2_new w _ _⟩
  have hb : Below w.heap.size w w2 := ((Below.refl _ w).alloc (Nat.le_refl _) _).alloc (by simp) _
  exact ⟨((h2.set a b).other (by omega) _).other (by omega) _, ((h1.other (by omega) _).other (by omega) _).set c e, (((hb.setCell (p := ⟨_, 0, none⟩) (Nat.le_succ _) _).setCell (p := ⟨_, 1, none⟩) (Nat.le_succ _) _).setCell (p := ⟨_, 0, none⟩) (Nat.le_refl _) _).setCell (p := ⟨_, 1, none⟩) (Nat.le_refl _) _⟩
end Go.Proofs.Ytemjlmeakkknbaa
