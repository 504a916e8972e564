/- A row of pairs of integers in memory (any program); a box of two. -/
import Derived.Test.YtlbgnichgjancaaSoM
import Derived.Test.YtlbgnichgjancaaGen
import Derived.Laws.IdiomCopy
set_option linter.unusedVariables false
set_option linter.unusedSimpArgs false
namespace Go.Proofs.Ytlbgnichgjancaa
open Go.RowKit Go.Sort

/-- Block g holds the pairs d, a pair in two cells. -/
def Row (g n : Nat) (d : Array (Int × Int)) (w : World) : Prop :=
  d.size = n ∧ ∃ cs t, w.heap[g]? = some (.cells cs t (0, 0)) ∧ cs.size = n * 2 ∧ ∀ i, i < n → cs[i * 2]? = some (.int .i64 d[i]!.1) ∧ cs[i * 2 + 1]? = some (.int .i64 d[i]!.2)
theorem Row.ch {S : Nat → Prop} {g n : Nat} {d : Array (Int × Int)} {w w' : World} (h : Row g n d w) (hc : Ch S w w') (hn : ¬ S g) : Row g n d w' := by
  obtain ⟨hs, cs, t, h1, h2⟩ := h
  exact ⟨hs, cs, t, hc.heap h1 hn, h2⟩
theorem Row.on {g n : Nat} {d : Array (Int × Int)} {w w' : World} (h : Row g n d w) (hb : Below w.heap.size w w') : Row g n d w' := h.ch (Ch.of_below (S := fun _ => False) hb) (fun e => e)
theorem Row.lt {g n : Nat} {d : Array (Int × Int)} {w : World} (h : Row g n d w) : g < w.heap.size := by
  obtain ⟨hs, cs, t, h1, h2⟩ := h
  exact (Array.getElem?_eq_some_iff.1 h1).1
theorem Row.c0 {g n : Nat} {d : Array (Int × Int)} {w : World} (h : Row g n d w) (i : Nat) (hi : i < n) : w.cell? ⟨g, i * 2, none⟩ = some (.int .i64 d[i]!.1) := by
  obtain ⟨hs, cs, t, h1, h2, h3⟩ := h
  simp only [World.cell?, h1]
  simpa using (h3 i hi).1
theorem Row.c1 {g n : Nat} {d : Array (Int × Int)} {w : World} (h : Row g n d w) (i : Nat) (hi : i < n) : w.cell? ⟨g, i * 2 + 1, none⟩ = some (.int .i64 d[i]!.2) := by
  obtain ⟨hs, cs, t, h1, h2, h3⟩ := h
  simp only [World.cell?, h1]
  simpa using (h3 i hi).2
theorem Row.f {g n : Nat} {d : Array (Int × Int)} {w : World} (h : Row g n d w) (i : Nat) : w.frozen? ⟨g, i, none⟩ = false := by
  obtain ⟨hs, cs, t, h1, h2, h3⟩ := h
  simp [World.frozen?, h1]
theorem Row.set {g n : Nat} {d : Array (Int × Int)} {w : World} (h : Row g n d w) (i : Nat) (hi : i < n) (a b : Int) :
    Row g n (d.setIfInBounds i (a, b)) ((w.setCell ⟨g, i * 2, none⟩ (.int .i64 a)).setCell ⟨g, i * 2 + 1, none⟩ (.int .i64 b)) := by
  obtain ⟨hs, cs, t, h1, h2, h3⟩ := h
  refine ⟨by simpa using hs, (cs.setIfInBounds (i * 2) (.int .i64 a)).setIfInBounds (i * 2 + 1) (.int .i64 b), t, by simp [World.setCell, Array.getElem?_modify, h1], by simpa using h2, fun j hj => ?_⟩
  have hd : (d.setIfInBounds i (a, b))[j]! = if i = j then (a, b) else d[j]! := by
    rw [getElem!_def, getElem!_def, Array.getElem?_setIfInBounds]
    by_cases e : i = j
    · subst e; rw [if_pos rfl, if_pos (by omega), if_pos rfl]
    · rw [if_neg e, if_neg e]
  rw [hd]
  obtain ⟨e0, e1⟩ := h3 j hj
  rw [Array.getElem?_setIfInBounds, Array.getElem?_setIfInBounds, Array.getElem?_setIfInBounds, Array.getElem?_setIfInBounds, Array.size_setIfInBounds]
  by_cases e : i = j
  · subst e
    repeat' (first | rw [if_pos rfl] | rw [if_pos (by omega)] | rw [if_neg (by omega)])
    exact ⟨rfl, rfl⟩
  · repeat' (first | rw [if_neg e] | rw [if_neg (by omega)])
    exact ⟨e0, e1⟩

/-- A pair in a box of its own. -/
def TwoI (w : World) (g : Nat) (a b : Int) : Prop := ∃ t, w.heap[g]? = some (.cells #[.int .i64 a, .int .i64 b] t (0, 0))
theorem TwoI.on {w w' : World} {g : Nat} {a b : Int} (h : TwoI w g a b) (hb : Below w.heap.size w w') : TwoI w' g a b := h.elim fun t h => ⟨t, heap_on hb h⟩
theorem TwoI.c0 {w : World} {g : Nat} {a b : Int} (h : TwoI w g a b) : w.cell? ⟨g, 0, none⟩ = some (.int .i64 a) := by
  obtain ⟨t, h⟩ := h
  simp [World.cell?, h]
theorem TwoI.c1 {w : World} {g : Nat} {a b : Int} (h : TwoI w g a b) : w.cell? ⟨g, 1, none⟩ = some (.int .i64 b) := by
  obtain ⟨t, h⟩ := h
  simp [World.cell?, h]
theorem TwoI.f {w : World} {g : Nat} {a b : Int} (h : TwoI w g a b) (i : Nat) : w.frozen? ⟨g, i, none⟩ = false := by
  obtain ⟨t, h⟩ := h
  simp [World.frozen?, h]
theorem TwoI.set {w : World} {g : Nat} {a b : Int} (h : TwoI w g a b) (x y : Int) : TwoI ((w.setCell ⟨g, 0, none⟩ (.int .i64 x)).setCell ⟨g, 1, none⟩ (.int .i64 y)) g x y := by
  obtain ⟨t, h⟩ := h
  exact ⟨t, by simp [World.setCell, Array.getElem?_modify, h]⟩
theorem TwoI.other {w : World} {g q i : Nat} {a b : Int} (h : TwoI w g a b) (hq : q ≠ g) (v : Value) : TwoI (w.setCell ⟨q, i, none⟩ v) g a b :=
  h.elim fun t h => ⟨t, (Below.heap_setCell _ _ _ _ (by show g ≠ q; omega)).trans h⟩
theorem TwoI.new (w : World) (t : TypeId) (a b : Int) : TwoI (w.alloc (.cells #[.int .i64 a, .int .i64 b] t)) w.heap.size a b := ⟨t, heap_alloc_new w _⟩
/-- Two new boxes, then filled, the first made first or the second. -/
theorem TwoI.pair (w : World) (t : TypeId) (a b c e : Int) :
    let w2 := (w.alloc (.cells #[.int .i64 0, .int .i64 0] t)).alloc (.cells #[.int .i64 0, .int .i64 0] t)
    let w4 := (w2.setCell ⟨w.heap.size, 0, none⟩ (.int .i64 a)).setCell ⟨w.heap.size, 1, none⟩ (.int .i64 b)
    let w6 := (w4.setCell ⟨w.heap.size + 1, 0, none⟩ (.int .i64 c)).setCell ⟨w.heap.size + 1, 1, none⟩ (.int .i64 e)
    TwoI w6 w.heap.size a b ∧ TwoI w6 (w.heap.size + 1) c e ∧ Below w.heap.size w w6 := by
  intro w2 w4 w6
  have h1 : TwoI w2 w.heap.size 0 0 := ⟨t, heap_alloc2_old w _ _⟩
  have h2 : TwoI w2 (w.heap.size + 1) 0 0 := ⟨t, heap_alloc2_new w _ _⟩
  have hb : Below w.heap.size w w2 := ((Below.refl _ w).alloc (Nat.le_refl _) _).alloc (by simp) _
  exact ⟨((h1.set a b).other (by omega) _).other (by omega) _, ((h2.other (by omega) _).other (by omega) _).set c e, (((hb.setCell (p := ⟨_, 0, none⟩) (Nat.le_refl _) _).setCell (p := ⟨_, 1, none⟩) (Nat.le_refl _) _).setCell (p := ⟨_, 0, none⟩) (Nat.le_succ _) _).setCell (p := ⟨_, 1, none⟩) (Nat.le_succ _) _⟩
theorem TwoI.pair' (w : World) (t : TypeId) (a b c e : Int) :
    let w2 := (w.alloc (.cells #[.int .i64 0, .int .i64 0] t)).alloc (.cells #[.int .i64 0, .int .i64 0] t)
    let w4 := (w2.setCell ⟨w.heap.size + 1, 0, none⟩ (.int .i64 a)).setCell ⟨w.heap.size + 1, 1, none⟩ (.int .i64 b)
    let w6 := (w4.setCell ⟨w.heap.size, 0, none⟩ (.int .i64 c)).setCell ⟨w.heap.size, 1, none⟩ (.int .i64 e)
    TwoI w6 (w.heap.size + 1) a b ∧ TwoI w6 w.heap.size c e ∧ Below w.heap.size w w6 := by
  intro w2 w4 w6
  have h1 : TwoI w2 w.heap.size 0 0 := ⟨t, heap_alloc2_old w _ _⟩
  have h2 : TwoI w2 (w.heap.size + 1) 0 0 := ⟨t, heap_alloc2_new w _ _⟩
  have hb : Below w.heap.size w w2 := ((Below.refl _ w).alloc (Nat.le_refl _) _).alloc (by simp) _
  exact ⟨((h2.set a b).other (by omega) _).other (by omega) _, ((h1.other (by omega) _).other (by omega) _).set c e, (((hb.setCell (p := ⟨_, 0, none⟩) (Nat.le_succ _) _).setCell (p := ⟨_, 1, none⟩) (Nat.le_succ _) _).setCell (p := ⟨_, 0, none⟩) (Nat.le_refl _) _).setCell (p := ⟨_, 1, none⟩) (Nat.le_refl _) _⟩
end Go.Proofs.Ytlbgnichgjancaa
