/- Things of the reference in memory: slices of structs of four cells. -/
import Derived.Test.YtemjlmeakkknbaaCel
import Derived.Test.YtemjlmeakkknbaaRm
import Derived.Test.YtemjlmeakkknbaaProg
set_option linter.unusedVariables false
set_option linter.unusedSimpArgs false
namespace Go.Proofs.Ytemjlmeakkknbaa
open Go.RowKit

/-- A thing's cells: weight, symbol, one, two. -/
def thC (x : Th) : List Value := [.int .i64 x.1.2, .int .i64 x.1.1, .int .i64 x.2.1, .int .i64 x.2.2]
def thsC (l : List Th) : List Value := l.flatMap thC
theorem thC_len (x : Th) : (thC x).length = 4 := rfl
theorem thsC_len (l : List Th) : (thsC l).length = l.length * 4 := flat_length thC 4 thC_len l
theorem thsC_append (a b : List Th) : thsC (a ++ b) = thsC a ++ thsC b := List.flatMap_append
theorem thsC_at (l : List Th) (j i : Nat) (hj : j < l.length) (hi : i < 4) : (thsC l)[j * 4 + i]? = (thC l[j])[i]? := flat_get thC 4 thC_len l j i hj hi
theorem thsC_drop (l : List Th) (k : Nat) : (thsC l).drop (k * 4) = thsC (l.drop k) := flat_drop thC 4 thC_len l k
theorem thsC_take (l : List Th) (k : Nat) : (thsC l).take (k * 4) = thsC (l.take k) := flat_take thC 4 thC_len l k
theorem thsC_cell (l : List Th) : ∀ u ∈ thsC l, u.oneCell' = true := by
  intro u hu
  unfold thsC at hu
  rw [List.mem_flatMap] at hu
  obtain ⟨x, _, hx⟩ := hu
  unfold thC at hx
  simp only [List.mem_cons, List.not_mem_nil, or_false] at hx
  rcases hx with rfl | rfl | rfl | rfl <;> rfl
theorem thT : Try.prog.underlying 57 = some (.slice 59) := Try.underlying57
theorem thI : (Try.prog.info? 59).map (fun i => (i.zero, i.size, i.bytes)) = some (some (.agg #[.int .i64 0, .int .i64 0, .int .i64 0, .int .i64 0]), 4, 32) := by kernel_rfl

/-- A slice's things in memory. -/
def SrcT (w : World) (sp : Option Addr) (l : List Th) : Prop := CS w sp (thsC l)
theorem SrcT.nil (w : World) (sp : Option Addr) : SrcT w sp [] := .inl rfl
theorem SrcT.ch {S : Nat → Prop} {w w' : World} {sp : Option Addr} {l : List Th} (h : SrcT w sp l) (hc : Ch S w w') (hn : ∀ x, sp = some x → ¬ S x.block) : SrcT w' sp l := CS.ch h hc hn
theorem SrcT.on {w w' : World} {sp : Option Addr} {l : List Th} (h : SrcT w sp l) (hb : Below w.heap.size w w') : SrcT w' sp l := CS.on h hb
theorem SrcT.get {w : World} {g o : Nat} {l : List Th} (h : SrcT w (some ⟨g, o, none⟩) l) {j : Nat} (hj : j < l.length) :
    w.cell? ⟨g, o + j * 4, none⟩ = some (.int .i64 l[j].1.2) ∧ w.cell? ⟨g, o + j * 4 + 1, none⟩ = some (.int .i64 l[j].1.1) ∧ w.cell? ⟨g, o + j * 4 + 2, none⟩ = some (.int .i64 l[j].2.1) ∧ w.cell? ⟨g, o + j * 4 + 3, none⟩ = some (.int .i64 l[j].2.2) := by
  obtain ⟨g', o', hx, hc⟩ := CS.pos h (by rw [thsC_len]; omega)
  injection hx with hx
  injection hx with e1 e2 _
  subst e1 e2
  refine ⟨?_, ?_, ?_, ?_⟩
  · exact hc (j * 4) _ (thsC_at l j 0 hj (by omega))
  · rw [Nat.add_assoc]; exact hc (j * 4 + 1) _ (thsC_at l j 1 hj (by omega))
  · rw [Nat.add_assoc]; exact hc (j * 4 + 2) _ (thsC_at l j 2 hj (by omega))
  · rw [Nat.add_assoc]; exact hc (j * 4 + 3) _ (thsC_at l j 3 hj (by omega))
theorem SrcT.some {w : World} {sp : Option Addr} {l : List Th} (h : SrcT w sp l) (hl : 0 < l.length) : ∃ g o, sp = .some ⟨g, o, none⟩ ∧ g < w.heap.size := CS.lt h (by rw [thsC_len]; omega)
theorem SrcT.take {w : World} {sp : Option Addr} {l : List Th} (h : SrcT w sp l) (n : Nat) : SrcT w sp (l.take n) := by
  have := CS.take h (n * 4)
  rw [thsC_take] at this
  exact this
/-- The rest of a slice, as the language cuts it. -/
theorem SrcT.rest {w : World} {g o c : Nat} {l : List Th} (h : SrcT w (Option.some ⟨g, o, none⟩) l) (k : Nat) (hc : l.length ≤ c) : SrcT w (if c = k then Option.some ⟨g, o, none⟩ else Option.some ⟨g, o + k * 4, none⟩) (l.drop k) := by
  by_cases e : c = k
  · rw [List.drop_eq_nil_of_le (by omega)]
    exact SrcT.nil _ _
  · rw [if_neg e]
    have := CS.drop h (k * 4)
    rw [thsC_drop] at this
    exact this

/-- A slice of things of the call's own. -/
def OwnT (w : World) (A : Option Nat) (c : Nat) (l : List Th) : Prop := OwnC w 59 4 A c l.length (thsC l)
theorem OwnT.nil (w : World) : OwnT w none 0 [] := OwnC.nil _ _ _
theorem OwnT.src {w : World} {A : Option Nat} {c : Nat} {l : List Th} (h : OwnT w A c l) : SrcT w (ad0 A) l := OwnC.src h
theorem OwnT.ch {S : Nat → Prop} {w w' : World} {A : Option Nat} {c : Nat} {l : List Th} (h : OwnT w A c l) (hc : Ch S w w') (hn : ∀ g, A = some g → ¬ S g) : OwnT w' A c l := OwnC.ch h hc hn
theorem OwnT.on {w w' : World} {A : Option Nat} {c : Nat} {l : List Th} (h : OwnT w A c l) (hb : Below w.heap.size w w') : OwnT w' A c l := OwnC.on h hb
theorem OwnT.cap {w : World} {A : Option Nat} {c : Nat} {l : List Th} (h : OwnT w A c l) : l.length ≤ c ∧ c ≤ maxLen := OwnC.cap h
theorem OwnT.lt {w : World} {A : Option Nat} {c : Nat} {l : List Th} (h : OwnT w A c l) {g : Nat} (hg : A = some g) : g < w.heap.size := OwnC.lt h hg
theorem OwnT.pos {w : World} {A : Option Nat} {c : Nat} {l : List Th} (h : OwnT w A c l) (hl : 0 < l.length) : ∃ g, A = some g := by
  cases A with
  | none =>
    have := (OwnC.isNone h).1
    omega
  | some g => exact ⟨g, rfl⟩
theorem OwnT.app {w : World} {A : Option Nat} {c n m : Nat} {q p : List Th} (h : OwnC w 59 4 A c (n + m) (thsC q ++ thsC p)) (hn : n = q.length) (hm : m = p.length) : OwnT w A c (q ++ p) := by
  unfold OwnT
  rw [List.length_append, thsC_append, ← hn, ← hm]
  exact h
/-- Things made by the call. -/
structure NewT (w w' : World) (A : Option Nat) (c : Nat) (q : List Th) : Prop where
  own : OwnT w' A c q
  new : ∀ g, A = some g → w.heap.size ≤ g
  bel : Below w.heap.size w w'
theorem NewT.on {w w' w'' : World} {A : Option Nat} {c : Nat} {q : List Th} (h : NewT w w' A c q) (hb : Below w'.heap.size w' w'') : NewT w w'' A c q :=
  ⟨h.own.on hb, h.new, h.bel.trans (hb.mono h.bel.size)⟩
/-- The fresh slice after an append. -/
theorem fresh_app {w w1 : World} {A A' : Option Nat} (hn : ∀ g, A = some g → w.heap.size ≤ g) (hb : w.heap.size ≤ w1.heap.size) (h3 : A' = A ∨ A' = some w1.heap.size) : ∀ g, A' = some g → w.heap.size ≤ g := fun g e => by
  rcases h3 with h3 | h3
  · exact hn g (h3 ▸ e)
  · rw [h3] at e
    injection e with e
    subst e
    exact hb
end Go.Proofs.Ytemjlmeakkknbaa
