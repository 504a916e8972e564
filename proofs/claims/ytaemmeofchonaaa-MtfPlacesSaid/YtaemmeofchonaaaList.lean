/- Lists read out of memory: a choice along a list; addresses that hold a cell. Over any program. -/
import Derived.Test.YtaemmeofchonaaaLib
import Derived.Deep.Slices
import Derived.Deep.Fields
import Derived.ChangeSame
set_option linter.unusedVariables false
set_option linter.unusedSimpArgs false
namespace Go.Proofs.Ytaemmeofchonaaa
open Go.RowKit Go.ChangeShapes Go.WideShapes Go.Deep

theorem listChoice {α : Type} {P : Nat → α → Prop} (n : Nat) (h : ∀ i, i < n → ∃ d, P i d) : ∃ D : List α, D.length = n ∧ ∀ i d, D[i]? = some d → P i d := by
  induction n with
  | zero => exact ⟨[], rfl, fun i d e => by simp at e⟩
  | succ n ih =>
    obtain ⟨D, hD, hP⟩ := ih (fun i hi => h i (by omega))
    obtain ⟨d, hd⟩ := h n (by omega)
    refine ⟨D ++ [d], by simp [hD], fun i e he => ?_⟩
    by_cases hi : i < n
    · exact hP i e (by rwa [List.getElem?_append_left (by omega)] at he)
    · by_cases hn : i = n
      · subst hn
        rw [List.getElem?_append_right (by omega), hD, Nat.sub_self] at he
        simp at he
        exact he ▸ hd
      · rw [List.getElem?_eq_none (by simp; omega)] at he
        cases he
theorem addr_none {w : World} {a : Addr} {v : Value} (h : w.cell? a = some v) : a = ⟨a.block, a.off, none⟩ := by
  obtain ⟨g, o, s⟩ := a
  cases s with
  | none => rfl
  | some n =>
    simp only [World.cell?] at h
    split at h <;> simp at h

section
variable {H : Type} {P : Program} {enc : TypeId × Value → H} {w : World} {base : Nat} {spare : Nat → Bool} {held : Bool}
/-- A slice of integers inside what came in. -/
theorem open_islice {n : Nat} {T E : TypeId} {k : IntKind} (hT : P.underlying T = some (.slice E)) (hE : P.underlying E = some (.int k)) (hc : P.cellsOf E = 1) {cs : List Value} {x : DataW H × List MemPlace} (h : DataW.trod enc P w base spare held n T cs = some x) :
    ∃ (a : Option Addr) (len cap : Nat) (l : List Int), cs = [.slice a len cap] ∧ len ≤ cap ∧ cap ≤ maxLen ∧ l.length = len ∧ Src w k a l ∧ ∀ x ∈ l, (Lit.int k x).wf = true := by
  have hrow : ∃ (a : Option Addr) (len cap cap' : Nat) (zs : List Int), cs = [.slice a len cap] ∧ len ≤ cap ∧ cap ≤ maxLen ∧ IsRow k w a len cap' zs := by
    rcases open_ints hT hE hc h with ⟨hcs, _⟩ | ⟨x, l, c, zs, hcs, _, hl, hm, hz, _, hcell, hwz⟩
    · exact ⟨none, 0, 0, 0, [], hcs, Nat.le_refl _, by unfold maxLen; omega, .inl ⟨rfl, rfl, rfl, rfl⟩⟩
    · exact ⟨some x, l, c, zs.length, zs, hcs, hl, hm, .inr ⟨_, rfl, by rw [hz]; split <;> omega, by rw [hz]; split <;> omega, rfl, hcell, hwz⟩⟩
  obtain ⟨a, len, cap, cap', zs, hcs, hl, hm, hr⟩ := hrow
  obtain ⟨h1, h2, h3, _, _⟩ := hr.src
  exact ⟨a, len, cap, zs.take len, hcs, hl, hm, h1, h2, h3⟩
end
end Go.Proofs.Ytaemmeofchonaaa
