/- How an argument that is a slice of lengths is opened. -/
import Derived.Test.YtcekjibkifdchaaOl
import Derived.Test.YtcekjibkifdchaaOp
import Derived.Test.YtcekjibkifdchaaKrD
import Derived.Deep.Slices
set_option linter.unusedVariables false
set_option linter.unusedSimpArgs false
namespace Go.Proofs.Ytcekjibkifdchaa
open Go.RowKit Go.ChangeShapes Go.WideShapes Go.Deep

theorem listChoiceT {α : Type} {P : Nat → α → Prop} (n : Nat) (h : ∀ i, i < n → ∃ d, P i d) : ∃ D : List α, D.length = n ∧ ∀ i d, D[i]? = some d → P i d := by
  induction n with
  | zero => exact ⟨[], rfl, fun i d e => by simp at e⟩
  | succ n ih =>
    obtain ⟨D, hD, hP⟩ := ih (fun i hi => h i (by omega))
    obtain ⟨d, hd⟩ := h n (by omega)
    refine ⟨D ++ [d], by simp [hD], fun i e he => ?_⟩
    by_cases hi : i < n
    · exact hP i e (by rwa [List.getElem?_append_left (by omega)] at he)
    · by_cases hn : i = n
      · subst hn
        rw [List.getElem?_append_right (by omega), hD, Nat.sub_self] at he
        simp at he
        exact he ▸ hd
      · rw [List.getElem?_eq_none (by simp; omega)] at he
        cases he
theorem addr_noneT {w : World} {a : Addr} {v : Value} (h : w.cell? a = some v) : a = ⟨a.block, a.off, none⟩ := by
  obtain ⟨g, o, s⟩ := a
  cases s with
  | none => rfl
  | some n =>
    simp only [World.cell?] at h
    split at h <;> simp at h
section
variable {H : Type} {enc : TypeId × Value → H} {w : World} {base : Nat} {spare : Nat → Bool} {held : Bool}
theorem open_lngs {fuel : Nat} {cs : List Value} {x : DataW H × List MemPlace} (h : DataW.trod enc Try.prog w base spare held fuel 26 cs = some x) :
    ∃ (a : Option Addr) (len cap : Nat) (D : List (List Int)), cs = [.slice a len cap] ∧ len ≤ cap ∧ cap ≤ maxLen ∧ D.length = len ∧ LSrc w a D ∧ True := by
  rcases open_slice Try.underlying26 h with ⟨h0, _⟩ | ⟨a, len, cap, m, n, D, Pl, h0, _, h1, h2, h3, _, h4⟩
  · exact ⟨none, 0, 0, [], h0, by omega, by unfold maxLen; omega, rfl, ⟨fun l hl => by simp at hl, .inl rfl⟩, trivial⟩
  · have hm : len ≤ m := by rw [h3]; split <;> omega
    have k3 : Try.prog.cellsOf 23 = 258 := by kernel_rfl
    obtain ⟨L, hL, hP⟩ := listChoiceT (P := fun i (d : List Int) => (∀ j, j < 258 → w.cell? ((a.add (i * 258)).add j) = (lg d)[j]?) ∧ Lng d) len (fun i hi => by
      obtain ⟨cs', hc, ht⟩ := h4 i (by omega)
      rw [k3] at hc
      obtain ⟨_, hcl, hat⟩ := World.cells?_some hc
      obtain ⟨d, e, hok⟩ := open_lng ht
      subst e
      refine ⟨d, fun j hj => ?_, hok⟩
      rw [hat j hj, Array.getElem?_toList])
    refine ⟨some a, len, cap, L, h0, h1, h2, hL, ⟨fun l hl => ?_, ?_⟩, trivial⟩
    · obtain ⟨i, hi, rfl⟩ := List.getElem_of_mem hl
      exact (hP i _ (List.getElem?_eq_getElem hi)).2
    · by_cases hl : len = 0
      · exact .inl (List.eq_nil_of_length_eq_zero (by omega))
      · obtain ⟨d0, hd0⟩ : ∃ d, L[0]? = some d := ⟨L[0]'(by omega), List.getElem?_eq_getElem _⟩
        have hz := (hP 0 d0 hd0).1 0 (by omega)
        have e0 : (a.add (0 * 258)).add 0 = a := by simp [Addr.add]
        rw [e0, lg_get (hP 0 d0 hd0).2 0 (by omega)] at hz
        have ha := addr_noneT hz
        refine .inr ⟨a.block, a.off, by rw [← ha], fun i hi j v hv => ?_⟩
        have hLi : L[i]? = some (L.getD i []) := by rw [List.getD_eq_getElem?_getD, List.getElem?_eq_getElem hi]; rfl
        have hq := hP i _ hLi
        have hj : j < 258 := by
          have := (List.getElem?_eq_some_iff.1 hv).1
          rwa [Array.length_toList, lg_size hq.2] at this
        have q0 := hq.1 j hj
        rw [ha, add_lit, add_lit] at q0
        rw [q0, ← hv, Array.getElem?_toList]
end
end Go.Proofs.Ytcekjibkifdchaa
