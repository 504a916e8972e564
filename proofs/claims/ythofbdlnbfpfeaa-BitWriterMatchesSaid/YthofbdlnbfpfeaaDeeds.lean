/- A slice of operations that came in: read as a list. -/
import Derived.Test.YthofbdlnbfpfeaaBwDoes
import Derived.Deep.Slices
import Derived.Deep.Fields
import Derived.ChangeSame
set_option linter.unusedVariables false
set_option linter.unusedSimpArgs false
namespace Go.Proofs.Ythofbdlnbfpfeaa
open Go.RowKit Go.ChangeShapes Go.WideShapes Go.Deep

theorem listChoice {α : Type} {P : Nat → α → Prop} (n : Nat) (h : ∀ i, i < n → ∃ d, P i d) : ∃ D : List α, D.length = n ∧ ∀ i d, D[i]? = some d → P i d := by
  induction n with
  | zero => exact ⟨[], rfl, fun i d e => by simp at e⟩
  | succ n ih =>
    obtain ⟨D, hD, hP⟩ := ih (fun i hi => h i (by omega))
    obtain ⟨d, hd⟩ := h n (by omega)
    refine ⟨D ++ [d], by simp [hD], fun i e he => ?_⟩
    by_cases hi : i < n
    · exact hP i e (by rwa [List.getElem?_append_left (by omega)] at he)
    · by_cases hn : i = n
      · subst hn
        rw [List.getElem?_append_right (by omega), hD, Nat.sub_self] at he
        simp at he
        exact he ▸ hd
      · rw [List.getElem?_eq_none (by simp; omega)] at he
        cases he
theorem addr_none {w : World} {a : Addr} {v : Value} (h : w.cell? a = some v) : a = ⟨a.block, a.off, none⟩ := by
  obtain ⟨g, o, s⟩ := a
  cases s with
  | none => rfl
  | some n =>
    simp only [World.cell?] at h
    split at h <;> simp at h

section
variable {H : Type} {enc : TypeId × Value → H} {w : World} {base : Nat} {spare : Nat → Bool} {held : Bool}
theorem open_deed {n : Nat} {cs : List Value} {x : DataW H × List MemPlace} (hl : cs.length = 3) (h : DataW.trod enc Try.prog w base spare held n 35 cs = some x) :
    ∃ d : Deed, cs = [.int .u32 d.v, .int .i64 d.wd, .bool d.pad] ∧ okDeed d := by
  obtain ⟨xs, m, _, _, _, hx, hf⟩ := DataW.trod_struct Try.underlying35 h
  match cs, hl with
  | [c0, c1, c2], _ =>
    have h0 : DataW.trod enc Try.prog w base spare held m 33 ((([c0, c1, c2] : List Value).drop 0).take (Try.prog.cellsOf 33)) = xs[0]? := hf 0 _ rfl
    have h1 : DataW.trod enc Try.prog w base spare held m 3 ((([c0, c1, c2] : List Value).drop 1).take (Try.prog.cellsOf 3)) = xs[1]? := hf 1 _ rfl
    have h2 : DataW.trod enc Try.prog w base spare held m 4 ((([c0, c1, c2] : List Value).drop 2).take (Try.prog.cellsOf 4)) = xs[2]? := hf 2 _ rfl
    have k0 : Try.prog.cellsOf 33 = 1 := by kernel_rfl
    have k1 : Try.prog.cellsOf 3 = 1 := by kernel_rfl
    have k2 : Try.prog.cellsOf 4 = 1 := by kernel_rfl
    rw [k0] at h0
    rw [k1] at h1
    rw [k2] at h2
    match xs, hx with
    | [y0, y1, y2], _ =>
      obtain ⟨v, e0, _, w0⟩ := DataW.trod_int Try.underlying33 h0
      obtain ⟨wd, e1, _, w1⟩ := DataW.trod_int Try.underlying3 h1
      obtain ⟨b, e2, _⟩ := DataW.trod_bool Try.underlying4 h2
      simp at e0 e1 e2
      subst e0 e1 e2
      have b0 := bounds_u32 w0
      have b1 := bounds_i64 w1
      exact ⟨⟨v, wd, b⟩, rfl, b0.1, b0.2, b1.1, b1.2⟩

theorem open_deeds {fuel : Nat} {cs : List Value} {x : DataW H × List MemPlace} (h : DataW.trod enc Try.prog w base spare held fuel 22 cs = some x) :
    ∃ (a : Option Addr) (len cap : Nat) (D : List Deed), cs = [.slice a len cap] ∧ len ≤ cap ∧ cap ≤ maxLen ∧ D.length = len ∧ DSrc w a D ∧ ∀ d ∈ D, okDeed d := by
  rcases open_slice Try.underlying22 h with ⟨h0, _⟩ | ⟨a, len, cap, m, n, D, Pl, h0, _, h1, h2, h3, _, h4⟩
  · exact ⟨none, 0, 0, [], h0, by omega, by unfold maxLen; omega, rfl, .inl rfl, by simp⟩
  · have hm : len ≤ m := by rw [h3]; split <;> omega
    have k3 : Try.prog.cellsOf 35 = 3 := by kernel_rfl
    obtain ⟨L, hL, hP⟩ := listChoice (P := fun i (d : Deed) => (∀ j u, [Value.int .u32 d.v, .int .i64 d.wd, .bool d.pad][j]? = some u → w.cell? ((a.add (i * 3)).add j) = some u) ∧ okDeed d) len (fun i hi => by
      obtain ⟨cs', hc, ht⟩ := h4 i (by omega)
      rw [k3] at hc
      obtain ⟨_, hcl, hat⟩ := World.cells?_some hc
      obtain ⟨d, e, hok⟩ := open_deed hcl ht
      subst e
      refine ⟨d, fun j u hu => ?_, hok⟩
      have hj : j < 3 := by have := (List.getElem?_eq_some_iff.1 hu).1; simpa using this
      rw [hat j hj]
      exact hu)
    refine ⟨some a, len, cap, L, h0, h1, h2, hL, ?_, fun d hd => ?_⟩
    · by_cases hl : len = 0
      · exact .inl (List.eq_nil_of_length_eq_zero (by omega))
      · obtain ⟨d0, hd0⟩ : ∃ d, L[0]? = some d := ⟨L[0]'(by omega), List.getElem?_eq_getElem _⟩
        have hz := (hP 0 d0 hd0).1 0 _ rfl
        have e0 : (a.add (0 * 3)).add 0 = a := by simp [Addr.add]
        rw [e0] at hz
        have ha := addr_none hz
        refine .inr ⟨a.block, a.off, by rw [← ha], fun j d hj => ?_⟩
        have hq := (hP j d hj).1
        rw [ha] at hq
        have q0 := hq 0 _ rfl
        have q1 := hq 1 _ rfl
        have q2 := hq 2 _ rfl
        rw [add_lit, add_lit] at q0 q1 q2
        exact ⟨q0, q1, q2⟩
    · obtain ⟨i, hi, rfl⟩ := List.getElem_of_mem hd
      exact (hP i _ (List.getElem?_eq_getElem hi)).2
end
end Go.Proofs.Ythofbdlnbfpfeaa
