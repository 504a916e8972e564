/- Tallies: what is added (mathematics). -/
import Derived.Test.YtlbgnichgjancaaHgS
set_option linter.unusedVariables false
set_option linter.unusedSimpArgs false
namespace Go.Proofs.Ytlbgnichgjancaa
open Go.RowKit

/-- All are symbols. -/
def Sy (q : List Int) : Prop := ∀ z ∈ q, 0 ≤ z ∧ z < 258
instance (q : List Int) : Decidable (Sy q) := inferInstanceAs (Decidable (∀ z ∈ q, 0 ≤ z ∧ z < 258))
def inc (l : List Int) (z : Int) : List Int := l.set z.toNat (l.getD z.toNat 0 + 1)
def addN (l q : List Int) : List Int := q.foldl inc l
theorem addN_nil (l : List Int) : addN l [] = l := rfl
theorem addN_app (l q r : List Int) : addN l (q ++ r) = addN (addN l q) r := List.foldl_append
theorem addN_one (l : List Int) (z : Int) : addN l [z] = inc l z := rfl
theorem inc_length (l : List Int) (z : Int) : (inc l z).length = l.length := List.length_set
theorem addN_length (l q : List Int) : (addN l q).length = l.length := by
  induction q generalizing l with
  | nil => rfl
  | cons z q ih => exact (ih (inc l z)).trans (inc_length l z)
theorem inc_get (l : List Int) (z : Int) (i : Nat) (hi : i < l.length) : (inc l z).getD i 0 = l.getD i 0 + (if z.toNat = i then 1 else 0) := by
  unfold inc
  rw [List.getD_eq_getElem?_getD, List.getElem?_set]
  by_cases h : z.toNat = i
  · subst h
    rw [if_pos rfl, if_pos hi, if_pos rfl]
    rfl
  · rw [if_neg h, if_neg h, ← List.getD_eq_getElem?_getD]
    omega
/-- How often i occurs. -/
def cntN (q : List Int) (i : Nat) : Nat := q.countP fun z => z.toNat == i
theorem addN_get (l q : List Int) (i : Nat) (hi : i < l.length) : (addN l q).getD i 0 = l.getD i 0 + cntN q i := by
  induction q generalizing l with
  | nil => simp [addN, cntN]
  | cons z q ih =>
    show (addN (inc l z) q).getD i 0 = _
    rw [ih (inc l z) (by rw [inc_length]; exact hi), inc_get l z i hi]
    simp only [cntN, List.countP_cons, beq_iff_eq]
    split <;> simp <;> omega
theorem cntN_le (q : List Int) (i : Nat) : cntN q i ≤ q.length := List.countP_le_length
theorem ext_getD {l m : List Int} (h : l.length = m.length) (hg : ∀ i, i < l.length → l.getD i 0 = m.getD i 0) : l = m := by
  apply List.ext_getElem h
  intro i h1 h2
  have := hg i h1
  simpa [List.getD_eq_getElem?_getD, h1, h2] using this
theorem addN_perm {l q r : List Int} (h : q.Perm r) : addN l q = addN l r := by
  refine ext_getD (by rw [addN_length, addN_length]) fun i hi => ?_
  rw [addN_length] at hi
  rw [addN_get l q i hi, addN_get l r i hi, cntN, cntN, h.countP_eq]
theorem addN_mono (l q : List Int) (i : Nat) (hi : i < l.length) : l.getD i 0 ≤ (addN l q).getD i 0 := by
  rw [addN_get l q i hi]
  omega
theorem set_sum (l : List Int) (i : Nat) (hi : i < l.length) (x : Int) : (l.set i x).sum = l.sum - l.getD i 0 + x := by
  induction l generalizing i with
  | nil => simp at hi
  | cons a l ih =>
    cases i with
    | zero => simp; omega
    | succ i =>
      have := ih i (by simpa using hi)
      simp only [List.set_cons_succ, List.sum_cons, this, List.getD_cons_succ]
      omega
theorem inc_sum (l : List Int) (z : Int) (h : z.toNat < l.length) : (inc l z).sum = l.sum + 1 := by
  unfold inc
  rw [set_sum l _ h]
  omega
theorem addN_sum (l q : List Int) (h : l.length = 258) (hq : Sy q) : (addN l q).sum = l.sum + q.length := by
  induction q generalizing l with
  | nil => simp [addN]
  | cons z q ih =>
    have hz := hq z (by simp)
    show (addN (inc l z) q).sum = _
    rw [ih (inc l z) (by rw [inc_length]; exact h) (fun y hy => hq y (by simp [hy])), inc_sum l z (by omega), List.length_cons]
    omega
theorem addN_tal {l : List Int} (h : l.length = 258) (hv : VT l) (q : List Int) (hq : q.length ≤ 1000000) : Tal (addN l q) := by
  refine ⟨(addN_length l q).trans h, fun z hz => ?_⟩
  obtain ⟨i, hi, rfl⟩ := List.getElem_of_mem hz
  rw [addN_length] at hi
  have h1 := addN_get l q i hi
  have h2 := hv.get i
  have h3 := cntN_le q i
  rw [List.getD_eq_getElem?_getD, List.getElem?_eq_getElem (by rw [addN_length]; exact hi), Option.getD_some] at h1
  exact WalkArith.wf_i64 ⟨by omega, by omega⟩
/-- What is returned. -/
def addOk (l q : List Int) : Prop := VT l ∧ Sy q ∧ VT (addN l q)
instance (l q : List Int) : Decidable (addOk l q) := inferInstanceAs (Decidable (_ ∧ _ ∧ _))
def addV (l q : List Int) : List Int := if addOk l q then addN l q else l
def addE (l q : List Int) : Int := if addOk l q then 0 else 2
theorem addV_tal {l : List Int} (h : Tal l) (q : List Int) (hq : q.length ≤ 1000000) : Tal (addV l q) := by
  unfold addV
  split
  · rename_i ho
    exact addN_tal h.1 ho.1 q hq
  · exact h
theorem add_yes {l q : List Int} (h : addOk l q) : addV l q = addN l q ∧ addE l q = 0 := ⟨if_pos h, if_pos h⟩
theorem add_no {l q : List Int} (h : ¬ addOk l q) : addV l q = l ∧ addE l q = 2 := ⟨if_neg h, if_neg h⟩
/-- A number that is no symbol. -/
theorem addOk_stranger {l q : List Int} (k : Nat) (hk : k < q.length) (h : q.getD k 0 < 0 ∨ 258 ≤ q.getD k 0) : ¬ addOk l q := by
  rintro ⟨_, hs, _⟩
  have := hs _ (List.getElem_mem hk)
  simp only [List.getD_eq_getElem?_getD, List.getElem?_eq_getElem hk, Option.getD_some] at h
  omega
theorem take_step (q : List Int) (k : Nat) (hk : k < q.length) : q.take (k + 1) = q.take k ++ [q.getD k 0] := by
  rw [List.take_add_one, List.getElem?_eq_getElem hk]
  simp [List.getD_eq_getElem?_getD, hk]
theorem addN_step (l q : List Int) (k : Nat) (hk : k < q.length) : addN l (q.take (k + 1)) = inc (addN l (q.take k)) (q.getD k 0) := by
  rw [take_step q k hk, addN_app, addN_one]
/-- A frequency that is at its end. -/
theorem addOk_full {l q : List Int} (hl : l.length = 258) (k : Nat) (hk : k < q.length) (hz : 0 ≤ q.getD k 0 ∧ q.getD k 0 < 258) (h : (addN l (q.take k)).getD (q.getD k 0).toNat 0 = 2147483647) : ¬ addOk l q := by
  rintro ⟨_, _, hv⟩
  have h1 := addN_step l q k hk
  have h2 : addN l q = addN (addN l (q.take (k + 1))) (q.drop (k + 1)) := by rw [← addN_app, List.take_append_drop]
  have h3 := addN_mono (addN l (q.take (k + 1))) (q.drop (k + 1)) (q.getD k 0).toNat (by rw [addN_length]; omega)
  rw [← h2, h1, inc_get _ _ _ (by rw [addN_length]; omega), if_pos rfl, h] at h3
  have := hv.get (q.getD k 0).toNat
  omega
theorem sy_step {q : List Int} {k : Nat} (hk : k < q.length) (h : Sy (q.take k)) (hz : 0 ≤ q.getD k 0 ∧ q.getD k 0 < 258) : Sy (q.take (k + 1)) := by
  rw [take_step q k hk]
  intro z hz'
  rcases List.mem_append.1 hz' with h1 | h1
  · exact h z h1
  · rw [List.mem_singleton.1 h1]
    exact hz
theorem vt_inc {l : List Int} (hl : VT l) (z : Int) (hf : l.getD z.toNat 0 ≠ 2147483647) : VT (inc l z) := by
  intro x hx
  have hb := hl.get z.toNat
  rcases List.mem_or_eq_of_mem_set hx with hx | rfl
  · exact hl x hx
  · omega
theorem vt_step {l q : List Int} {k : Nat} (hk : k < q.length) (h : VT (addN l (q.take k))) (hf : (addN l (q.take k)).getD (q.getD k 0).toNat 0 ≠ 2147483647) : VT (addN l (q.take (k + 1))) := by
  rw [addN_step l q k hk]
  exact vt_inc h _ hf
end Go.Proofs.Ytlbgnichgjancaa
