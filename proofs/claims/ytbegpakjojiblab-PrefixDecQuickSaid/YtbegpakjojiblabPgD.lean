/- Quick's table: mathematics. -/
import Derived.Test.YtbegpakjojiblabPgC
set_option linter.unusedVariables false
set_option linter.unusedSimpArgs false
namespace Go.Proofs.Ytbegpakjojiblab
open Go.RowKit

/-- The table after the first k symbols. -/
def quK (l : List Int) (k : Nat) (i : Nat) : Int × Int := match fndQ l (i : Int) k with
  | some s => ((s : Int), l.getD s 0)
  | none => (0, 0)
theorem quK_all (l : List Int) : quK l 258 = quF l := rfl
theorem quK_zero (l : List Int) : quK l 0 = zQ := rfl
/-- The table while a symbol's entries are filled. -/
def quI (l : List Int) (k F j : Nat) (i : Nat) : Int × Int := if F ≤ i ∧ i < F + j then ((k : Int), l.getD k 0) else quK l k i
theorem quI_zero (l : List Int) (k F : Nat) : quI l k F 0 = quK l k := by
  funext i
  unfold quI
  rw [if_neg (by omega)]
theorem quK_no (l : List Int) (k : Nat) (h : ¬ (0 < l.getD k 0 ∧ l.getD k 0 ≤ 9)) : quK l k = quK l (k + 1) := by
  funext i
  have e : fndQ l (i : Int) (k + 1) = fndQ l (i : Int) k := if_neg fun hh => h ⟨hh.1, hh.2.1⟩
  unfold quK
  rw [e]
/-- A symbol's entries: the 9-bit numbers that begin with its code. -/
theorem quI_all {l : List Int} (h : VL l) {k m c : Nat} (hk : k < 258) (hm : l.getD k 0 = (m : Int)) (h0 : 0 < m) (h9 : m ≤ 9) (hc : cdL l k = (c : Int)) : quI l k (c * 2 ^ (9 - m)) (2 ^ (9 - m)) = quK l (k + 1) := by
  funext i
  have hp := Nat.two_pow_pos (9 - m)
  have e : fndQ l (i : Int) (k + 1) = if 0 < l.getD k 0 ∧ l.getD k 0 ≤ 9 ∧ cdL l k = (i : Int) / ((2 ^ (9 - l.getD k 0).toNat : Nat) : Int) then some k else fndQ l (i : Int) k := rfl
  have ht : ((9 : Int) - (m : Int)).toNat = 9 - m := by omega
  have hiff : (c * 2 ^ (9 - m) ≤ i ∧ i < c * 2 ^ (9 - m) + 2 ^ (9 - m)) ↔ c = i / 2 ^ (9 - m) := by
    constructor
    · rintro ⟨h1, h2⟩
      have h3 := (Nat.le_div_iff_mul_le hp).2 h1
      have h4 := (Nat.div_lt_iff_lt_mul hp).2 (show i < (c + 1) * 2 ^ (9 - m) by rw [Nat.add_mul, Nat.one_mul]; exact h2)
      omega
    · intro h1
      have h3 := (Nat.le_div_iff_mul_le hp).1 (Nat.le_of_eq h1)
      have h4 := (Nat.div_lt_iff_lt_mul hp).1 (show i / 2 ^ (9 - m) < c + 1 by omega)
      rw [Nat.add_mul, Nat.one_mul] at h4
      exact ⟨h3, h4⟩
  unfold quI
  by_cases hh : c = i / 2 ^ (9 - m)
  · rw [if_pos (hiff.2 hh)]
    unfold quK
    rw [e, if_pos ⟨by omega, by omega, by rw [hm, ht, hc, ← Int.natCast_ediv, ← hh]⟩]
  · rw [if_neg (fun hx => hh (hiff.1 hx))]
    unfold quK
    rw [e, if_neg]
    rintro ⟨_, _, h3⟩
    rw [hm, ht, hc, ← Int.natCast_ediv] at h3
    exact hh (by omega)
/-- One entry more. -/
def upQ (f : Nat → Int × Int) (i : Nat) (a b : Int) : Nat → Int × Int := fun j => if j = i then (a, b) else f j
theorem quI_step (l : List Int) (k F j : Nat) : upQ (quI l k F j) (F + j) (k : Int) (l.getD k 0) = quI l k F (j + 1) := by
  funext i
  unfold upQ quI
  by_cases e : i = F + j
  · rw [if_pos e, if_pos (by omega)]
  · rw [if_neg e]
    by_cases h1 : F ≤ i ∧ i < F + j
    · rw [if_pos h1, if_pos (by omega)]
    · rw [if_neg h1, if_neg (by omega)]
theorem qgl_at (f : Nat → Int × Int) (i : Nat) : (qgl f)[i]? = if i < 1024 then (if i % 2 = 0 then some (.int .i64 (f (i / 2)).1) else some (.int .i64 (f (i / 2)).2)) else none := by
  have hl : (qgl f).length = 1024 := flat_two f 512
  by_cases hi : i < 1024
  · rw [if_pos hi]
    have h := flat_get f 512 (i / 2) (by omega)
    by_cases he : i % 2 = 0
    · rw [if_pos he]
      have e : i = 2 * (i / 2) := by omega
      rw [← e] at h
      exact h.1
    · rw [if_neg he]
      have e : i = 2 * (i / 2) + 1 := by omega
      rw [← e] at h
      exact h.2
  · rw [if_neg hi]
    exact List.getElem?_eq_none (by omega)
theorem qg_up (f : Nat → Int × Int) (i : Nat) (hi : i < 512) (a b : Int) : ((qg f).setIfInBounds (2 * i) (.int .i64 a)).setIfInBounds (2 * i + 1) (.int .i64 b) = qg (upQ f i a b) := by
  apply Array.ext_getElem?
  intro j
  unfold qg
  rw [List.setIfInBounds_toArray, List.setIfInBounds_toArray, List.getElem?_toArray, List.getElem?_toArray, List.getElem?_set, List.getElem?_set, List.length_set, qgl_at, qgl_at, show (qgl f).length = 1024 from flat_two f 512]
  unfold upQ
  by_cases h1 : 2 * i + 1 = j
  · rw [if_pos h1, if_pos (by omega), if_pos (by omega), if_neg (by omega), if_pos (by omega)]
  · rw [if_neg h1]
    by_cases h2 : 2 * i = j
    · rw [if_pos h2, if_pos (by omega), if_pos (by omega), if_pos (by omega), if_pos (by omega)]
    · rw [if_neg h2]
      by_cases h3 : j < 1024
      · rw [if_pos h3, if_pos h3, if_neg (show ¬ j / 2 = i by omega)]
      · rw [if_neg h3, if_neg h3]
theorem cd_lt {l : List Int} (h : VL l) {k m : Nat} (hk : k < 258) (hm : l.getD k 0 = (m : Int)) (h0 : 0 < m) (h9 : m ≤ 9) : ∃ c : Nat, cdL l k = (c : Int) ∧ c * 2 ^ (9 - m) + 2 ^ (9 - m) ≤ 512 ∧ c < 512 := by
  refine ⟨codeV l k, cdL_nat h hk (by omega), ?_⟩
  have h1 := codeV_lt h hk (show 0 < l.getD k 0 by omega)
  have e : lnN l k = m := lnN_sym hm
  rw [e] at h1
  have h2 : (codeV l k + 1) * 2 ^ (9 - m) ≤ 2 ^ m * 2 ^ (9 - m) := Nat.mul_le_mul_right _ h1
  rw [← Nat.pow_add, show m + (9 - m) = 9 by omega, Nat.add_mul, Nat.one_mul] at h2
  have h3 : 2 ^ m ≤ 2 ^ 9 := Nat.pow_le_pow_right (by omega) h9
  omega
end Go.Proofs.Ytbegpakjojiblab
