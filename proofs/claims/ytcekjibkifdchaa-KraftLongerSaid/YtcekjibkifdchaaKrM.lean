/- Mathematics of the weights. -/
import Derived.Test.YtcekjibkifdchaaKrB
set_option linter.unusedVariables false
set_option linter.unusedSimpArgs false
namespace Go.Proofs.Ytcekjibkifdchaa
open Go.RowKit

theorem ks_set : ∀ (l : List Int) (s : Nat) (hs : s < l.length) (z : Int), ks (l.set s z) = ks l - wt (l.getD s 0) + wt z
  | [], s, hs, _ => by simp at hs
  | a :: l, 0, _, z => by
    simp only [ks, List.set_cons_zero, List.map_cons, List.sum_cons, List.getD_cons_zero]
    omega
  | a :: l, s + 1, hs, z => by
    have ih := ks_set l s (by simpa using hs) z
    simp only [ks, List.set_cons_succ, List.map_cons, List.sum_cons, List.getD_cons_succ] at ih ⊢
    omega
/-- 32768 shifted to the right. -/
theorem wt_half {n : Nat} (h1 : 1 ≤ n) (h2 : n ≤ 14) : wt n = 2 * wt ((n : Int) + 1) ∧ wt ((n : Int) + 1) = 32768 / 2 ^ (n + 1) ∧ 0 < wt ((n : Int) + 1) ∧ wt ((n : Int) + 1) ≤ 16384 := by
  have : n = 1 ∨ n = 2 ∨ n = 3 ∨ n = 4 ∨ n = 5 ∨ n = 6 ∨ n = 7 ∨ n = 8 ∨ n = 9 ∨ n = 10 ∨ n = 11 ∨ n = 12 ∨ n = 13 ∨ n = 14 := by omega
  rcases this with rfl | rfl | rfl | rfl | rfl | rfl | rfl | rfl | rfl | rfl | rfl | rfl | rfl | rfl <;> decide
theorem wt_twice {n : Nat} (h1 : 2 ≤ n) (h2 : n ≤ 14) : wt ((n : Int) - 1) = 2 * wt n ∧ wt n = 32768 / 2 ^ n := by
  have : n = 2 ∨ n = 3 ∨ n = 4 ∨ n = 5 ∨ n = 6 ∨ n = 7 ∨ n = 8 ∨ n = 9 ∨ n = 10 ∨ n = 11 ∨ n = 12 ∨ n = 13 ∨ n = 14 := by omega
  rcases this with rfl | rfl | rfl | rfl | rfl | rfl | rfl | rfl | rfl | rfl | rfl | rfl | rfl <;> decide

/-! Complete lengths. -/
theorem wt_great {z : Int} (h : 15 < z) : wt z = 32769 := by
  unfold wt
  rw [if_neg (by omega), if_pos h]
theorem wt_zero : wt 0 = 0 := rfl
theorem wt_15 : wt 15 = 1 := by decide
theorem wt_pow {n : Nat} (h1 : 1 ≤ n) (h2 : n ≤ 15) : wt n = 2 ^ (15 - n) := by
  unfold wt
  rw [if_neg (by omega), if_neg (by omega)]
  congr 1
  omega
theorem ks_mem : ∀ (l : List Int) (z : Int), z ∈ l → wt z ≤ ks l
  | [], z, h => by simp at h
  | a :: l, z, h => by
    have h0 : 0 ≤ ks l := by
      have := ksT_bd l l.length
      rw [ksT_all l _ (Nat.le_refl _)] at this
      exact this.1
    have ha := wt_bd a
    rw [List.mem_cons] at h
    simp only [ks, List.map_cons, List.sum_cons] at h0 ⊢
    rcases h with rfl | h
    · omega
    · have := ks_mem l z h
      simp only [ks] at this
      omega
theorem whole_le {l : List Int} (h : ks l = 32768) (z : Int) (hz : z ∈ l) : z ≤ 15 := by
  by_cases h1 : 15 < z
  · have := ks_mem l z hz
    rw [wt_great h1, h] at this
    omega
  · omega
/-- The sum of the first n counts. -/
def ccS (l : List Int) : Nat → Int
  | 0 => 0
  | n + 1 => ccS l n + cc l n 258
theorem cc_all (l : List Int) (hl : l.length = 258) (i : Nat) : cc l i 258 = (l.countP (fun z => z == (i : Int)) : Nat) := by
  unfold cc
  rw [List.take_of_length_le (by omega)]
theorem ccS_count (l : List Int) (hl : l.length = 258) (h0 : ∀ z ∈ l, 0 ≤ z) (n : Nat) : ccS l n = (l.countP (fun z => decide (z < (n : Int))) : Nat) := by
  induction n with
  | zero =>
    have : l.countP (fun z => decide (z < ((0 : Nat) : Int))) = 0 := by
      rw [List.countP_eq_zero]
      intro z hz
      have := h0 z hz
      simp
      omega
    rw [this]
    rfl
  | succ n ih =>
    rw [ccS, ih, cc_all l hl n]
    have : ∀ m : List Int, m.countP (fun z => decide (z < ((n + 1 : Nat) : Int))) = m.countP (fun z => decide (z < (n : Int))) + m.countP (fun z => z == (n : Int)) := by
      intro m
      induction m with
      | nil => rfl
      | cons a m ih =>
        rw [List.countP_cons, List.countP_cons, List.countP_cons, ih]
        by_cases h1 : a < (n : Int)
        · have h2 : a < ((n + 1 : Nat) : Int) := by omega
          have h3 : ¬ a = (n : Int) := by omega
          simp only [h1, h2, h3, decide_true, beq_iff_eq, if_true, if_false]
          omega
        · by_cases h3 : a = (n : Int)
          · have h2 : (n : Int) < ((n + 1 : Nat) : Int) := by omega
            have h4 : ¬ (n : Int) < (n : Int) := by omega
            rw [h3]
            simp only [h2, h4, decide_true, decide_false, beq_self_eq_true, if_true, if_false, Bool.false_eq_true]
            omega
          · have h2 : ¬ a < ((n + 1 : Nat) : Int) := by omega
            simp only [h1, h2, h3, decide_false, beq_iff_eq, if_false, Bool.false_eq_true]
            omega
    rw [this]
    omega
theorem ccS_whole {l : List Int} (hl : Lng l) (h : ks l = 32768) : ccS l 16 = 258 := by
  rw [ccS_count l hl.1 (fun z hz => (bounds_u8 (hl.2 z hz)).1) 16]
  have : l.countP (fun z => decide (z < ((16 : Nat) : Int))) = l.length := by
    rw [List.countP_eq_length]
    intro z hz
    have := whole_le h z hz
    simp
    omega
  rw [this, hl.1]
  rfl
theorem ccS_bd {l : List Int} (hl : Lng l) (n : Nat) : 0 ≤ ccS l n ∧ ccS l n ≤ 258 := by
  rw [ccS_count l hl.1 (fun z hz => (bounds_u8 (hl.2 z hz)).1) n]
  have := List.countP_le_length (p := fun z => decide (z < (n : Int))) (l := l)
  rw [hl.1] at this
  omega
/-- The sum, in units of the weight of the greatest length. -/
theorem ks_unit (n : Nat) (h1 : 1 ≤ n) (h2 : n ≤ 15) : ∀ l : List Int, (∀ z ∈ l, 0 ≤ z ∧ z ≤ n) → ∃ A : Int, ks l = 2 ^ (15 - n) * (2 * A + (l.countP (fun z => z == (n : Int)) : Nat))
  | [], _ => ⟨0, by simp [ks]⟩
  | a :: l, h => by
    obtain ⟨A, hA⟩ := ks_unit n h1 h2 l (fun z hz => h z (List.mem_cons_of_mem _ hz))
    have ha := h a List.mem_cons_self
    have e : ks (a :: l) = wt a + ks l := by simp [ks]
    rw [e, hA, List.countP_cons]
    by_cases hn : a = (n : Int)
    · refine ⟨A, ?_⟩
      subst hn
      rw [wt_pow h1 h2]
      simp only [beq_self_eq_true, if_true]
      generalize (2 : Int) ^ (15 - n) = u
      push_cast
      rw [← Int.add_assoc, Int.mul_add u _ 1]
      omega
    · by_cases h0 : a = 0
      · refine ⟨A, ?_⟩
        subst h0
        have : ¬ ((0 : Int) = (n : Int)) := by omega
        simp only [beq_iff_eq, this, if_false, wt_zero, Nat.add_zero, Int.zero_add]
      · obtain ⟨m, rfl⟩ : ∃ m : Nat, a = m := ⟨a.toNat, by omega⟩
        have hm : 1 ≤ m ∧ m < n := by omega
        refine ⟨A + 2 ^ (n - 1 - m), ?_⟩
        have hb : ((m : Int) == (n : Int)) = false := by simp; omega
        rw [wt_pow hm.1 (by omega), hb]
        have e2 : 15 - m = (15 - n) + 1 + (n - 1 - m) := by omega
        rw [e2, Int.pow_add, Int.pow_add]
        generalize (2 : Int) ^ (15 - n) = u
        generalize (2 : Int) ^ (n - 1 - m) = v
        simp only [Bool.false_eq_true, if_false, Nat.add_zero, Int.pow_one]
        rw [show 2 * (A + v) + ((List.countP (fun z => z == (n : Int)) l : Nat) : Int) = 2 * v + (2 * A + ((List.countP (fun z => z == (n : Int)) l : Nat) : Int)) by omega, Int.mul_add u (2 * v), Int.mul_assoc]
/-- The number of symbols of the greatest length is even. -/
theorem even_last {l : List Int} (hl : Lng l) (h : ks l = 32768) (n : Nat) (h1 : 1 ≤ n) (h2 : n ≤ 15) (hz : ∀ j : Nat, n < j → j ≤ 15 → cc l j 258 = 0) : ∃ m : Int, cc l n 258 = 2 * m := by
  have hle : ∀ z ∈ l, 0 ≤ z ∧ z ≤ n := fun z hm => by
    have hb := bounds_u8 (hl.2 z hm)
    have h15 := whole_le h z hm
    refine ⟨hb.1, ?_⟩
    by_cases hgt : z ≤ (n : Int)
    · exact hgt
    · have h0 := hz z.toNat (by omega) (by omega)
      rw [cc_all l hl.1] at h0
      have h3 : l.countP (fun y => y == ((z.toNat : Nat) : Int)) = 0 := by omega
      rw [List.countP_eq_zero] at h3
      exact absurd (by simp; omega) (h3 z hm)
  obtain ⟨A, hA⟩ := ks_unit n h1 h2 l hle
  rw [h] at hA
  rw [cc_all l hl.1]
  generalize ((l.countP (fun z => z == (n : Int)) : Nat) : Int) = c at hA ⊢
  have : n = 1 ∨ n = 2 ∨ n = 3 ∨ n = 4 ∨ n = 5 ∨ n = 6 ∨ n = 7 ∨ n = 8 ∨ n = 9 ∨ n = 10 ∨ n = 11 ∨ n = 12 ∨ n = 13 ∨ n = 14 ∨ n = 15 := by omega
  refine ⟨c / 2, ?_⟩
  clear hle hz hl h
  rcases this with rfl | rfl | rfl | rfl | rfl | rfl | rfl | rfl | rfl | rfl | rfl | rfl | rfl | rfl | rfl <;> simp at hA <;> omega
/-- Some symbol has a length. -/
theorem some_len {l : List Int} (hl : Lng l) (h : ks l = 32768) (hz : ∀ j : Nat, 0 < j → j ≤ 15 → cc l j 258 = 0) : False := by
  have h0 : ∀ z ∈ l, z = 0 := fun z hm => by
    have hb := bounds_u8 (hl.2 z hm)
    have h15 := whole_le h z hm
    by_cases hgt : z = 0
    · exact hgt
    · have h0 := hz z.toNat (by omega) (by omega)
      rw [cc_all l hl.1] at h0
      have h3 : l.countP (fun y => y == ((z.toNat : Nat) : Int)) = 0 := by omega
      rw [List.countP_eq_zero] at h3
      exact absurd (by simp; omega) (h3 z hm)
  have : ks l = 0 := by
    have e : l.map wt = l.map (fun _ => (0 : Int)) := List.map_congr_left fun z hz => by rw [h0 z hz]; rfl
    unfold ks
    rw [e]
    clear e h0 hz h hl
    induction l with
    | nil => rfl
    | cons a l ih => simpa using ih
  omega
end Go.Proofs.Ytcekjibkifdchaa
