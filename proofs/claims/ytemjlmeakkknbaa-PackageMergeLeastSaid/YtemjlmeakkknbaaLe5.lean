/- What law PackageMergeLeast needs (mathematics over tallies). -/
import Derived.Test.YtemjlmeakkknbaaLw
set_option linter.unusedVariables false
set_option linter.unusedSimpArgs false
namespace Go.Proofs.Ytemjlmeakkknbaa
open Go.RowKit

theorem sumR_split (a b : Nat) (f : Nat → Int) : sumR (a + b) f = sumR a f + sumR b fun j => f (a + j) := by
  induction b with
  | zero => simp [sumR]
  | succ b ih => rw [← Nat.add_assoc, sumR_succ, sumR_succ, ih]; omega
theorem sumR_first {n : Nat} (hn : 0 < n) {f : Nat → Int} (h : ∀ j, 0 < j → j < n → f j = 0) : sumR n f = f 0 := by
  induction n with
  | zero => omega
  | succ n ih =>
    rw [sumR_succ]
    by_cases e : n = 0
    · subst e
      simp [sumR]
    · rw [ih (by omega) (fun j h1 h2 => h j h1 (by omega)), h n (by omega) (by omega)]
      omega
/-- Sums over symbols of which only every 51st counts. -/
theorem sumR_spread {f : Nat → Int} (h : ∀ s, s % 51 ≠ 0 → f s = 0) (k : Nat) : sumR (51 * k) f = sumR k fun i => f (51 * i) := by
  induction k with
  | zero => rfl
  | succ k ih =>
    have e2 : sumR 51 (fun j => f (51 * k + j)) = f (51 * k) := sumR_first (n := 51) (by omega) (fun j h1 h2 => h _ (by omega))
    rw [Nat.mul_succ, sumR_split, ih, e2]
    rfl
theorem sumR_five {n : Nat} (hn : n = 258) {f : Nat → Int} (h : ∀ s, ¬ (s % 51 = 0 ∧ s / 51 < 5) → f s = 0) : sumR n f = sumR 5 fun i => f (51 * i) := by
  subst hn
  rw [show 258 = 51 * 5 + 3 from rfl, sumR_split, sumR_spread (f := fun s => if s / 51 < 5 then f s else 0) (fun s hs => by
    show (if s / 51 < 5 then f s else 0) = 0
    split
    · exact h s (fun e => hs e.1)
    · rfl) 5 |> (fun e => (sumR_congr (n := 51 * 5) (f := f) (g := fun s => if s / 51 < 5 then f s else 0) (fun s hs => (if_pos (by omega)).symm)).trans e), sumR_zero (n := 3) (fun j hj => h _ (by omega)), Int.add_zero]
  apply sumR_congr
  intro i hi
  exact if_pos (by omega)
/-- The tally of the first m counts. -/
def Few (q T : List Int) (m : Nat) : Prop := T.length = 258 ∧ ∀ s : Nat, T.getD s 0 = if s % 51 = 0 ∧ s / 51 < m then q.getD (s / 51) 0 else 0
/-- How many of the first m counts are above 0. -/
def cntF (q : List Int) (m : Nat) : Int := sumR m fun i => if 0 < q.getD i 0 then 1 else 0
theorem cntF_succ (q : List Int) (m : Nat) : cntF q (m + 1) = cntF q m + if 0 < q.getD m 0 then 1 else 0 := rfl
theorem cntF_bd (q : List Int) (m : Nat) : 0 ≤ cntF q m ∧ cntF q m ≤ m := by
  induction m with
  | zero => exact ⟨Int.le_refl _, Int.le_refl _⟩
  | succ m ih =>
    rw [cntF_succ]
    split <;> omega
theorem Few.start (q : List Int) : Few q zT 0 := ⟨zT_tal.1, fun s => by rw [zT_get, if_neg (by omega)]⟩
theorem Few.step {q T : List Int} {m : Nat} (h : Few q T m) (hm : m < 5) : Few q (T.set (51 * m) (q.getD m 0)) (m + 1) := by
  refine ⟨by rw [List.length_set]; exact h.1, fun s => ?_⟩
  rw [getD_set _ _ _ _ (by rw [h.1]; omega), h.2 s]
  by_cases e : s = 51 * m
  · subst e
    rw [if_pos rfl, if_pos (by omega), show 51 * m / 51 = m by omega]
  · rw [if_neg e]
    by_cases h1 : s % 51 = 0 ∧ s / 51 < m
    · rw [if_pos h1, if_pos (by omega)]
    · rw [if_neg h1, if_neg (by omega)]
theorem Few.bd {q T : List Int} {m : Nat} (h : Few q T m) (hq : ∀ i, i < m → 0 ≤ q.getD i 0 ∧ q.getD i 0 ≤ 2147483647) (s : Nat) : 0 ≤ T.getD s 0 ∧ T.getD s 0 ≤ 2147483647 := by
  rw [h.2 s]
  split
  · rename_i h1
    exact hq _ h1.2
  · omega
theorem Few.tal {q T : List Int} {m : Nat} (h : Few q T m) (hq : ∀ i, i < m → 0 ≤ q.getD i 0 ∧ q.getD i 0 ≤ 2147483647) : Tal T := by
  refine ⟨h.1, fun z hz => ?_⟩
  obtain ⟨i, hi, rfl⟩ := List.getElem_of_mem hz
  have := h.bd hq i
  rw [List.getD_eq_getElem?_getD, List.getElem?_eq_getElem hi] at this
  simp only [Option.getD_some] at this
  exact WalkArith.wf_i64 ⟨by omega, by omega⟩
theorem Few.zero {q T : List Int} {m : Nat} (h : Few q T m) (hm : m ≤ 5) {s : Nat} (hs : ¬ (s % 51 = 0 ∧ s / 51 < 5)) : T.getD s 0 = 0 := by
  rw [h.2 s, if_neg (by omega)]
theorem Few.at {q T : List Int} {m : Nat} (h : Few q T m) (i : Nat) : T.getD (51 * i) 0 = if i < m then q.getD i 0 else 0 := by
  rw [h.2 (51 * i)]
  have e1 : 51 * i % 51 = 0 := by omega
  have e2 : 51 * i / 51 = i := by omega
  rw [e1, e2]
  by_cases hi : i < m
  · rw [if_pos ⟨rfl, hi⟩, if_pos hi]
  · rw [if_neg (fun e => hi e.2), if_neg hi]
theorem Few.cnt {q T : List Int} {m : Nat} (h : Few q T m) (hm : m ≤ 5) : ((lvT T).length : Int) = cntF q m := by
  rw [len_sumR, sumR_five h.1 (fun s hs => if_neg (by rw [h.zero hm hs]; omega))]
  have e : ∀ k, m ≤ k → (sumR k fun i => if 0 < T.getD (51 * i) 0 then (1 : Int) else 0) = cntF q m := by
    intro k hk
    induction k with
    | zero =>
      obtain rfl : m = 0 := by omega
      rfl
    | succ k ih =>
      by_cases e : m = k + 1
      · subst e
        unfold cntF
        apply sumR_congr
        intro i hi
        rw [h.at i, if_pos hi]
      · rw [sumR_succ, ih (by omega), h.at k, if_neg (show ¬ k < m by omega)]
        simp
  exact e 5 hm
/-- Kraft's sum and the total of other lengths. -/
def kfS (T : List Int) (L : Nat) (f : Nat → Nat) (k : Nat) : Int := sumR k fun i => if 0 < T.getD (51 * i) 0 then ((2 ^ (L - f i) : Nat) : Int) else 0
def otS (T : List Int) (f : Nat → Nat) (k : Nat) : Int := sumR k fun i => if 0 < T.getD (51 * i) 0 then ((f i : Nat) : Int) * T.getD (51 * i) 0 else 0
theorem kfS_succ (T : List Int) (L : Nat) (f : Nat → Nat) (k : Nat) : kfS T L f (k + 1) = kfS T L f k + if 0 < T.getD (51 * k) 0 then ((2 ^ (L - f k) : Nat) : Int) else 0 := rfl
theorem otS_succ (T : List Int) (f : Nat → Nat) (k : Nat) : otS T f (k + 1) = otS T f k + if 0 < T.getD (51 * k) 0 then ((f k : Nat) : Int) * T.getD (51 * k) 0 else 0 := rfl
theorem kfS_bd (T : List Int) {L : Nat} (hL : L ≤ 5) (f : Nat → Nat) (k : Nat) : 0 ≤ kfS T L f k ∧ kfS T L f k ≤ 32 * k := by
  induction k with
  | zero => exact ⟨Int.le_refl _, Int.le_refl _⟩
  | succ k ih =>
    rw [kfS_succ]
    have : 2 ^ (L - f k) ≤ 2 ^ 5 := Nat.pow_le_pow_right (by omega) (by omega)
    generalize 2 ^ (L - f k) = y at this ⊢
    split <;> omega
theorem otS_one {T : List Int} (hT : VT T) {a : Nat} (ha : a ≤ 5) (k : Nat) : 0 ≤ (a : Int) * T.getD (51 * k) 0 ∧ (a : Int) * T.getD (51 * k) 0 ≤ 10737418235 := by
  have h2 := hT.get (51 * k)
  refine ⟨Int.mul_nonneg (by omega) h2.1, ?_⟩
  exact Int.le_trans (Int.mul_le_mul (show (a : Int) ≤ 5 by omega) h2.2 h2.1 (by omega)) (by omega)
theorem otS_bd {T : List Int} (hT : VT T) {f : Nat → Nat} (hf : ∀ i, f i ≤ 5) (k : Nat) : 0 ≤ otS T f k ∧ otS T f k ≤ 10737418235 * k := by
  induction k with
  | zero => exact ⟨Int.le_refl _, Int.le_refl _⟩
  | succ k ih =>
    have := otS_one hT (hf k) k
    rw [otS_succ]
    split <;> omega
/-- No other lengths cost less. -/
theorem least_ok {q T : List Int} {m : Nat} (h : Few q T m) (hm : m ≤ 5) (hT : Tal T) {L : Nat} (hok : LOk T L) (f : Nat → Nat) (hf : ∀ i, 1 ≤ f i ∧ f i ≤ L) (hk : kfS T L f 5 ≤ ((2 ^ L : Nat) : Int)) : totV T (lenQ T L) ≤ otS T f 5 := by
  obtain ⟨h1, h2, h3⟩ := lok_lim hok
  rw [Int.toNat_natCast] at h1 h2 h3
  rw [tot_len hT hok, Int.toNat_natCast]
  have hb := lenV_best h1 h3 hok.1 (fun s => f (s / 51)) (fun s _ _ => hf _) (by
    rw [sumR_five h.1 (fun s hs => if_neg (by rw [h.zero hm hs]; omega))]
    refine Int.le_trans (Int.le_of_eq ?_) hk
    apply sumR_congr
    intro i hi
    rw [show 51 * i / 51 = i by omega])
  refine Int.le_trans hb (Int.le_of_eq ?_)
  rw [sumR_five h.1 (fun s hs => by rw [h.zero hm hs, Int.zero_mul])]
  apply sumR_congr
  intro i hi
  rw [show 51 * i / 51 = i by omega]
  have := (hok.1.get (51 * i)).1
  by_cases e : 0 < T.getD (51 * i) 0
  · rw [if_pos e, Int.mul_comm]
  · rw [if_neg e, show T.getD (51 * i) 0 = 0 by omega, Int.zero_mul]
theorem len_pos_iff {t : List Int} (ht : Tal t) {L : Int} (h : LOk t L) {s : Nat} (hs : s < 258) : (lenQ t L).getD s 0 ≤ L ∧ (0 < (lenQ t L).getD s 0 ↔ 0 < t.getD s 0) := by
  obtain ⟨h1, h2, h3⟩ := lok_lim h
  rw [lenQ_get ht h hs]
  have := lenV_le h1 h3 s
  refine ⟨by have := h.2.1; omega, ?_⟩
  constructor
  · intro h0
    by_cases e : 0 < t.getD s 0
    · exact e
    · rw [lenV_zero _ e] at h0
      omega
  · intro h0
    have := lenV_pos h1 h3 (s := s) (by rw [ht.1]; exact hs) h0
    omega
end Go.Proofs.Ytemjlmeakkknbaa
