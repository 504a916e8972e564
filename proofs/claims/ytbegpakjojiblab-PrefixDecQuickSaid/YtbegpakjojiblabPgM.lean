/- How many numbers of n bits begin with a whole code: mathematics. -/
import Derived.Test.YtbegpakjojiblabPdN
set_option linter.unusedVariables false
set_option linter.unusedSimpArgs false
namespace Go.Proofs.Ytbegpakjojiblab
open Go.RowKit

/-- How many numbers of n bits begin with a whole code. -/
def whL (c : List Int) : Nat → Int
  | 0 => 0
  | n + 1 => whL c n * 2 + c.getD (n + 1) 0
theorem fc_wh (c : List Int) : ∀ n, fcL c (n + 1) = whL c n * 2
  | 0 => rfl
  | n + 1 => by
    show (fcL c (n + 1) + c.getD (n + 1) 0) * 2 = (whL c n * 2 + c.getD (n + 1) 0) * 2
    rw [fc_wh c n]
theorem wh_bd {l : List Int} (h : VL l) : ∀ n, n < 16 → 0 ≤ whL (cntT l 258) n ∧ whL (cntT l 258) n ≤ 65536
  | 0, _ => by
    show (0 : Int) ≤ 0 ∧ (0 : Int) ≤ 65536
    omega
  | n + 1, hn => by
    have h1 := h.fcB (n + 1) hn
    rw [fc_wh] at h1
    show 0 ≤ whL (cntT l 258) n * 2 + (cntT l 258).getD (n + 1) 0 ∧ whL (cntT l 258) n * 2 + (cntT l 258).getD (n + 1) 0 ≤ 65536
    omega
theorem cc_mono (l : List Int) (i : Nat) {a b : Nat} (h : a ≤ b) (hb : b ≤ l.length) : cc l i a ≤ cc l i b := by
  obtain ⟨d, rfl⟩ : ∃ d, b = a + d := ⟨b - a, by omega⟩
  clear h
  induction d with
  | zero => exact Int.le_refl _
  | succ d ih =>
    have h1 := ih (by omega)
    have h2 := cc_step l i (a + d) (by omega)
    rw [← Nat.add_assoc, h2]
    split <;> omega
/-- A symbol of length i before which k have it. -/
theorem cc_at (l : List Int) (i : Nat) (k : Int) (hk : 0 ≤ k) : ∀ N, N ≤ l.length → k < cc l i N → ∃ s, s < N ∧ cc l i s = k ∧ l.getD s 0 = (i : Int)
  | 0, _, h => by
    rw [cc_zero] at h
    omega
  | N + 1, hN, h => by
    by_cases hlt : k < cc l i N
    · obtain ⟨s, h1, h2⟩ := cc_at l i k hk N (by omega) hlt
      exact ⟨s, by omega, h2⟩
    · rw [cc_step l i N (by omega)] at h
      by_cases e : l.getD N 0 = (i : Int)
      · rw [if_pos e] at h
        exact ⟨N, by omega, by omega, e⟩
      · rw [if_neg e] at h
        omega
theorem cc_lt {l : List Int} {i s : Nat} (hs : s < l.length) (e : l.getD s 0 = (i : Int)) : cc l i s < cc l i l.length := by
  have h1 := cc_step l i s hs
  rw [if_pos e] at h1
  have h2 := cc_mono l i (show s + 1 ≤ l.length by omega) (Nat.le_refl _)
  omega
/-- Codes of a length are counted up from the first. -/
theorem cdL_len {l : List Int} (s n : Nat) (e : l.getD s 0 = ((n + 1 : Nat) : Int)) : cdL l s = whL (cntT l 258) n * 2 + cc l (n + 1) s := by
  unfold cdL
  rw [e, Int.toNat_natCast, fc_wh]
theorem fnd_yes {l : List Int} (h : VL l) {n : Nat} {c : Int} (h0 : whL (cntT l 258) n * 2 ≤ c) (h1 : c - whL (cntT l 258) n * 2 < cc l (n + 1) 258) :
    ∃ s, s < 258 ∧ cc l (n + 1) s = c - whL (cntT l 258) n * 2 ∧ l.getD s 0 = ((n + 1 : Nat) : Int) ∧ fndL l c ((n + 1 : Nat) : Int) 258 = some s := by
  obtain ⟨s, h2, h3, h4⟩ := cc_at l (n + 1) (c - whL (cntT l 258) n * 2) (by omega) 258 (by rw [h.lng.1]; exact Nat.le_refl _) h1
  refine ⟨s, h2, h3, h4, ?_⟩
  have h5 := fndL_one h h2 (by omega)
  rw [cdL_len s n h4, h3, h4, show whL (cntT l 258) n * 2 + (c - whL (cntT l 258) n * 2) = c by omega] at h5
  exact h5
theorem fnd_no {l : List Int} (h : VL l) {n : Nat} {c : Int} (h1 : ¬ c - whL (cntT l 258) n * 2 < cc l (n + 1) 258) : fndL l c ((n + 1 : Nat) : Int) 258 = none := by
  cases hf : fndL l c ((n + 1 : Nat) : Int) 258 with
  | none => rfl
  | some s =>
    obtain ⟨s1, s2, s3, s4⟩ := fndL_is l _ _ 258 s hf
    rw [cdL_len s n s3] at s4
    have := cc_lt (l := l) (i := n + 1) (s := s) (by rw [h.lng.1]; exact s1) s3
    rw [h.lng.1] at this
    omega
theorem wh_step {l : List Int} (h : VL l) (n d : Nat) (hd : n + d < 16) : whL (cntT l 258) n * ((2 ^ d : Nat) : Int) ≤ whL (cntT l 258) (n + d) := by
  induction d with
  | zero => simp
  | succ d ih =>
    have h1 := ih (by omega)
    have h2 := (h.fcB (n + d + 1) (by omega)).1
    show _ ≤ whL (cntT l 258) (n + d) * 2 + (cntT l 258).getD (n + d + 1) 0
    have e : ((2 ^ (d + 1) : Nat) : Int) = ((2 ^ d : Nat) : Int) * 2 := by rw [Nat.pow_succ]; omega
    rw [e, ← Int.mul_assoc]
    omega
theorem code_lt {l : List Int} (h : VL l) {s n : Nat} (hs : s < 258) (e : l.getD s 0 = ((n + 1 : Nat) : Int)) : whL (cntT l 258) n * 2 ≤ (codeV l s : Int) ∧ (codeV l s : Int) < whL (cntT l 258) (n + 1) := by
  have h1 := cdL_len s n e
  rw [cdL_nat h hs (by omega)] at h1
  have h2 := cc_lt (l := l) (i := n + 1) (s := s) (by rw [h.lng.1]; exact hs) e
  rw [h.lng.1] at h2
  have h3 := cc_bd l (n + 1) s
  have h4 := h.small s
  have h5 : whL (cntT l 258) (n + 1) = whL (cntT l 258) n * 2 + cc l (n + 1) 258 := by
    show whL (cntT l 258) n * 2 + (cntT l 258).getD (n + 1) 0 = _
    rw [cntT_get l (n + 1) (by omega)]
  omega
/-- Numbers past those begin with no code. -/
theorem pre_wh {l : List Int} (h : TL l) {c n : Nat} (hn : n ≤ 14) (hc : c < 2 ^ n) (hw : whL (cntT l 258) n ≤ (c : Int)) : Pre l c n := by
  refine ⟨hn, hc, fun s hs h0 hl e => ?_⟩
  obtain ⟨m, hm⟩ : ∃ m : Nat, l.getD s 0 = ((m + 1 : Nat) : Int) := ⟨(l.getD s 0).toNat - 1, by omega⟩
  have hln : lnN l s = m + 1 := by unfold lnN; omega
  rw [hln] at hl e
  have h1 := (code_lt h.vl hs hm).2
  have h2 := wh_step h.vl (m + 1) (n - (m + 1)) (by omega)
  rw [show m + 1 + (n - (m + 1)) = n by omega] at h2
  have h3 : codeV l s + 1 ≤ (whL (cntT l 258) (m + 1)).toNat := by omega
  have h4 : (codeV l s + 1) * 2 ^ (n - (m + 1)) ≤ c := by
    have h5 := Nat.mul_le_mul_right (2 ^ (n - (m + 1))) h3
    have h6 : (((whL (cntT l 258) (m + 1)).toNat * 2 ^ (n - (m + 1)) : Nat) : Int) = whL (cntT l 258) (m + 1) * ((2 ^ (n - (m + 1)) : Nat) : Int) := by
      rw [Int.natCast_mul, Int.toNat_of_nonneg (by omega)]
    omega
  have h7 := (Nat.le_div_iff_mul_le (Nat.two_pow_pos (n - (m + 1)))).2 h4
  omega
theorem lgr_wh {l : List Int} (h : TL l) {c n : Nat} (hn : n ≤ 14) (hc : c < 2 ^ n) : lgrB l (c : Int) (n : Int) = decide (whL (cntT l 258) n ≤ (c : Int)) := by
  by_cases hw : whL (cntT l 258) n ≤ (c : Int)
  · rw [decide_eq_true hw]
    have h1 := (pre_wh h hn hc hw).valid h
    unfold valC at h1
    simp only [Bool.and_eq_true] at h1
    exact h1.2.2
  · rw [decide_eq_false hw]
    cases hl : lgrB l (c : Int) (n : Int) with
    | false => rfl
    | true =>
      exfalso
      unfold lgrB at hl
      rw [List.any_eq_true] at hl
      obtain ⟨s, hs, h1⟩ := hl
      have hs := List.mem_range.1 hs
      rw [Bool.and_eq_true, decide_eq_true_iff, decide_eq_true_iff] at h1
      obtain ⟨h1, h2⟩ := h1
      obtain ⟨m, hm⟩ : ∃ m : Nat, l.getD s 0 = ((m + 1 : Nat) : Int) := ⟨(l.getD s 0).toNat - 1, by omega⟩
      rw [cdL_nat h.vl hs (by omega), hm, show (((m + 1 : Nat) : Int) - (n : Int)).toNat = m + 1 - n by omega, ← Int.natCast_ediv] at h2
      have h3 := (code_lt h.vl hs hm).1
      have h15 := h.vl.small s
      have h4 := wh_step h.vl n (m - n) (by omega)
      rw [show n + (m - n) = m by omega] at h4
      have h5 : (codeV l s / 2 ^ (m + 1 - n) : Nat) = c := by omega
      have hb := wh_bd h.vl n (by omega)
      have h6 : c + 1 ≤ (whL (cntT l 258) n).toNat := by omega
      have h7 : codeV l s < (c + 1) * 2 ^ (m + 1 - n) := (Nat.div_lt_iff_lt_mul (Nat.two_pow_pos _)).1 (by omega)
      have h8 := Nat.mul_le_mul_right (2 ^ (m - n)) h6
      have h9 : (((whL (cntT l 258) n).toNat * 2 ^ (m - n) : Nat) : Int) = whL (cntT l 258) n * ((2 ^ (m - n) : Nat) : Int) := by
        rw [Int.natCast_mul, Int.toNat_of_nonneg (by omega)]
      have e : (c + 1) * 2 ^ (m + 1 - n) = (c + 1) * 2 ^ (m - n) * 2 := by
        rw [show m + 1 - n = (m - n) + 1 by omega, Nat.pow_succ, Nat.mul_assoc]
      omega
/-- What the developers' test of a state tells. -/
theorem val_wh {l : List Int} (h : TL l) {c n : Int} (h0 : 0 ≤ n) (h14 : n ≤ 14) : valC l c n = (decide (whL (cntT l 258) n.toNat ≤ c) && decide (c < ((2 ^ n.toNat : Nat) : Int))) := by
  have hb := wh_bd h.vl n.toNat (by omega)
  unfold valC
  rw [h.tab, decide_eq_true h0, decide_eq_true h14]
  simp only [Bool.true_and]
  by_cases hc : 0 ≤ c
  · rw [decide_eq_true hc, Bool.true_and]
    by_cases hlt : c < ((2 ^ n.toNat : Nat) : Int)
    · rw [decide_eq_true hlt, Bool.true_and, Bool.and_true]
      have h1 := lgr_wh h (c := c.toNat) (n := n.toNat) (by omega) (by omega)
      rw [Int.toNat_of_nonneg hc, Int.toNat_of_nonneg h0] at h1
      exact h1
    · rw [decide_eq_false hlt, Bool.false_and, Bool.and_false]
  · rw [decide_eq_false hc, decide_eq_false (show ¬ whL (cntT l 258) n.toNat ≤ c by omega)]
    rfl
end Go.Proofs.Ytbegpakjojiblab
