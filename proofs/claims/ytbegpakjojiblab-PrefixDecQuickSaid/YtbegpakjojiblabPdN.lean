/- Decoding a prefix code: mathematics. -/
import Derived.Test.YtbegpakjojiblabPeM
set_option linter.unusedVariables false
set_option linter.unusedSimpArgs false
namespace Go.Proofs.Ytbegpakjojiblab
open Go.RowKit

/-- A code table. -/
def tableV (l : List Int) : Bool := decide (ks l = 32768) && !decide (l.getD 257 0 = 0)
/-- Lengths that form a code table. -/
structure TL (l : List Int) : Prop where
  lng : Lng l
  tab : tableV l = true
theorem TL.ks {l : List Int} (h : TL l) : ks l = 32768 := by
  have := h.tab
  unfold tableV at this
  rw [Bool.and_eq_true, decide_eq_true_iff] at this
  exact this.1
theorem TL.vl {l : List Int} (h : TL l) : VL l := ⟨h.lng, by rw [h.ks]; exact Int.le_refl _⟩
theorem TL.kf {l : List Int} (h : TL l) : kfN l = 32768 := by
  have h1 := h.ks
  rw [ks_kf h.lng h.vl.small] at h1
  omega
/-- Some code longer than n bits begins with these bits. -/
def lgrB (l : List Int) (c n : Int) : Bool := (List.range 258).any fun s => decide (n < l.getD s 0) && decide (cdL l s / ((2 ^ (l.getD s 0 - n).toNat : Nat) : Int) = c)
/-- A state is valid. -/
def valC (l : List Int) (c n : Int) : Bool := tableV l && (decide (0 ≤ n) && decide (n ≤ 14) && decide (0 ≤ c) && decide (c < ((2 ^ n.toNat : Nat) : Int)) && lgrB l c n)
/-- These bits begin with no code. -/
structure Pre (l : List Int) (c n : Nat) : Prop where
  le : n ≤ 14
  lt : c < 2 ^ n
  no : ∀ s, s < 258 → 0 < l.getD s 0 → lnN l s ≤ n → c / 2 ^ (n - lnN l s) ≠ codeV l s
theorem Pre.zero {l : List Int} : Pre l 0 0 := ⟨by omega, by decide, fun s hs h0 h => by unfold lnN at h; omega⟩
/-- The first code of a string of 15 bits, told of its first n. -/
theorem hit_whole {l : List Int} (h : TL l) (c n : Nat) (hn : n ≤ 15) (hc : c < 2 ^ n) : ∃ s, s < 258 ∧ 0 < l.getD s 0 ∧ ((lnN l s ≤ n ∧ c / 2 ^ (n - lnN l s) = codeV l s) ∨ (n < lnN l s ∧ codeV l s / 2 ^ (lnN l s - n) = c)) := by
  have hb : c * 2 ^ (15 - n) < 32768 := by
    have e : (32768 : Nat) = 2 ^ n * 2 ^ (15 - n) := by rw [← Nat.pow_add, show n + (15 - n) = 15 by omega]
    rw [e]
    exact Nat.mul_lt_mul_of_pos_right hc (Nat.two_pow_pos _)
  rw [← h.kf] at hb
  obtain ⟨s, hs, h1, h15, hh⟩ := (hitN_some l _).2 hb
  have hl : lnN l s ≤ 15 := by unfold lnN; omega
  refine ⟨s, hs, by omega, ?_⟩
  unfold wN at hh
  by_cases hle : lnN l s ≤ n
  · left
    refine ⟨hle, ?_⟩
    rw [← hh]
    have e : 2 ^ (15 - lnN l s) = 2 ^ (15 - n) * 2 ^ (n - lnN l s) := by rw [← Nat.pow_add]; congr 1; omega
    rw [e, ← Nat.div_div_eq_div_mul, Nat.mul_div_cancel _ (Nat.two_pow_pos _)]
  · right
    refine ⟨by omega, ?_⟩
    rw [← hh, Nat.div_div_eq_div_mul, ← Nat.pow_add, show 15 - lnN l s + (lnN l s - n) = 15 - n by omega, Nat.mul_div_cancel _ (Nat.two_pow_pos _)]
theorem Pre.longer {l : List Int} (h : TL l) {c n : Nat} (hp : Pre l c n) : ∃ s, s < 258 ∧ n < lnN l s ∧ codeV l s / 2 ^ (lnN l s - n) = c := by
  obtain ⟨s, hs, h0, h1 | h1⟩ := hit_whole h c n (by have := hp.le; omega) hp.lt
  · exact absurd h1.2 (hp.no s hs h0 h1.1)
  · exact ⟨s, hs, h1⟩
theorem Pre.valid {l : List Int} (h : TL l) {c n : Nat} (hp : Pre l c n) : valC l (c : Int) (n : Int) = true := by
  obtain ⟨s, hs, h1, h2⟩ := hp.longer h
  have hn := hp.le
  have hc := hp.lt
  unfold valC
  rw [h.tab, Bool.true_and, decide_eq_true (show (0 : Int) ≤ (n : Int) by omega), decide_eq_true (show (n : Int) ≤ 14 by omega), decide_eq_true (show (0 : Int) ≤ (c : Int) by omega), Int.toNat_natCast, decide_eq_true (show (c : Int) < ((2 ^ n : Nat) : Int) by omega)]
  simp only [Bool.true_and]
  unfold lgrB
  rw [List.any_eq_true]
  refine ⟨s, List.mem_range.2 hs, ?_⟩
  have hl : lnN l s = (l.getD s 0).toNat := rfl
  have h0 : 0 < l.getD s 0 := by omega
  rw [decide_eq_true (show (n : Int) < l.getD s 0 by omega), Bool.true_and, decide_eq_true_iff, cdL_nat h.vl hs h0, show (l.getD s 0 - (n : Int)).toNat = lnN l s - n by omega, ← Int.natCast_ediv, h2]
/-- One more bit that completes no code. -/
theorem Pre.next {l : List Int} (h : TL l) {c n : Nat} (hp : Pre l c n) (b : Nat) (hb : b ≤ 1) (hf : fndL l ((2 * c + b : Nat) : Int) ((n + 1 : Nat) : Int) 258 = none) : Pre l (2 * c + b) (n + 1) := by
  have hn := hp.le
  have hc := hp.lt
  have hc2 : 2 * c + b < 2 ^ (n + 1) := by rw [Nat.pow_succ]; omega
  have hno : ∀ s, s < 258 → 0 < l.getD s 0 → lnN l s ≤ n + 1 → (2 * c + b) / 2 ^ (n + 1 - lnN l s) ≠ codeV l s := fun s hs h0 hl => by
    by_cases he : lnN l s = n + 1
    · have h1 := fndL_none l _ _ 258 hf s hs
      intro e
      rw [he, Nat.sub_self, Nat.pow_zero, Nat.div_one] at e
      refine h1 ⟨h0, ?_, ?_⟩
      · unfold lnN at he
        omega
      · rw [cdL_nat h.vl hs h0, ← e]
    · have h1 := hp.no s hs h0 (by omega)
      have e : (2 * c + b) / 2 ^ (n + 1 - lnN l s) = c / 2 ^ (n - lnN l s) := by
        rw [show n + 1 - lnN l s = 1 + (n - lnN l s) by omega, Nat.pow_add, ← Nat.div_div_eq_div_mul, show (2 * c + b) / 2 ^ 1 = c by omega]
      rw [e]
      exact h1
  refine ⟨?_, hc2, hno⟩
  by_cases h14 : n + 1 ≤ 14
  · exact h14
  · exfalso
    obtain ⟨s, hs, h0, h1 | h1⟩ := hit_whole h (2 * c + b) (n + 1) (by omega) hc2
    · exact hno s hs h0 h1.1 h1.2
    · have := h.vl.small s
      unfold lnN at h1
      omega
/-- The last of the first k symbols whose code of at most 9 bits begins a 9-bit number. -/
def fndQ (l : List Int) (i : Int) : Nat → Option Nat
  | 0 => none
  | k + 1 => if 0 < l.getD k 0 ∧ l.getD k 0 ≤ 9 ∧ cdL l k = i / ((2 ^ (9 - l.getD k 0).toNat : Nat) : Int) then some k else fndQ l i k
theorem fndQ_is (l : List Int) (i : Int) : ∀ k s, fndQ l i k = some s → s < k ∧ 0 < l.getD s 0 ∧ l.getD s 0 ≤ 9 ∧ cdL l s = i / ((2 ^ (9 - l.getD s 0).toNat : Nat) : Int)
  | 0, s, h => by cases h
  | k + 1, s, h => by
    unfold fndQ at h
    split at h
    · rename_i hc
      injection h with h
      subst h
      exact ⟨by omega, hc⟩
    · have := fndQ_is l i k s h
      exact ⟨by omega, this.2⟩
theorem fndQ_none (l : List Int) (i : Int) : ∀ k, fndQ l i k = none → ∀ s, s < k → ¬ (0 < l.getD s 0 ∧ l.getD s 0 ≤ 9 ∧ cdL l s = i / ((2 ^ (9 - l.getD s 0).toNat : Nat) : Int))
  | 0, _, s, hs => by omega
  | k + 1, h, s, hs => by
    unfold fndQ at h
    split at h
    · cases h
    · rename_i hc
      by_cases e : s = k
      · rw [e]; exact hc
      · exact fndQ_none l i k h s (by omega)
/-- The first n bits of a 9-bit number that begin with no code, and the next one. -/
theorem quick_some {l : List Int} (h : TL l) (x j s : Nat) (hx : x < 512) (hj : j < 9) (hf : fndL l ((x / 2 ^ (8 - j) : Nat) : Int) ((j + 1 : Nat) : Int) 258 = some s) : fndQ l (x : Int) 258 = some s := by
  obtain ⟨s1, s2, s3, s4⟩ := fndL_is l _ _ 258 s hf
  have hl : lnN l s = j + 1 := by unfold lnN; omega
  rw [cdL_nat h.vl s1 s2] at s4
  have s5 : codeV l s = x / 2 ^ (8 - j) := by omega
  have hit : hitN l (x * 64) s := by
    refine ⟨by omega, h.vl.small s, ?_⟩
    unfold wN
    rw [hl, s5, show 15 - (j + 1) = 6 + (8 - j) by omega, Nat.pow_add, ← Nat.div_div_eq_div_mul, show (2 : Nat) ^ 6 = 64 by decide, Nat.mul_div_cancel _ (by decide)]
  cases hq : fndQ l (x : Int) 258 with
  | none =>
    refine absurd ⟨s2, by omega, ?_⟩ (fndQ_none l _ 258 hq s s1)
    rw [cdL_nat h.vl s1 s2, s5, show (9 - l.getD s 0).toNat = 8 - j by omega, ← Int.natCast_ediv]
  | some t =>
    obtain ⟨t1, t2, t3, t4⟩ := fndQ_is l _ 258 t hq
    have hlt : lnN l t = (l.getD t 0).toNat := rfl
    rw [cdL_nat h.vl t1 t2, show (9 - l.getD t 0).toNat = 9 - lnN l t by omega, ← Int.natCast_ediv] at t4
    have t5 : codeV l t = x / 2 ^ (9 - lnN l t) := by omega
    have hit2 : hitN l (x * 64) t := by
      refine ⟨by omega, by omega, ?_⟩
      unfold wN
      rw [t5, show 15 - lnN l t = 6 + (9 - lnN l t) by omega, Nat.pow_add, ← Nat.div_div_eq_div_mul, show (2 : Nat) ^ 6 = 64 by decide, Nat.mul_div_cancel _ (by decide)]
    rw [hitN_one l _ t s t1 s1 hit2 hit]
theorem quick_none {l : List Int} (h : TL l) {x : Nat} (hp : Pre l x 9) : fndQ l (x : Int) 258 = none := by
  cases hq : fndQ l (x : Int) 258 with
  | none => rfl
  | some t =>
    obtain ⟨t1, t2, t3, t4⟩ := fndQ_is l _ 258 t hq
    have hlt : lnN l t = (l.getD t 0).toNat := rfl
    rw [cdL_nat h.vl t1 t2, show (9 - l.getD t 0).toNat = 9 - lnN l t by omega, ← Int.natCast_ediv] at t4
    exact absurd (by omega) (hp.no t t1 t2 (by omega))
/-- What Step gives: code, bits, symbol, done. -/
def stC (l : List Int) (c n b : Int) : Int × Int × Int × Bool :=
  if valC l c n = true ∧ (b = 0 ∨ b = 1) then
    match fndL l (2 * c + b) (n + 1) 258 with
    | some s => (0, 0, (s : Int), true)
    | none => (2 * c + b, n + 1, 0, false)
  else (c, n, 0, false)
theorem stC_some {l : List Int} {c n b : Int} (hv : valC l c n = true) (hb : b = 0 ∨ b = 1) {s : Nat} (hf : fndL l (2 * c + b) (n + 1) 258 = some s) : stC l c n b = (0, 0, (s : Int), true) := by
  unfold stC
  rw [if_pos ⟨hv, hb⟩, hf]
theorem stC_none {l : List Int} {c n b : Int} (hv : valC l c n = true) (hb : b = 0 ∨ b = 1) (hf : fndL l (2 * c + b) (n + 1) 258 = none) : stC l c n b = (2 * c + b, n + 1, 0, false) := by
  unfold stC
  rw [if_pos ⟨hv, hb⟩, hf]
end Go.Proofs.Ytbegpakjojiblab
