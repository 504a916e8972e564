/- Encoding with a prefix code: mathematics. -/
import Derived.Test.YtbegpakjojiblabCnC
import Derived.Test.YtbegpakjojiblabBits
set_option linter.unusedVariables false
set_option linter.unusedSimpArgs false
namespace Go.Proofs.Ytbegpakjojiblab
open Go.RowKit

/-- The last of the first k symbols that has this code with this length. -/
def fndL (l : List Int) (c m : Int) : Nat → Option Nat
  | 0 => none
  | k + 1 => if 0 < l.getD k 0 ∧ l.getD k 0 = m ∧ cdL l k = c then some k else fndL l c m k
theorem fndL_no (l : List Int) (c m : Int) (k : Nat) (h : ¬ 0 < l.getD k 0) : fndL l c m (k + 1) = fndL l c m k := if_neg fun e => h e.1
theorem fndL_yes (l : List Int) (k : Nat) (h : 0 < l.getD k 0) : fndL l (cdL l k) (l.getD k 0) (k + 1) = some k := if_pos ⟨h, rfl, rfl⟩
theorem fndL_other (l : List Int) (c m : Int) (k : Nat) (h : ¬ (l.getD k 0 = m ∧ cdL l k = c)) : fndL l c m (k + 1) = fndL l c m k := if_neg fun e => h e.2
theorem fndL_lt (l : List Int) (c m : Int) : ∀ k s, fndL l c m k = some s → s < k
  | 0, s, h => by cases h
  | k + 1, s, h => by
    unfold fndL at h
    split at h
    · injection h with h; omega
    · have := fndL_lt l c m k s h; omega
theorem fndL_is (l : List Int) (c m : Int) : ∀ k s, fndL l c m k = some s → s < k ∧ 0 < l.getD s 0 ∧ l.getD s 0 = m ∧ cdL l s = c
  | 0, s, h => by cases h
  | k + 1, s, h => by
    unfold fndL at h
    split at h
    · rename_i hc
      injection h with h
      subst h
      exact ⟨by omega, hc⟩
    · have := fndL_is l c m k s h
      exact ⟨by omega, this.2⟩
theorem fndL_none (l : List Int) (c m : Int) : ∀ k, fndL l c m k = none → ∀ s, s < k → ¬ (0 < l.getD s 0 ∧ l.getD s 0 = m ∧ cdL l s = c)
  | 0, _, s, hs => by omega
  | k + 1, h, s, hs => by
    unfold fndL at h
    split at h
    · cases h
    · rename_i hc
      by_cases e : s = k
      · rw [e]; exact hc
      · exact fndL_none l c m k h s (by omega)
theorem cdL_nat {l : List Int} (h : VL l) {s : Nat} (hs : s < 258) (h0 : 0 < l.getD s 0) : cdL l s = (codeV l s : Nat) := by
  have := codeV_fc h s hs h0
  unfold cdL
  exact this.symm
/-- The start of a symbol's span among the strings of 15 bits. -/
def spN (l : List Int) (s : Nat) : Nat := codeV l s * wN (lnN l s)
theorem spN_hit {l : List Int} (h : VL l) {s : Nat} (h0 : 0 < l.getD s 0) : hitN l (spN l s) s :=
  ⟨by omega, h.small s, Nat.mul_div_cancel _ (wN_pos _)⟩
theorem codeV_lt {l : List Int} (h : VL l) {s : Nat} (hs : s < 258) (h0 : 0 < l.getD s 0) : codeV l s < 2 ^ lnN l s := by
  have hm : s ∈ ordN l 15 := (mem_ordN l s 15).2 ⟨hs, by omega, h.small s⟩
  obtain ⟨hp, hg⟩ := getD_plN l hm
  have hk : stN (lnN l) (ordN l 15) (ordN l 15).length ≤ 32768 := by rw [stN_end]; exact h.kf
  have := (ordN_srt l).lt hk (plN l s) hp
  rw [hg] at this
  rw [codeV, if_pos hm]
  exact this
/-- A code that begins another one is it. -/
theorem code_prefix {l : List Int} (h : VL l) {s t : Nat} (hs : s < 258) (ht : t < 258) (h0 : 0 < l.getD s 0) (t0 : 0 < l.getD t 0) (hle : lnN l t ≤ lnN l s) (e : codeV l s / 2 ^ (lnN l s - lnN l t) = codeV l t) : t = s := by
  refine hitN_one l (spN l s) t s ht hs ⟨by omega, h.small t, ?_⟩ (spN_hit h h0)
  have h15 : lnN l t ≤ 15 := by have := h.small t; unfold lnN; omega
  have h15s : lnN l s ≤ 15 := by have := h.small s; unfold lnN; omega
  rw [spN, ← e, wN_mul hle h15s]
  rw [Nat.mul_comm (2 ^ (lnN l s - lnN l t)) (wN (lnN l s)), ← Nat.div_div_eq_div_mul, Nat.mul_div_cancel _ (wN_pos _)]
theorem fndL_one {l : List Int} (h : VL l) {s : Nat} (hs : s < 258) (h0 : 0 < l.getD s 0) : fndL l (cdL l s) (l.getD s 0) 258 = some s := by
  cases e : fndL l (cdL l s) (l.getD s 0) 258 with
  | none => exact absurd ⟨h0, rfl, rfl⟩ (fndL_none l _ _ 258 e s hs)
  | some t =>
    obtain ⟨t1, t2, t3, t4⟩ := fndL_is l _ _ 258 t e
    have hl : lnN l t = lnN l s := by unfold lnN; rw [t3]
    rw [cdL_nat h hs h0, cdL_nat h t1 t2] at t4
    rw [code_prefix h hs t1 h0 t2 (by omega) (by rw [hl, Nat.sub_self, Nat.pow_zero, Nat.div_one]; omega)]
theorem fndL_pre {l : List Int} (h : VL l) {s : Nat} (hs : s < 258) (h0 : 0 < l.getD s 0) (m : Nat) (hm : m < lnN l s) : fndL l ((codeV l s / 2 ^ (lnN l s - m) : Nat) : Int) (m : Int) 258 = none := by
  cases e : fndL l ((codeV l s / 2 ^ (lnN l s - m) : Nat) : Int) (m : Int) 258 with
  | none => rfl
  | some t =>
    obtain ⟨t1, t2, t3, t4⟩ := fndL_is l _ _ 258 t e
    have hl : lnN l t = m := by unfold lnN; omega
    rw [cdL_nat h t1 t2] at t4
    have := code_prefix h hs t1 h0 t2 (by omega) (by rw [hl]; omega)
    rw [this] at hl
    omega
/-- A symbol's code. -/
def cbV (l : List Int) (s : Nat) : List Int := bitsV (cdL l s) (lnN l s)
theorem cbV_len (l : List Int) (s : Nat) : (cbV l s).length = lnN l s := bitsV_length _ _
/-- The symbols can be encoded. -/
def okS (l : List Int) (s : Int) : Bool := decide (0 ≤ s) && decide (s < 258) && decide (0 < l.getD s.toNat 0)
def canV (l : List Int) (q : List Int) : Bool := decide (ks l ≤ 32768) && q.all (okS l)
/-- The bits of the symbols. -/
def spV (l : List Int) : List Int → List Int
  | [] => []
  | s :: q => cbV l s.toNat ++ spV l q
theorem spV_app (l : List Int) (p q : List Int) : spV l (p ++ q) = spV l p ++ spV l q := by
  induction p with
  | nil => rfl
  | cons s p ih => show cbV l s.toNat ++ spV l (p ++ q) = _; rw [ih]; exact (List.append_assoc _ _ _).symm
theorem spV_bin (l : List Int) : ∀ q, Bin (spV l q)
  | [] => Bin.nil
  | s :: q => (bitsV_bin _ _).append (spV_bin l q)
theorem spV_len {l : List Int} (h : ∀ s, l.getD s 0 ≤ 15) : ∀ q : List Int, (spV l q).length ≤ 15 * q.length
  | [] => by simp [spV]
  | s :: q => by
    have := spV_len h q
    have h1 := h s.toNat
    show (cbV l s.toNat ++ spV l q).length ≤ _
    rw [List.length_append, cbV_len, List.length_cons]
    unfold lnN
    omega
/-- Reading bits: the code so far, its bits, the symbols so far. -/
def rdS (l : List Int) (c : Int) (n : Nat) (out : List Int) : List Int → Option (List Int)
  | [] => if 0 < n then none else some out
  | b :: bs =>
    match fndL l (2 * c + b) ((n + 1 : Nat) : Int) 258 with
    | some s => rdS l 0 0 (out ++ [(s : Int)]) bs
    | none => if 15 < n + 1 then none else rdS l (2 * c + b) (n + 1) out bs
theorem rdS_some (l : List Int) (c : Int) (n : Nat) (out : List Int) (b : Int) (bs : List Int) (s : Nat) (h : fndL l (2 * c + b) ((n + 1 : Nat) : Int) 258 = some s) : rdS l c n out (b :: bs) = rdS l 0 0 (out ++ [(s : Int)]) bs := by rw [rdS, h]
theorem rdS_far (l : List Int) (c : Int) (n : Nat) (out : List Int) (b : Int) (bs : List Int) (h : fndL l (2 * c + b) ((n + 1 : Nat) : Int) 258 = none) (hn : 15 < n + 1) : rdS l c n out (b :: bs) = none := by rw [rdS, h]; exact if_pos hn
theorem rdS_on (l : List Int) (c : Int) (n : Nat) (out : List Int) (b : Int) (bs : List Int) (h : fndL l (2 * c + b) ((n + 1 : Nat) : Int) 258 = none) (hn : ¬ 15 < n + 1) : rdS l c n out (b :: bs) = rdS l (2 * c + b) (n + 1) out bs := by rw [rdS, h]; exact if_neg hn
/-- Reading one code. -/
theorem rdS_code {l : List Int} (h : VL l) {s : Nat} (hs : s < 258) (h0 : 0 < l.getD s 0) (out bs : List Int) : ∀ j, j < lnN l s → rdS l ((codeV l s / 2 ^ (j + 1) : Nat) : Int) (lnN l s - (j + 1)) out (bitsV (cdL l s) (j + 1) ++ bs) = rdS l 0 0 (out ++ [(s : Int)]) bs
  | 0, hj => by
    rw [bitsV_cons, show bitsV (cdL l s) 0 = [] from rfl]
    refine rdS_some l _ _ out _ bs s ?_
    have e1 : (2 * ((codeV l s / 2 ^ (0 + 1) : Nat) : Int) + cdL l s / ((2 ^ 0 : Nat) : Int) % 2) = cdL l s := by
      rw [cdL_nat h hs h0]
      simp
      omega
    have e2 : ((lnN l s - (0 + 1) + 1 : Nat) : Int) = l.getD s 0 := by unfold lnN at hj ⊢; omega
    rw [e1, e2]
    exact fndL_one h hs h0
  | j + 1, hj => by
    rw [bitsV_cons, List.cons_append]
    have e1 : (2 * ((codeV l s / 2 ^ (j + 1 + 1) : Nat) : Int) + cdL l s / ((2 ^ (j + 1) : Nat) : Int) % 2) = ((codeV l s / 2 ^ (j + 1) : Nat) : Int) := by
      rw [cdL_nat h hs h0]
      have := Nat.div_div_eq_div_mul (codeV l s) (2 ^ (j + 1)) 2
      rw [← Nat.pow_succ] at this
      rw [← this]
      have e3 : ((codeV l s : Nat) : Int) / ((2 ^ (j + 1) : Nat) : Int) = ((codeV l s / 2 ^ (j + 1) : Nat) : Int) := (Int.natCast_ediv _ _).symm
      rw [e3]
      omega
    have e2 : lnN l s - (j + 1 + 1) + 1 = lnN l s - (j + 1) := by omega
    have h15 : lnN l s ≤ 15 := by have := h.small s; unfold lnN; omega
    have hf := fndL_pre h hs h0 (lnN l s - (j + 1)) (by omega)
    rw [show lnN l s - (lnN l s - (j + 1)) = j + 1 by omega] at hf
    rw [rdS_on l _ _ out _ _ (by rw [e1, e2]; exact hf) (by omega), e1, e2]
    exact rdS_code h hs h0 out bs j (by omega)
/-- Read inverts Spell. -/
theorem rdS_sp {l : List Int} (h : VL l) : ∀ (q out : List Int), q.all (okS l) = true → rdS l 0 0 out (spV l q) = some (out ++ q)
  | [], out, _ => by simp [spV, rdS]
  | x :: q, out, hq => by
    rw [List.all_cons, Bool.and_eq_true] at hq
    unfold okS at hq
    rw [Bool.and_eq_true, Bool.and_eq_true, decide_eq_true_iff, decide_eq_true_iff, decide_eq_true_iff] at hq
    obtain ⟨⟨⟨h1, h2⟩, h3⟩, h4⟩ := hq
    obtain ⟨s, rfl⟩ : ∃ s : Nat, x = (s : Int) := ⟨x.toNat, by omega⟩
    rw [Int.toNat_natCast] at h3
    have hs : s < 258 := by omega
    have hl : 0 < lnN l s := by unfold lnN; omega
    have hc := codeV_lt h hs h3
    have := rdS_code h hs h3 out (spV l q) (lnN l s - 1) (by omega)
    rw [show lnN l s - 1 + 1 = lnN l s by omega, Nat.div_eq_of_lt hc, Nat.sub_self] at this
    show rdS l ((0 : Nat) : Int) 0 out (cbV l (s : Int).toNat ++ spV l q) = _
    rw [Int.toNat_natCast]
    unfold cbV
    rw [this, rdS_sp h q _ h4, List.append_assoc]
    rfl
/-- Spell inverts Read. -/
theorem sp_rdS {l : List Int} : ∀ (bs pre out q : List Int), Bin bs → Bin pre → rdS l (valV pre) pre.length out bs = some q → ∃ p, q = out ++ p ∧ p.all (okS l) = true ∧ spV l p = pre ++ bs
  | [], pre, out, q, _, _, h => by
    rw [rdS] at h
    split at h
    · cases h
    · injection h with h
      have : pre = [] := List.eq_nil_of_length_eq_zero (by omega)
      exact ⟨[], by rw [h, List.append_nil], rfl, by rw [this]; rfl⟩
  | b :: bs, pre, out, q, hb, hp, h => by
    have hb1 : Bin [b] := fun x hx => hb x (by simp at hx; rw [hx]; simp)
    have hbs : Bin bs := fun x hx => hb x (List.mem_cons_of_mem _ hx)
    have hpb : Bin (pre ++ [b]) := hp.append hb1
    have hv : valV (pre ++ [b]) = 2 * valV pre + b := valV_snoc _ _
    have hl : (pre ++ [b]).length = pre.length + 1 := by simp
    cases e : fndL l (2 * valV pre + b) ((pre.length + 1 : Nat) : Int) 258 with
    | some s =>
      rw [rdS_some l _ _ _ _ _ s e] at h
      obtain ⟨p, h1, h2, h3⟩ := sp_rdS bs [] _ q hbs Bin.nil h
      obtain ⟨t1, t2, t3, t4⟩ := fndL_is l _ _ 258 s e
      refine ⟨(s : Int) :: p, by rw [h1, List.append_assoc]; rfl, ?_, ?_⟩
      · rw [List.all_cons, h2, Bool.and_true]
        unfold okS
        simp
        exact ⟨by omega, by simpa using t2⟩
      · show cbV l (s : Int).toNat ++ spV l p = _
        rw [h3, Int.toNat_natCast, List.nil_append, cbV, t4, show lnN l s = (pre ++ [b]).length by unfold lnN; rw [hl]; omega, ← hv, bits_valV _ hpb, List.append_assoc]
        rfl
    | none =>
      by_cases hn : 15 < pre.length + 1
      · rw [rdS_far l _ _ _ _ _ e hn] at h
        cases h
      · rw [rdS_on l _ _ _ _ _ e hn, ← hv, ← hl] at h
        obtain ⟨p, h1, h2, h3⟩ := sp_rdS bs (pre ++ [b]) out q hbs hpb h
        exact ⟨p, h1, h2, by rw [h3, List.append_assoc]; rfl⟩
theorem sp_read {l : List Int} (bs q : List Int) (hb : Bin bs) (h : rdS l 0 0 [] bs = some q) : q.all (okS l) = true ∧ spV l q = bs := by
  obtain ⟨p, h1, h2, h3⟩ := sp_rdS bs [] [] q hb Bin.nil h
  rw [List.nil_append] at h1 h3
  rw [h1]
  exact ⟨h2, h3⟩
end Go.Proofs.Ytbegpakjojiblab
