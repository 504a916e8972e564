/- Codes by counts are the codes by order. -/
import Derived.Test.YtbegpakjojiblabCnM
import Derived.Test.YtbegpakjojiblabCnF
set_option linter.unusedVariables false
set_option linter.unusedSimpArgs false
namespace Go.Proofs.Ytbegpakjojiblab
open Go.RowKit

theorem wt_le_sum (z : Int) : ∀ l : List Int, z ∈ l → wt z ≤ (l.map wt).sum
  | [], h => by simp at h
  | a :: l, h => by
    have hp : ∀ l : List Int, 0 ≤ (l.map wt).sum := by
      intro l
      induction l with
      | nil => simp
      | cons b l ih =>
        have := wt_bd b
        rw [List.map_cons, List.sum_cons]
        omega
    replace hp := hp l
    rw [List.map_cons, List.sum_cons]
    have ha := wt_bd a
    rcases List.mem_cons.1 h with rfl | h
    · omega
    · have := wt_le_sum z l h
      omega
theorem ks_small {l : List Int} (h : ks l ≤ 32768) (s : Nat) : l.getD s 0 ≤ 15 := by
  by_cases hs : s < l.length
  · have hm : l.getD s 0 ∈ l := by
      rw [List.getD_eq_getElem?_getD, List.getElem?_eq_getElem hs]
      exact List.getElem_mem hs
    have h1 := wt_le_sum _ l hm
    by_cases h2 : 15 < l.getD s 0
    · have : wt (l.getD s 0) = 32769 := by rw [wt, if_neg (by omega), if_pos h2]
      unfold ks at h
      omega
    · omega
  · rw [List.getD_eq_getElem?_getD, List.getElem?_eq_none (by omega)]
    decide
/-- How many of the first k symbols have length n. -/
theorem cc_filter (l : List Int) (n : Nat) : ∀ k, k ≤ l.length → cc l n k = (((List.range k).filter fun s => decide (l.getD s 0 = (n : Int))).length : Nat)
  | 0, _ => by rw [cc_zero]; rfl
  | k + 1, hk => by
    rw [cc_step l n k (by omega), cc_filter l n k (by omega), List.range_succ, List.filter_append, List.length_append]
    by_cases h : l.getD k 0 = (n : Int)
    · rw [if_pos h, List.filter_cons_of_pos (by simpa using h)]
      rfl
    · rw [if_neg h, List.filter_cons_of_neg (by simpa using h)]
      rfl
theorem cc_sym {l : List Int} (h : l.length = 258) (n : Nat) : cc l n 258 = ((symN l n).length : Nat) := cc_filter l n 258 (by omega)
/-- The smallest code of each length. -/
def fcN (l : List Int) : Nat → Nat
  | 0 => 0
  | 1 => 0
  | n + 2 => (fcN l (n + 1) + (symN l (n + 1)).length) * 2
theorem cntT_get (l : List Int) (n : Nat) (hn : n < 16) : (cntT l 258).getD n 0 = cc l n 258 := row16_get _ n hn
theorem fcL_nat {l : List Int} (h : l.length = 258) : ∀ n, n ≤ 16 → fcL (cntT l 258) n = (fcN l n : Nat)
  | 0, _ => rfl
  | 1, _ => rfl
  | n + 2, hn => by
    rw [fcL, fcN, fcL_nat h (n + 1) (by omega), cntT_get l (n + 1) (by omega), cc_sym h]
    omega
/-- The weights of the symbols of lengths 1 to n. -/
def baN (l : List Int) (n : Nat) : Nat := ((ordN l n).map fun s => wN (lnN l s)).sum
theorem sum_same (f : Nat → Nat) (c : Nat) : ∀ q : List Nat, (∀ s ∈ q, f s = c) → (q.map f).sum = q.length * c
  | [], _ => by simp
  | a :: q, h => by
    rw [List.map_cons, List.sum_cons, h a (by simp), sum_same f c q (fun s hs => h s (by simp [hs])), List.length_cons, Nat.add_mul, Nat.one_mul, Nat.add_comm]
theorem lnN_sym {l : List Int} {n s : Nat} (h : l.getD s 0 = (n : Int)) : lnN l s = n := by
  unfold lnN
  omega
theorem baN_succ (l : List Int) (n : Nat) : baN l (n + 1) = baN l n + (symN l (n + 1)).length * wN (n + 1) := by
  unfold baN
  rw [ordN, List.map_append, List.sum_append, sum_same _ (wN (n + 1)) (symN l (n + 1)) (fun s hs => by rw [lnN_sym ((mem_symN l (n + 1) s).1 hs).2])]
theorem fcN_ba (l : List Int) : ∀ n, n + 1 ≤ 15 → fcN l (n + 1) * wN (n + 1) = baN l n
  | 0, _ => by rw [fcN, Nat.zero_mul]; rfl
  | n + 1, h => by
    have e : wN (n + 1) = 2 * wN (n + 2) := by
      have := wN_mul (m := n + 1) (n := n + 2) (by omega) (by omega)
      rwa [show n + 2 - (n + 1) = 1 by omega, Nat.pow_one] at this
    rw [baN_succ, ← fcN_ba l n (by omega), ← Nat.add_mul, fcN, Nat.mul_assoc, ← e]
theorem ordN_split (l : List Int) (n : Nat) : ∀ m, n ≤ m → ∃ r, ordN l m = ordN l n ++ r
  | 0, h => by
    obtain rfl : n = 0 := by omega
    exact ⟨[], by simp⟩
  | m + 1, h => by
    by_cases e : n = m + 1
    · subst e
      exact ⟨[], by simp⟩
    · obtain ⟨r, hr⟩ := ordN_split l n m (by omega)
      exact ⟨r ++ symN l (m + 1), by rw [ordN, hr, List.append_assoc]⟩
theorem baN_mono (l : List Int) {n m : Nat} (h : n ≤ m) : baN l n ≤ baN l m := by
  obtain ⟨r, hr⟩ := ordN_split l n m h
  unfold baN
  rw [hr, List.map_append, List.sum_append]
  omega
theorem baN_15 (l : List Int) : baN l 15 = kfN l := by
  unfold baN
  rw [sum_ord]
  rfl
theorem wt_wN {z : Int} (h0 : 1 ≤ z) (h15 : z ≤ 15) : wt z = (wN z.toNat : Nat) := by
  rcases mid_cases (z := z) (by omega) (by omega) with rfl | rfl | rfl | rfl | rfl | rfl | rfl | rfl | rfl | rfl | rfl | rfl | rfl | rfl | rfl <;> rfl
theorem list_range {l : List Int} {n : Nat} (h : l.length = n) : l = (List.range n).map fun s => l.getD s 0 := by
  apply List.ext_getElem?
  intro i
  rw [List.getElem?_map]
  by_cases hi : i < n
  · rw [List.getElem?_range hi, List.getElem?_eq_getElem (by omega), Option.map_some, List.getD_eq_getElem?_getD, List.getElem?_eq_getElem (by omega)]
    rfl
  · rw [List.getElem?_eq_none (by omega), List.getElem?_eq_none (by simpa using hi)]
    rfl
theorem sum_cast (f : Nat → Nat) (g : Nat → Int) : ∀ q : List Nat, (∀ s ∈ q, g s = (f s : Int)) → (q.map g).sum = ((q.map f).sum : Nat)
  | [], _ => rfl
  | a :: q, h => by
    rw [List.map_cons, List.map_cons, List.sum_cons, List.sum_cons, h a (by simp), sum_cast f g q (fun s hs => h s (by simp [hs]))]
    omega
/-- Kraft's sum of lengths of at most 15. -/
theorem ks_kf {l : List Int} (h : Lng l) (h15 : ∀ s, l.getD s 0 ≤ 15) : ks l = (kfN l : Nat) := by
  unfold ks kfN
  rw [list_range h.1, List.map_map]
  rw [← list_range h.1]
  refine sum_cast _ _ _ fun s hs => ?_
  show wt (l.getD s 0) = _
  by_cases h0 : 1 ≤ l.getD s 0
  · rw [if_pos ⟨h0, h15 s⟩]
    exact wt_wN h0 (h15 s)
  · rw [if_neg (by omega), wt, if_pos (by omega)]
    rfl
/-- Lengths that are valid. -/
structure VL (l : List Int) : Prop where
  lng : Lng l
  sum : ks l ≤ 32768
theorem VL.small {l : List Int} (h : VL l) (s : Nat) : l.getD s 0 ≤ 15 := ks_small h.sum s
theorem VL.kf {l : List Int} (h : VL l) : kfN l ≤ 32768 := by
  have h1 := h.sum
  rw [ks_kf h.lng h.small] at h1
  omega
theorem VL.fc {l : List Int} (h : VL l) {n : Nat} (hn : n < 16) : fcN l n + (symN l n).length ≤ 32768 := by
  match n, hn with
  | 0, _ =>
    have := List.length_filter_le (fun s => decide (l.getD s 0 = ((0 : Nat) : Int))) (List.range 258)
    rw [List.length_range] at this
    have e : fcN l 0 = 0 := rfl
    unfold symN
    omega
  | n + 1, hn =>
    have h1 := fcN_ba l n (by omega)
    have h2 := baN_succ l n
    have h3 := baN_mono l (n := n + 1) (m := 15) (by omega)
    rw [baN_15] at h3
    have h4 := h.kf
    have h5 := wN_pos (n + 1)
    rw [← h1, ← Nat.add_mul] at h2
    have h6 : fcN l (n + 1) + (symN l (n + 1)).length ≤ (fcN l (n + 1) + (symN l (n + 1)).length) * wN (n + 1) := Nat.le_mul_of_pos_right _ h5
    omega
theorem VL.fcB {l : List Int} (h : VL l) : FcB (cntT l 258) := fun n hn => by
  have := h.fc hn
  rw [cntT_get l n hn, fcL_nat h.lng.1 n (by omega), cc_sym h.lng.1]
  omega
/-- The codes as they are counted. -/
theorem codeV_fc {l : List Int} (h : VL l) (s : Nat) (hs : s < 258) (h0 : 0 < l.getD s 0) : (codeV l s : Int) = fcL (cntT l 258) (l.getD s 0).toNat + cc l (l.getD s 0).toNat s := by
  have h15 := h.small s
  obtain ⟨n, hn⟩ : ∃ n : Nat, l.getD s 0 = ((n + 1 : Nat) : Int) := ⟨(l.getD s 0).toNat - 1, by omega⟩
  have hln : lnN l s = n + 1 := lnN_sym hn
  have hm : s ∈ ordN l 15 := (mem_ordN l s 15).2 ⟨hs, by omega, h15⟩
  rw [hn, Int.toNat_natCast, fcL_nat h.lng.1 (n + 1) (by omega), cc_filter l (n + 1) s (by rw [h.lng.1]; omega)]
  obtain ⟨r, hr⟩ := ordN_split l (n + 1) 15 (by omega)
  have hq : ∃ r2, symN l (n + 1) = ((List.range s).filter fun s => decide (l.getD s 0 = ((n + 1 : Nat) : Int))) ++ s :: r2 := by
    unfold symN
    obtain ⟨m, hm⟩ : ∃ m, 258 = s + (m + 1) := ⟨257 - s, by omega⟩
    rw [hm, List.range_add, List.filter_append, List.range_succ_eq_map, List.map_cons, Nat.add_zero, List.filter_cons_of_pos (by simpa using hn)]
    exact ⟨_, rfl⟩
  obtain ⟨r2, hq⟩ := hq
  obtain ⟨F, hF⟩ : ∃ F, F = (List.range s).filter fun s => decide (l.getD s 0 = ((n + 1 : Nat) : Int)) := ⟨_, rfl⟩
  rw [← hF] at hq ⊢
  have hd : ordN l 15 = (ordN l n ++ F) ++ s :: (r2 ++ r) := by
    rw [hr, ordN, hq]
    simp
  have hnd := ordN_nodup l 15
  rw [hd, List.nodup_append] at hnd
  have hns : s ∉ ordN l n ++ F := fun e => hnd.2.2 s e s (by simp) rfl
  have hp : plN l s = (ordN l n ++ F).length := by
    unfold plN
    rw [hd, List.idxOf_append, if_neg hns, List.idxOf_cons_self, Nat.zero_add]
  have hst : stN (lnN l) (ordN l 15) (plN l s) = (fcN l (n + 1) + F.length) * wN (n + 1) := by
    unfold stN
    rw [hp, hd, List.take_left, List.map_append, List.sum_append, sum_same _ (wN (n + 1)) F (fun t ht => by
      rw [hF] at ht
      have := (List.mem_filter.1 ht).2
      rw [lnN_sym (of_decide_eq_true this)]), Nat.add_mul, fcN_ba l n (by omega)]
    rfl
  rw [codeV, if_pos hm, cdN, hst, (getD_plN l hm).2, hln, Nat.mul_div_cancel _ (wN_pos _)]
  omega
end Go.Proofs.Ytbegpakjojiblab
