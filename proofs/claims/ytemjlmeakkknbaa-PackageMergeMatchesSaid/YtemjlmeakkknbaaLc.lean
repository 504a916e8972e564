/- What the laws of stage 7 need of Lengths' answers (mathematics over tallies). -/
import Derived.Test.YtemjlmeakkknbaaLe
set_option linter.unusedVariables false
set_option linter.unusedSimpArgs false
namespace Go.Proofs.Ytemjlmeakkknbaa
open Go.RowKit

theorem tot_len {t : List Int} (ht : Tal t) {L : Int} (h : LOk t L) : totV t (lenQ t L) = sumR t.length fun s => t.getD s 0 * ((lenV t L.toNat s : Nat) : Int) := by
  have hq := lenQ_is ht.1 h
  unfold totV totR
  rw [if_pos h.1, ← ht.1]
  apply sumR_congr
  intro s hs
  rw [hq.2 s (by rw [← ht.1]; exact hs)]
theorem lok_lim {t : List Int} {L : Int} (h : LOk t L) : 1 ≤ L.toNat ∧ L.toNat ≤ 15 ∧ (lvT t).length ≤ 2 ^ L.toNat := ⟨by have := h.2.1; omega, by have := h.2.2.1; omega, h.2.2.2⟩
theorem lenQ_lng {t : List Int} (ht : Tal t) (L : Int) : Lng (lenQ t L) := by
  by_cases h : LOk t L
  · refine (lenQ_is ht.1 h).lng fun s _ => ?_
    obtain ⟨h1, h2, h3⟩ := lok_lim h
    have := lenV_le h1 h3 s
    omega
  · rw [(lenQ_no h).1]
    exact zL_lng
theorem lenQ_le {t : List Int} (ht : Tal t) (L : Int) (s : Nat) : (lenQ t L).getD s 0 ≤ 15 := by
  by_cases hs : s < 258
  · by_cases h : LOk t L
    · have e : (lenQ t L).getD s 0 = ((lenV t L.toNat s : Nat) : Int) := (lenQ_is ht.1 h).2 s hs
      rw [e]
      obtain ⟨h1, h2, h3⟩ := lok_lim h
      have := lenV_le h1 h3 s
      omega
    · rw [(lenQ_no h).1, zL_get]
      omega
  · rw [List.getD_eq_getElem?_getD, List.getElem?_eq_none (by rw [(lenQ_lng ht L).1]; omega)]
    decide
theorem limit_tot {t : List Int} (ht : Tal t) {a b : Int} (ha : LOk t a) (hb : LOk t b) (hab : a ≤ b) : totV t (lenQ t b) ≤ totV t (lenQ t a) := by
  rw [tot_len ht ha, tot_len ht hb]
  obtain ⟨h1, h2, h3⟩ := lok_lim ha
  exact total_limit ha.1 h1 (by omega) h3
/-- All counts doubled. -/
def Dbl (t q : List Int) (k : Nat) : Prop := q.length = 258 ∧ ∀ s : Nat, q.getD s 0 = if s < k then 2 * t.getD s 0 else 0
theorem Dbl.start (t : List Int) : Dbl t zT 0 := ⟨zT_tal.1, fun s => by rw [zT_get, if_neg (by omega)]⟩
theorem Dbl.step {t q : List Int} {k : Nat} (h : Dbl t q k) (hk : k < 258) : Dbl t (q.set k (2 * t.getD k 0)) (k + 1) := by
  refine ⟨by rw [List.length_set]; exact h.1, fun s => ?_⟩
  rw [List.getD_eq_getElem?_getD, List.getElem?_set]
  by_cases e : k = s
  · subst e
    rw [if_pos rfl, if_pos (by rw [h.1]; exact hk), if_pos (by omega)]
    rfl
  · rw [if_neg e, ← List.getD_eq_getElem?_getD, h.2 s]
    by_cases h2 : s < k
    · rw [if_pos h2, if_pos (by omega)]
    · rw [if_neg h2, if_neg (by omega)]
theorem Dbl.all {t q : List Int} (ht : Tal t) (h : Dbl t q 258) : ∀ s : Nat, q.getD s 0 = 2 * t.getD s 0 := fun s => by
  rw [h.2 s]
  by_cases hs : s < 258
  · rw [if_pos hs]
  · rw [if_neg hs, List.getD_eq_getElem?_getD, List.getElem?_eq_none (by rw [ht.1]; omega)]
    rfl
theorem Dbl.tal {t q : List Int} {k : Nat} (h : Dbl t q k) (hv : ∀ j, j < k → 0 ≤ t.getD j 0 ∧ t.getD j 0 ≤ 1073741823) : Tal q := by
  refine ⟨h.1, fun z hz => ?_⟩
  obtain ⟨i, hi, rfl⟩ := List.getElem_of_mem hz
  have e := h.2 i
  rw [List.getD_eq_getElem?_getD, List.getElem?_eq_getElem hi] at e
  simp only [Option.getD_some] at e
  rw [e]
  by_cases hk : i < k
  · have := hv i hk
    rw [if_pos hk]
    exact WalkArith.wf_i64 ⟨by omega, by omega⟩
  · rw [if_neg hk]
    decide
theorem Dbl.vt {t q : List Int} (h : Dbl t q 258) (hv : ∀ j, j < 258 → 0 ≤ t.getD j 0 ∧ t.getD j 0 ≤ 1073741823) : VT q := by
  rw [vt_at q h.1]
  intro i hi
  rw [h.2 i, if_pos hi]
  have := hv i hi
  omega
theorem Dbl.same {t q : List Int} (ht : Tal t) (h : Dbl t q 258) (hv : ∀ j, j < 258 → 0 ≤ t.getD j 0 ∧ t.getD j 0 ≤ 1073741823) (L : Int) : lenQ q L = lenQ t L ∧ lenE q L = lenE t L := by
  have hq := Dbl.vt h hv
  have hd := Dbl.all ht h
  have hl : q.length = t.length := by rw [h.1, ht.1]
  have hvt : VT t := (vt_at t ht.1).2 fun i hi => by have := hv i hi; omega
  have hok : LOk q L ↔ LOk t L := by
    unfold LOk
    rw [lvT_dbl hl hd, List.length_map]
    constructor
    · rintro ⟨_, h2⟩; exact ⟨hvt, h2⟩
    · rintro ⟨_, h2⟩; exact ⟨hq, h2⟩
  by_cases hk : LOk t L
  · refine ⟨?_, by rw [lenE_ok hk, lenE_ok (hok.2 hk)]⟩
    refine ((lenQ_is h.1 (hok.2 hk)).congr fun s _ => ?_).eq (lenQ_is ht.1 hk)
    exact lenV_dbl hl hd _ s
  · have hk2 : ¬ LOk q L := fun e => hk (hok.1 e)
    rw [(lenQ_no hk).1, (lenQ_no hk).2, (lenQ_no hk2).1, (lenQ_no hk2).2]
    exact ⟨rfl, rfl⟩
end Go.Proofs.Ytemjlmeakkknbaa
