/- What law PackageMergeWhole needs (mathematics over tallies). -/
import Derived.Test.YtemjlmeakkknbaaLd
set_option linter.unusedVariables false
set_option linter.unusedSimpArgs false
namespace Go.Proofs.Ytemjlmeakkknbaa
open Go.RowKit

theorem lenQ_get {t : List Int} (ht : Tal t) {L : Int} (h : LOk t L) {s : Nat} (hs : s < 258) : (lenQ t L).getD s 0 = ((lenV t L.toNat s : Nat) : Int) := (lenQ_is ht.1 h).2 s hs
/-- How many of the first k lengths are above 0. -/
def cntQ (q : List Int) (k : Nat) : Int := sumR k fun s => if 0 < q.getD s 0 then 1 else 0
theorem cntQ_succ (q : List Int) (k : Nat) : cntQ q (k + 1) = cntQ q k + if 0 < q.getD k 0 then 1 else 0 := rfl
theorem cntQ_bd (q : List Int) (k : Nat) : 0 ≤ cntQ q k ∧ cntQ q k ≤ k := by
  induction k with
  | zero => exact ⟨Int.le_refl _, Int.le_refl _⟩
  | succ k ih =>
    rw [cntQ_succ]
    split <;> omega
theorem whole_cnt {t : List Int} (ht : Tal t) {L : Int} (h : LOk t L) : cntQ (lenQ t L) 258 = ((lvT t).length : Int) := by
  obtain ⟨h1, h2, h3⟩ := lok_lim h
  rw [← lenV_count h1 h3, ht.1]
  apply sumR_congr
  intro s hs
  rw [lenQ_get ht h hs]
  by_cases e : 0 < lenV t L.toNat s
  · rw [if_pos e, if_pos (by omega)]
  · rw [if_neg e, if_neg (by omega)]
theorem kr1_nat (n : Nat) : kr1 (n : Int) = if 0 < n then ((2 ^ (15 - n) : Nat) : Int) else 0 := by
  unfold kr1
  rw [Int.toNat_natCast]
  by_cases e : 0 < n
  · rw [if_pos e, if_pos (by omega)]
  · rw [if_neg e, if_neg (by omega)]
theorem whole_krS {t : List Int} (ht : Tal t) {L : Int} (h : LOk t L) : krS (lenQ t L) 258 = sumR t.length fun s => if 0 < lenV t L.toNat s then ((2 ^ (15 - lenV t L.toNat s) : Nat) : Int) else 0 := by
  unfold krS
  rw [ht.1]
  apply sumR_congr
  intro s hs
  rw [lenQ_get ht h hs, kr1_nat]
theorem whole_sum2 {t : List Int} (ht : Tal t) {L : Int} (h : LOk t L) (h2 : 2 ≤ (lvT t).length) : krS (lenQ t L) 258 = 32768 := by
  obtain ⟨g1, g2, g3⟩ := lok_lim h
  rw [whole_krS ht h]
  exact lenV_sum h.1 g1 g2 g3 h2
theorem whole_sum1 {t : List Int} (ht : Tal t) {L : Int} (h : LOk t L) (h1 : (lvT t).length = 1) : krS (lenQ t L) 258 = 16384 := by
  rw [whole_krS ht h]
  exact lenV_sum1 h1
theorem whole_at {t : List Int} (ht : Tal t) {L : Int} (h : LOk t L) (i : Nat) (hi : i < (ordL t).length) : ∃ s : Nat, (ordL t).getD i 0 = s ∧ s < 258 ∧ 1 ≤ t.getD s 0 ∧ 1 ≤ (lenQ t L).getD s 0 ∧ (lenQ t L).getD s 0 ≤ L := by
  rw [ordL_len] at hi
  obtain ⟨g1, g2, g3⟩ := lok_lim h
  obtain ⟨s, h1, h2, h3, _⟩ := ordL_at t i hi
  obtain ⟨s', hs', e, _⟩ : ∃ s', s' < 258 ∧ s' = s ∧ True := by
    obtain ⟨s', k1, k2, k3, k4⟩ := lvT_mem (List.getElem_mem hi)
    refine ⟨s', by rw [← ht.1]; exact k1, ?_, trivial⟩
    have e2 : (ordL t).getD i 0 = (lvT t)[i].1 := by rw [ordL, List.getD_eq_getElem?_getD, List.getElem?_map, List.getElem?_eq_getElem hi]; rfl
    omega
  subst e
  refine ⟨s', h1, hs', h3, ?_, ?_⟩
  · rw [lenQ_get ht h hs']
    have := lenV_pos g1 g3 (s := s') (by rw [ht.1]; exact hs') (by omega)
    omega
  · rw [lenQ_get ht h hs']
    have := lenV_le g1 g3 s'
    have := h.2.1
    omega
theorem whole_ord {t : List Int} (ht : Tal t) {L : Int} (h : LOk t L) (i : Nat) (hi : i + 1 < (ordL t).length) (p s : Nat) (hp : (ordL t).getD i 0 = p) (hs : (ordL t).getD (i + 1) 0 = s) :
    (t.getD p 0 < t.getD s 0 ∨ t.getD p 0 = t.getD s 0 ∧ p < s) ∧ (lenQ t L).getD s 0 ≤ (lenQ t L).getD p 0 := by
  obtain ⟨g1, g2, g3⟩ := lok_lim h
  obtain ⟨p', e1, k1, _⟩ := whole_at ht h i (by omega)
  obtain ⟨s', e2, k2, _⟩ := whole_at ht h (i + 1) hi
  obtain rfl : p' = p := by omega
  obtain rfl : s' = s := by omega
  rw [ordL_len] at hi
  refine ⟨ordL_ord t i hi p' s' hp hs, ?_⟩
  rw [lenQ_get ht h k1, lenQ_get ht h k2]
  have := ordL_mono g1 g3 i hi p' s' hp hs
  omega
theorem lenE_two {t : List Int} {L : Int} (h : lenE t L ≠ 0) : lenE t L = 2 ∧ lenQ t L = zL := by
  by_cases hk : LOk t L
  · exact absurd (lenE_ok hk) h
  · exact ⟨(lenQ_no hk).2, (lenQ_no hk).1⟩
theorem ordV_ok {t : List Int} {L : Int} (h : LOk t L) : ordV t = ordL t := if_pos h.1
end Go.Proofs.Ytemjlmeakkknbaa
