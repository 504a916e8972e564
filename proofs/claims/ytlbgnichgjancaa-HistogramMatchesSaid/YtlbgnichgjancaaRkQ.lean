/- The reference's Ranks: each symbol at the number of those before it (mathematics). -/
import Derived.Test.YtlbgnichgjancaaRkN
set_option linter.unusedVariables false
set_option linter.unusedSimpArgs false
namespace Go.Proofs.Ytlbgnichgjancaa
open Go.RowKit Go.Sort

/-- Strictly in order. -/
def Str (S : List (Int × Int)) : Prop := S.Pairwise fun x y => rlt x y = true
theorem rlt_irr (x : Int × Int) : rlt x x = false := (rlt_no x x).2 (by omega)
theorem rlt_asym {x y : Int × Int} (h : rlt x y = true) : rlt y x = false := by
  rw [rlt_iff] at h
  rw [rlt_no]
  omega
theorem Str.cnt {S : List (Int × Int)} (h : Str S) : ∀ j (hj : j < S.length), S.countP (fun y => rlt y S[j]) = j := by
  induction S with
  | nil => intro j hj; simp at hj
  | cons a S ih =>
    intro j hj
    obtain ⟨h1, h2⟩ := List.pairwise_cons.1 h
    cases j with
    | zero =>
      simp only [List.getElem_cons_zero]
      rw [List.countP_eq_zero]
      intro y hy
      rcases List.mem_cons.1 hy with rfl | hy
      · rw [rlt_irr]; simp
      · rw [rlt_asym (h1 y hy)]; simp
    | succ j =>
      simp only [List.getElem_cons_succ]
      have hj' : j < S.length := by simpa using hj
      rw [List.countP_cons, ih h2 j hj', if_pos (h1 _ (List.getElem_mem hj'))]
theorem prs_length (l : List Int) : (prs l).length = (usedV l).length := by rw [prs, List.length_map]
theorem prs_nodup (l : List Int) : (prs l).Nodup := by
  have h := usedV_nodup l
  rw [← prs_fst] at h
  unfold List.Nodup at h ⊢
  rw [List.pairwise_map] at h
  exact h.imp fun hab e => hab (by rw [e])
theorem rankP_perm (l : List Int) : (rankP l).Perm (prs l) := sortR_perm _
theorem rankP_str (l : List Int) : Str (rankP l) := by
  have h1 := sortR_sorted (prs l)
  have hn : (rankP l).Nodup := (rankP_perm l).nodup_iff.2 (prs_nodup l)
  have h2 : (rankP l).Pairwise fun x y => rle x y ∧ x ≠ y := List.Pairwise.and h1 hn
  refine h2.imp ?_
  rintro x y ⟨h3, h4⟩
  rw [rle_iff] at h3
  rw [rlt_iff]
  rcases h3 with h3 | ⟨h3, h5⟩
  · exact .inl h3
  · refine .inr ⟨h3, ?_⟩
    have : x.1 ≠ y.1 := fun e => h4 (Prod.ext e h3)
    omega
/-- How many of the first k come before x. -/
def cntR (l : List Int) (x : Int × Int) (k : Nat) : Nat := ((prs l).take k).countP fun y => rlt y x
theorem cntR_le (l : List Int) (x : Int × Int) (k : Nat) : cntR l x k ≤ k := by
  refine Nat.le_trans List.countP_le_length ?_
  rw [List.length_take]
  omega
theorem cntR_step (l : List Int) (x : Int × Int) (k : Nat) (y : Int × Int) (hy : (prs l)[k]? = some y) : cntR l x (k + 1) = cntR l x k + if rlt y x = true then 1 else 0 := by
  unfold cntR
  rw [List.take_add_one, hy, List.countP_append]
  simp only [Option.toList_some, List.countP_singleton]
theorem prs_at (l : List Int) (i : Nat) (hi : i < (usedV l).length) (s : Nat) (hs : (usedV l).getD i 0 = s) : (prs l)[i]? = some ((s : Int), l.getD s 0) := by
  unfold prs
  rw [List.getElem?_map]
  rw [List.getD_eq_getElem?_getD, List.getElem?_eq_getElem hi] at hs
  simp only [Option.getD_some] at hs
  rw [List.getElem?_eq_getElem hi, Option.map_some, hs, Int.toNat_natCast]
theorem cnt_pos (l : List Int) (i : Nat) (x : Int × Int) (hx : (prs l)[i]? = some x) : (rankP l)[cntR l x (usedV l).length]? = some x := by
  have hm : x ∈ rankP l := (rankP_perm l).mem_iff.2 (List.mem_of_getElem? hx)
  obtain ⟨j, hj, e⟩ := List.getElem_of_mem hm
  have hc := (rankP_str l).cnt j hj
  rw [e, (rankP_perm l).countP_eq] at hc
  have ht : cntR l x (usedV l).length = j := by
    unfold cntR
    rw [List.take_of_length_le (by rw [prs_length]; exact Nat.le_refl _)]
    exact hc
  rw [ht, List.getElem?_eq_getElem hj, e]
/-- The first i symbols are at their places. -/
def Plc (l q : List Int) (i : Nat) : Prop := q.length = (usedV l).length ∧ ∀ j x, (rankP l)[j]? = some x → (∃ k, k < i ∧ (prs l)[k]? = some x) → q.getD j 0 = x.1
theorem Plc.start (l q : List Int) (h : q.length = (usedV l).length) : Plc l q 0 := ⟨h, fun j x _ hk => by obtain ⟨k, hk, _⟩ := hk; omega⟩
theorem rankP_inj (l : List Int) {i j : Nat} {x : Int × Int} (hi : (rankP l)[i]? = some x) (hj : (rankP l)[j]? = some x) : i = j := by
  have hn : (rankP l).Nodup := (rankP_perm l).nodup_iff.2 (prs_nodup l)
  obtain ⟨h1, e1⟩ := List.getElem?_eq_some_iff.1 hi
  obtain ⟨h2, e2⟩ := List.getElem?_eq_some_iff.1 hj
  have hp := List.pairwise_iff_getElem.1 hn
  rcases Nat.lt_trichotomy i j with h | h | h
  · exact absurd (e1.trans e2.symm) (hp i j h1 h2 h)
  · exact h
  · exact absurd (e2.trans e1.symm) (hp j i h2 h1 h)
theorem Plc.step {l q : List Int} {i : Nat} (h : Plc l q i) (x : Int × Int) (hx : (prs l)[i]? = some x) : Plc l (q.set (cntR l x (usedV l).length) x.1) (i + 1) := by
  refine ⟨by rw [List.length_set]; exact h.1, fun j y hj hk => ?_⟩
  have hc := cnt_pos l i x hx
  have hlt : cntR l x (usedV l).length < q.length := by
    have := (List.getElem?_eq_some_iff.1 hc).1
    rw [rankP, (sortR_perm _).length_eq, prs_length] at this
    rw [h.1]
    exact this
  rw [List.getD_eq_getElem?_getD, List.getElem?_set]
  by_cases e : cntR l x (usedV l).length = j
  · subst e
    rw [if_pos rfl, if_pos hlt]
    rw [hc] at hj
    injection hj with hj
    rw [hj]
    rfl
  · rw [if_neg e, ← List.getD_eq_getElem?_getD]
    obtain ⟨k, hk1, hk2⟩ := hk
    refine h.2 j y hj ⟨k, ?_, hk2⟩
    rcases Nat.lt_or_ge k i with h1 | h1
    · exact h1
    · obtain rfl : k = i := by omega
      rw [hx] at hk2
      injection hk2 with hk2
      subst hk2
      exact absurd (rankP_inj l hc hj) e
theorem Plc.all {l q : List Int} (h : Plc l q (usedV l).length) : q = rankV l := by
  have hl := rankV_length l
  apply List.ext_getElem?
  intro j
  by_cases hj : j < (usedV l).length
  · have hjp : j < (rankP l).length := by rw [rankP, (sortR_perm _).length_eq, prs_length]; exact hj
    have hm : (rankP l)[j] ∈ prs l := (rankP_perm l).mem_iff.1 (List.getElem_mem hjp)
    obtain ⟨k, hk, e⟩ := List.getElem_of_mem hm
    have h1 := h.2 j _ (List.getElem?_eq_getElem hjp) ⟨k, by rw [← prs_length]; exact hk, by rw [List.getElem?_eq_getElem hk, e]⟩
    rw [List.getD_eq_getElem?_getD, List.getElem?_eq_getElem (by rw [h.1]; exact hj)] at h1
    simp only [Option.getD_some] at h1
    rw [List.getElem?_eq_getElem (by rw [h.1]; exact hj), h1, rankV, List.getElem?_map, List.getElem?_eq_getElem hjp]
    rfl
  · rw [List.getElem?_eq_none (by rw [h.1]; omega), List.getElem?_eq_none (by omega)]
theorem cntR_lt (l : List Int) (i : Nat) (x : Int × Int) (hx : (prs l)[i]? = some x) : cntR l x (usedV l).length < (usedV l).length := by
  have hc := cnt_pos l i x hx
  have := (List.getElem?_eq_some_iff.1 hc).1
  rwa [rankP, (sortR_perm _).length_eq, prs_length] at this
end Go.Proofs.Ytlbgnichgjancaa
