/- What Ranks returns: symbols that occur, in their order (mathematics). -/
import Derived.Test.YtlbgnichgjancaaRkM
set_option linter.unusedVariables false
set_option linter.unusedSimpArgs false
namespace Go.Proofs.Ytlbgnichgjancaa
open Go.RowKit Go.Sort

theorem usedN_nodup (l : List Int) (k : Nat) : (usedN l k).Nodup := List.Pairwise.filter _ List.nodup_range
theorem usedV_mem {l : List Int} {z : Int} (h : z ∈ usedV l) : ∃ s : Nat, z = s ∧ s < 258 ∧ 1 ≤ l.getD s 0 := by
  unfold usedV at h
  split at h
  · unfold usedL at h
    rw [List.mem_map] at h
    obtain ⟨s, hs, rfl⟩ := h
    unfold usedN at hs
    rw [List.mem_filter, List.mem_range, decide_eq_true_eq] at hs
    exact ⟨s, rfl, hs.1, by omega⟩
  · cases h
theorem usedV_nodup (l : List Int) : (usedV l).Nodup := by
  unfold usedV
  split
  · unfold usedL
    exact List.Pairwise.map _ (fun a b hab e => hab (Int.ofNat.inj e)) (usedN_nodup l 258)
  · exact List.nodup_nil
theorem prs_fst (l : List Int) : (prs l).map (·.1) = usedV l := by
  unfold prs
  rw [List.map_map]
  exact List.map_id' _
theorem rank_perm (l : List Int) : (rankV l).Perm (usedV l) := by
  have h := (sortR_perm (prs l)).map (·.1)
  rw [prs_fst] at h
  exact h
theorem rank_nodup (l : List Int) : (rankV l).Nodup := (rank_perm l).nodup_iff.2 (usedV_nodup l)
theorem rank_pair (l : List Int) (i : Nat) (hi : i < (rankV l).length) : (rankP l)[i]? = some ((rankV l).getD i 0, l.getD ((rankV l).getD i 0).toNat 0) := by
  have hp : i < (rankP l).length := by rw [rankV, List.length_map] at hi; exact hi
  have hm : (rankP l)[i] ∈ prs l := (sortR_perm (prs l)).mem_iff.1 (List.getElem_mem hp)
  unfold prs at hm
  rw [List.mem_map] at hm
  obtain ⟨z, _, hz⟩ := hm
  have e : (rankV l).getD i 0 = (rankP l)[i].1 := by
    rw [rankV, List.getD_eq_getElem?_getD, List.getElem?_map, List.getElem?_eq_getElem hp]
    rfl
  rw [List.getElem?_eq_getElem hp, e, ← hz]
theorem rank_at (l : List Int) (i : Nat) (hi : i < (rankV l).length) : ∃ s : Nat, (rankV l).getD i 0 = s ∧ s < 258 ∧ 1 ≤ l.getD s 0 := by
  have hm : (rankV l)[i] ∈ usedV l := (rank_perm l).mem_iff.1 (List.getElem_mem hi)
  obtain ⟨s, e, h1, h2⟩ := usedV_mem hm
  refine ⟨s, ?_, h1, h2⟩
  rw [List.getD_eq_getElem?_getD, List.getElem?_eq_getElem hi]
  exact e
theorem rank_ord (l : List Int) (i : Nat) (hi : i + 1 < (rankV l).length) (p s : Nat) (hp : (rankV l).getD i 0 = p) (hs : (rankV l).getD (i + 1) 0 = s) : l.getD p 0 < l.getD s 0 ∨ l.getD p 0 = l.getD s 0 ∧ p < s := by
  have h1 := rank_pair l i (by omega)
  have h2 := rank_pair l (i + 1) hi
  rw [hp] at h1
  rw [hs] at h2
  have b1 := (List.getElem?_eq_some_iff.1 h1)
  have b2 := (List.getElem?_eq_some_iff.1 h2)
  obtain ⟨k1, e1⟩ := b1
  obtain ⟨k2, e2⟩ := b2
  have hso := List.pairwise_iff_getElem.1 (sortR_sorted (prs l)) i (i + 1) k1 k2 (Nat.lt_succ_self i)
  have e1' : (sortR (prs l))[i] = ((p : Int), l.getD (p : Int).toNat 0) := e1
  have e2' : (sortR (prs l))[i + 1] = ((s : Int), l.getD (s : Int).toNat 0) := e2
  rw [e1', e2', rle_iff] at hso
  simp only [Int.toNat_natCast] at hso
  have hne : p ≠ s := fun e => by
    have hn := List.pairwise_iff_getElem.1 (rank_nodup l) i (i + 1) (by omega) hi (Nat.lt_succ_self i)
    apply hn
    rw [List.getD_eq_getElem?_getD, List.getElem?_eq_getElem (by omega)] at hp
    rw [List.getD_eq_getElem?_getD, List.getElem?_eq_getElem hi] at hs
    simp only [Option.getD_some] at hp hs
    rw [hp, hs, e]
  omega
/-- The symbols below k are the first ones. -/
theorem usedL_pre (l : List Int) (k m : Nat) (h : k ≤ m) : ∃ r, usedL l m = usedL l k ++ r := by
  induction m with
  | zero =>
    obtain rfl : k = 0 := by omega
    exact ⟨[], by simp⟩
  | succ m ih =>
    by_cases e : k = m + 1
    · subst e
      exact ⟨[], by simp⟩
    · obtain ⟨r, hr⟩ := ih (by omega)
      by_cases hp : 0 < l.getD m 0
      · exact ⟨r ++ [(m : Int)], by rw [usedL_yes l m hp, hr, List.append_assoc]⟩
      · exact ⟨r, by rw [usedL_no l m hp, hr]⟩
theorem used_there (l : List Int) (k : Nat) (hk : k < 258) (h : 0 < l.getD k 0) : (usedL l k).length < (usedL l 258).length ∧ (usedL l 258).getD (usedL l k).length 0 = k := by
  obtain ⟨r, hr⟩ := usedL_pre l (k + 1) 258 (by omega)
  rw [usedL_yes l k h] at hr
  rw [hr]
  refine ⟨by simp, ?_⟩
  rw [List.append_assoc, List.getD_eq_getElem?_getD, List.getElem?_append_right (Nat.le_refl _), Nat.sub_self]
  rfl
end Go.Proofs.Ytlbgnichgjancaa
