/- What Ranks returns: the one sorted row. -/
import Derived.Test.YtlbgnichgjancaaRanks
set_option linter.unusedVariables false
set_option linter.unusedSimpArgs false
namespace Go.Proofs.Ytlbgnichgjancaa
open Go.RowKit Go.Sort

def insR (p : Int × Int) : List (Int × Int) → List (Int × Int)
  | [] => [p]
  | q :: l => if rlt q p = true then q :: insR p l else p :: q :: l
def sortR : List (Int × Int) → List (Int × Int)
  | [] => []
  | p :: l => insR p (sortR l)
theorem insR_perm (p : Int × Int) : ∀ l, (insR p l).Perm (p :: l)
  | [] => .refl _
  | q :: l => by
    unfold insR
    split
    · exact ((insR_perm p l).cons q).trans (List.Perm.swap p q l)
    · exact .refl _
theorem sortR_perm : ∀ l, (sortR l).Perm l
  | [] => .refl _
  | p :: l => (insR_perm p _).trans ((sortR_perm l).cons p)
/-- Not after. -/
def rle (p q : Int × Int) : Prop := rlt q p = false
theorem rle_iff (p q : Int × Int) : rle p q ↔ p.2 < q.2 ∨ p.2 = q.2 ∧ p.1 ≤ q.1 := by
  unfold rle
  rw [rlt_no]
  omega
theorem insR_sorted (p : Int × Int) : ∀ l, l.Pairwise rle → (insR p l).Pairwise rle
  | [], _ => by simp [insR]
  | q :: l, h => by
    rw [List.pairwise_cons] at h
    unfold insR
    split
    · rename_i hq
      rw [List.pairwise_cons]
      refine ⟨fun x hx => ?_, insR_sorted p l h.2⟩
      rcases List.mem_cons.1 ((insR_perm p l).mem_iff.1 hx) with rfl | hx
      · rw [rlt_iff] at hq
        rw [rle_iff]
        omega
      · exact h.1 x hx
    · rename_i hq
      rw [List.pairwise_cons]
      have hpq : rle p q := by unfold rle; simpa using hq
      refine ⟨fun x hx => ?_, List.pairwise_cons.2 h⟩
      rcases List.mem_cons.1 hx with rfl | hx
      · exact hpq
      · have := h.1 x hx
        rw [rle_iff] at this hpq ⊢
        omega
theorem sortR_sorted : ∀ l, (sortR l).Pairwise rle
  | [] => .nil
  | p :: l => insR_sorted p _ (sortR_sorted l)
/-- What Ranks returns. -/
def rankP (l : List Int) : List (Int × Int) := sortR (prs l)
def rankV (l : List Int) : List Int := (rankP l).map (·.1)
theorem rankV_length (l : List Int) : (rankV l).length = (usedV l).length := by
  rw [rankV, List.length_map, rankP, (sortR_perm _).length_eq, prs, List.length_map]
theorem IsRanks.eq {l q : List Int} (h : IsRanks l q) : q = rankV l := by
  obtain ⟨d, hp, hs, rfl⟩ := h
  unfold rankV
  congr 1
  have hn : d.size = (usedV l).length := by rw [hp.1]; simp [prs]
  have hperm : d.toList.Perm (prs l) := by
    have h2 := hp.2.2
    have e1 : (d.extract 0 (usedV l).length) = d := by rw [← hn]; exact Array.extract_size
    have e2 : ((prs l).toArray.extract 0 (usedV l).length) = (prs l).toArray := by
      have : (usedV l).length = (prs l).toArray.size := by simp [prs]
      rw [this]; exact Array.extract_size
    rw [e1, e2] at h2
    exact h2
  refine List.Perm.eq_of_pairwise (le := rle) (fun a b _ _ h1 h2 => ?_) ?_ (sortR_sorted _) (hperm.trans (sortR_perm _).symm)
  · rw [rle_iff] at h1 h2
    exact Prod.ext (by omega) (by omega)
  · rw [List.pairwise_iff_getElem]
    intro i j hi hj hij
    rw [Array.length_toList] at hi hj
    have := hs i j (Nat.zero_le _) hij (by omega)
    rw [getElem!_pos d i hi, getElem!_pos d j hj] at this
    exact this

theorem ranksV_call (l : List Int) (h : Tal l) (hp : PdqOk (usedV l).length) (w : World) :
    Calls Try.prog 19 #[.agg (tl l)] w fun e w' => ∃ a c, e = .returned (.slice a (rankV l).length c) ∧ NewS w w' a c (rankV l) := by
  refine (ranks_call l h hp w).mono ?_
  rintro e w' ⟨a, c, q, rfl, hr, hn⟩
  rw [hr.eq] at hn ⊢
  exact ⟨a, c, rfl, hn⟩
end Go.Proofs.Ytlbgnichgjancaa
