/- All: mathematics, and what its rounds keep. -/
import Derived.Test.YtbegpakjojiblabPgF
import Derived.Test.YtbegpakjojiblabPgE
set_option linter.unusedVariables false
set_option linter.unusedSimpArgs false
namespace Go.Proofs.Ytbegpakjojiblab
open Go.RowKit Go.Shelf

/-- A bit more: code, bits, symbols. -/
def stp (l : List Int) (σ : Int × Int × List Int) (b : Int) : Int × Int × List Int :=
  match fndL l (2 * σ.1 + b) (σ.2.1 + 1) 258 with
  | some s => (0, 0, σ.2.2 ++ [(s : Int)])
  | none => (2 * σ.1 + b, σ.2.1 + 1, σ.2.2)
def runE (l : List Int) (σ : Int × Int × List Int) (pre : List BE) : Int × Int × List Int := pre.foldl (fun τ x => stp l τ x.1.1) σ
theorem runE_snoc (l : List Int) (σ : Int × Int × List Int) (pre : List BE) (x : BE) : runE l σ (pre ++ [x]) = stp l (runE l σ pre) x.1.1 := by simp [runE]
/-- None of these rounds ended. -/
def okP (l : List Int) (M : Nat) : Int × Int × List Int → List BE → Prop
  | _, [] => True
  | σ, x :: xs => σ.2.2.length ≠ M ∧ x.1.2 = 0 ∧ okP l M (stp l σ x.1.1) xs
theorem okP_snoc {l : List Int} {M : Nat} {x : BE} : ∀ {pre : List BE} {σ : Int × Int × List Int}, okP l M σ pre → (runE l σ pre).2.2.length ≠ M → x.1.2 = 0 → okP l M σ (pre ++ [x])
  | [], σ, _, h1, h2 => ⟨h1, h2, trivial⟩
  | y :: ys, σ, h, h1, h2 => ⟨h.1, h.2.1, okP_snoc (pre := ys) h.2.2 h1 h2⟩
theorem stp_len {l : List Int} {σ : Int × Int × List Int} {b : Int} {M : Nat} (h : σ.2.2.length ≤ M) (hn : σ.2.2.length ≠ M) : (stp l σ b).2.2.length ≤ M := by
  unfold stp
  split
  · simp
    omega
  · exact h
theorem runE_len {l : List Int} {M : Nat} : ∀ {pre : List BE} {σ : Int × Int × List Int}, σ.2.2.length ≤ M → okP l M σ pre → (runE l σ pre).2.2.length ≤ M
  | [], σ, h, _ => h
  | y :: ys, σ, h, hk => runE_len (pre := ys) (stp_len h hk.1) hk.2.2
theorem runE_most {l : List Int} : ∀ {pre : List BE} {σ : Int × Int × List Int}, (runE l σ pre).2.2.length ≤ σ.2.2.length + pre.length
  | [], σ => by simp [runE]
  | y :: ys, σ => by
    have h1 := runE_most (l := l) (pre := ys) (σ := stp l σ y.1.1)
    have h2 : (stp l σ y.1.1).2.2.length ≤ σ.2.2.length + 1 := by
      unfold stp
      split <;> simp
    show (runE l (stp l σ y.1.1) ys).2.2.length ≤ _
    simp only [List.length_cons]
    omega
theorem alG_step {l : List Int} {σ : Int × Int × List Int} {b : Int} (hb : b = 0 ∨ b = 1) {cnt : Int} {M : Nat} (h : σ.2.2.length ≤ M) (hn : σ.2.2.length ≠ M) (bs : List Int) :
    alG l σ.1 σ.2.1 σ.2.2 cnt (M - σ.2.2.length) (b :: bs) = alG l (stp l σ b).1 (stp l σ b).2.1 (stp l σ b).2.2 (cnt + 1) (M - (stp l σ b).2.2.length) bs := by
  obtain ⟨m, hm⟩ : ∃ m, M - σ.2.2.length = m + 1 := ⟨M - σ.2.2.length - 1, by omega⟩
  rw [hm]
  have e : alG l σ.1 σ.2.1 σ.2.2 cnt (m + 1) (b :: bs) = if b = 0 ∨ b = 1 then
      match fndL l (2 * σ.1 + b) (σ.2.1 + 1) 258 with
      | some s => alG l 0 0 (σ.2.2 ++ [(s : Int)]) (cnt + 1) m bs
      | none => alG l (2 * σ.1 + b) (σ.2.1 + 1) σ.2.2 (cnt + 1) (m + 1) bs
    else ([], 0, 2) := rfl
  rw [e, if_pos hb]
  unfold stp
  cases hf : fndL l (2 * σ.1 + b) (σ.2.1 + 1) 258 with
  | some s =>
    dsimp only
    rw [show M - (σ.2.2 ++ [(s : Int)]).length = m by simp; omega]
  | none =>
    dsimp only
    rw [hm]
theorem al_zero (l : List Int) (c n : Int) (out : List Int) (cnt : Int) (q : List Int) : alG l c n out cnt 0 q = (out, cnt, 0) := by cases q <;> rfl
/-- What All gives, out of where its rounds ended. -/
theorem al_end (l : List Int) (M : Nat) (x : BE) : ∀ (pre : List BE) (σ : Int × Int × List Int) (cnt : Int) (q : List Int), σ.2.2.length ≤ M → okP l M σ pre → pre ++ [x] <+: seqE q →
    ((runE l σ pre).2.2.length = M → alG l σ.1 σ.2.1 σ.2.2 cnt (M - σ.2.2.length) q = ((runE l σ pre).2.2, cnt + (pre.length : Int), 0)) ∧
    ((runE l σ pre).2.2.length ≠ M → x.1.2 ≠ 0 → alG l σ.1 σ.2.1 σ.2.2 cnt (M - σ.2.2.length) q = ([], 0, x.1.2))
  | [], σ, cnt, q, hM, hk, hp => by
    refine ⟨fun h => ?_, fun h hx => ?_⟩
    · have e : runE l σ [] = σ := rfl
      rw [e] at h
      rw [show M - σ.2.2.length = 0 by omega, al_zero]
      simp [runE]
    · have e : runE l σ [] = σ := rfl
      rw [e] at h
      obtain ⟨m, hm⟩ : ∃ m, M - σ.2.2.length = m + 1 := ⟨M - σ.2.2.length - 1, by omega⟩
      rw [hm]
      obtain ⟨t, ht⟩ := hp
      cases q with
      | nil =>
        have ht : x :: t = [beS] := ht
        injection ht with h1 h2
        rw [h1]
        rfl
      | cons b bs =>
        by_cases hb : b = 0 ∨ b = 1
        · rw [seqE_bit hb] at ht
          have ht : x :: t = beB b hb :: seqE bs := ht
          injection ht with h1 h2
          rw [h1] at hx
          exact absurd rfl hx
        · rw [seqE_bad hb] at ht
          have ht : x :: t = [beA] := ht
          injection ht with h1 h2
          rw [h1]
          have e : alG l σ.1 σ.2.1 σ.2.2 cnt (m + 1) (b :: bs) = if b = 0 ∨ b = 1 then
              match fndL l (2 * σ.1 + b) (σ.2.1 + 1) 258 with
              | some s => alG l 0 0 (σ.2.2 ++ [(s : Int)]) (cnt + 1) m bs
              | none => alG l (2 * σ.1 + b) (σ.2.1 + 1) σ.2.2 (cnt + 1) (m + 1) bs
            else ([], 0, 2) := rfl
          rw [e, if_neg hb]
          rfl
  | y :: ys, σ, cnt, q, hM, hk, hp => by
    obtain ⟨hn, hy, hk⟩ := hk
    cases q with
    | nil =>
      obtain ⟨t, ht⟩ := hp
      have ht : y :: (ys ++ [x] ++ t) = [beS] := ht
      injection ht with h1 h2
      rw [h1] at hy
      cases hy
    | cons b bs =>
      by_cases hb : b = 0 ∨ b = 1
      · rw [seqE_bit hb] at hp
        have hp : y :: (ys ++ [x]) <+: beB b hb :: seqE bs := hp
        rw [List.cons_prefix_cons] at hp
        obtain ⟨rfl, hp2⟩ := hp
        have hi := al_end l M x ys (stp l σ b) (cnt + 1) bs (stp_len hM hn) hk hp2
        have hr : runE l σ (beB b hb :: ys) = runE l (stp l σ b) ys := rfl
        rw [hr, alG_step hb hM hn]
        refine ⟨fun h => ?_, fun h hx => hi.2 h hx⟩
        rw [hi.1 h]
        simp
        omega
      · rw [seqE_bad hb] at hp
        have hp : y :: (ys ++ [x]) <+: [beA] := hp
        rw [List.cons_prefix_cons] at hp
        obtain ⟨rfl, _⟩ := hp
        cases hy
/-- All the rounds cannot go on. -/
theorem ok_not_all (l : List Int) (M : Nat) : ∀ (q : List Int) (σ : Int × Int × List Int), ¬ okP l M σ (seqE q)
  | [], σ, h => by
    have := h.2.1
    cases this
  | b :: bs, σ, h => by
    by_cases hb : b = 0 ∨ b = 1
    · rw [seqE_bit hb] at h
      exact ok_not_all l M bs _ h.2.2
    · rw [seqE_bad hb] at h
      have := h.2.1
      cases this
end Go.Proofs.Ytbegpakjojiblab
