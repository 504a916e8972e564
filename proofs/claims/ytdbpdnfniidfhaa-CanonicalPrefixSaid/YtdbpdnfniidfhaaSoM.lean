/- Mathematics of package sort: one step of each loop (any program). -/
import Derived.Sort.AssemblyPlain
set_option linter.unusedVariables false
set_option linter.unusedSimpArgs false
namespace Go.Proofs.Ytdbpdnfniidfhaa
open Go.Sort
section
variable {α : Type} [Inhabited α] (lt : α → α → Bool)

theorem m_size (d : Array α) (i j : Nat) : (swp d i j).size = d.size := by simp [swp]
theorem m_in_go (a j : Nat) (d : Array α) (hj : a < j) (hl : lt d[j]! d[j - 1]! = true) : insInner lt a j d = insInner lt a (j - 1) (swp d j (j - 1)) := by
  cases j with
  | zero => omega
  | succ j => rw [insInner, if_pos]; · rfl
              rw [Bool.and_eq_true]; exact ⟨decide_eq_true hj, hl⟩
theorem m_in_no (a j : Nat) (d : Array α) (h : j ≤ a ∨ lt d[j]! d[j - 1]! = false) : insInner lt a j d = d := by
  cases j with
  | zero => rw [insInner]
  | succ j =>
    rw [insInner, if_neg]
    rw [Bool.and_eq_true, decide_eq_true_eq]
    rintro ⟨h1, h2⟩
    rcases h with h | h
    · omega
    · rw [Nat.add_sub_cancel] at h; rw [h] at h2; cases h2
theorem m_out_go (a b i : Nat) (d : Array α) (h : i < b) : insOuter lt a b i d = insOuter lt a b (i + 1) (insInner lt a i d) := by rw [insOuter, if_pos h]
theorem m_out_no (a b i : Nat) (d : Array α) (h : ¬ i < b) : insOuter lt a b i d = d := by rw [insOuter, if_neg h]

theorem m_up_go (p : α → Bool) (d : Array α) (j i : Nat) (h : i ≤ j) (hp : p d[i]! = true) : scanUp p d j i = scanUp p d j (i + 1) := by
  rw [scanUp, if_pos]; rw [hp, Bool.and_true]; exact decide_eq_true h
theorem m_up_no (p : α → Bool) (d : Array α) (j i : Nat) (h : ¬ i ≤ j ∨ p d[i]! = false) : scanUp p d j i = i := by
  rw [scanUp, if_neg]
  rw [Bool.and_eq_true, decide_eq_true_eq]
  rintro ⟨h1, h2⟩
  rcases h with h | h
  · exact h h1
  · rw [h] at h2; cases h2
theorem m_dn_go (p : α → Bool) (d : Array α) (i j : Nat) (h : i ≤ j) (h0 : 0 < j) (hp : p d[j]! = true) : scanDown p d i j = scanDown p d i (j - 1) := by
  cases j with
  | zero => omega
  | succ j => rw [scanDown, if_pos]; · rfl
              rw [hp, Bool.and_true]; exact decide_eq_true h
theorem m_dn_no (p : α → Bool) (d : Array α) (i j : Nat) (h : ¬ i ≤ j ∨ p d[j]! = false) : scanDown p d i j = j := by
  cases j with
  | zero => rw [scanDown]
  | succ j =>
    rw [scanDown, if_neg]
    rw [Bool.and_eq_true, decide_eq_true_eq]
    rintro ⟨h1, h2⟩
    rcases h with h | h
    · exact h h1
    · rw [h] at h2; cases h2
theorem m_up_le (p : α → Bool) (d : Array α) (j i : Nat) : i ≤ scanUp p d j i ∧ (i ≤ j + 1 → scanUp p d j i ≤ j + 1) := by
  generalize hm : j + 1 - i = m
  induction m generalizing i with
  | zero => rw [m_up_no p d j i (.inl (by omega))]; omega
  | succ m ih =>
    cases hp : p d[i]! with
    | true => rw [m_up_go p d j i (by omega) hp]; have := ih (i + 1) (by omega); omega
    | false => rw [m_up_no p d j i (.inr hp)]; omega
theorem m_dn_le (p : α → Bool) (d : Array α) (i j : Nat) : scanDown p d i j ≤ j ∧ (0 < i → i ≤ j + 1 → i ≤ scanDown p d i j + 1) := by
  induction j with
  | zero => rw [scanDown]; omega
  | succ j ih =>
    cases hp : p d[j + 1]! with
    | true =>
      by_cases h : i ≤ j + 1
      · rw [m_dn_go p d i (j + 1) h (by omega) hp, Nat.add_sub_cancel]; omega
      · rw [m_dn_no p d i (j + 1) (.inl h)]; omega
    | false => rw [m_dn_no p d i (j + 1) (.inr hp)]; omega
/-- Where both scans end they can't meet: one of them would have gone on. -/
theorem m_up_end (p : α → Bool) (d : Array α) (j i : Nat) (h : scanUp p d j i ≤ j) : p d[scanUp p d j i]! = false := by
  generalize hm : j + 1 - i = m
  induction m generalizing i with
  | zero => rw [m_up_no p d j i (.inl (by omega))] at h; omega
  | succ m ih =>
    cases hp : p d[i]! with
    | true => rw [m_up_go p d j i (by omega) hp] at h ⊢; exact ih _ h (by omega)
    | false => rw [m_up_no p d j i (.inr hp)]; exact hp
theorem m_dn_end (p : α → Bool) (d : Array α) (i j : Nat) (hi : 0 < i) (h : i ≤ scanDown p d i j) : p d[scanDown p d i j]! = false := by
  induction j with
  | zero => rw [scanDown] at h; omega
  | succ j ih =>
    cases hp : p d[j + 1]! with
    | true =>
      by_cases h1 : i ≤ j + 1
      · rw [m_dn_go p d i (j + 1) h1 (by omega) hp, Nat.add_sub_cancel] at h ⊢; exact ih h
      · rw [m_dn_no p d i (j + 1) (.inl h1)] at h; omega
    | false => rw [m_dn_no p d i (j + 1) (.inr hp)]; exact hp
/-- The two scans of a partition: (p below, its opposite above) never stop at one place. -/
theorem m_cross (p : α → Bool) (d : Array α) (i j : Nat) (hi : 0 < i) (h : scanUp p d j i ≤ scanDown (fun x => !p x) d (scanUp p d j i) j) :
    scanUp p d j i < scanDown (fun x => !p x) d (scanUp p d j i) j := by
  have h1 := m_up_le p d j i
  have h2 := m_dn_le (fun x => !p x) d (scanUp p d j i) j
  have h3 := m_up_end p d j i (by omega)
  have h4 := m_dn_end (fun x => !p x) d (scanUp p d j i) j (by omega) h
  rcases Nat.lt_or_eq_of_le h with h | h
  · exact h
  · rw [← h] at h4; simp only [h3] at h4; cases h4

theorem m_pl_end (a i j : Nat) (d : Array α) {i2 j2 : Nat} (h1 : scanUp (fun x => lt x d[a]!) d j i = i2) (h2 : scanDown (fun x => !lt x d[a]!) d i2 j = j2) (h : j2 < i2) : partLoop lt a i j d = (j2, d) := by
  rw [partLoop]; simp only [h1, h2]; rw [if_pos h]
theorem m_pl_go (a i j : Nat) (d : Array α) {i2 j2 : Nat} (h1 : scanUp (fun x => lt x d[a]!) d j i = i2) (h2 : scanDown (fun x => !lt x d[a]!) d i2 j = j2) (h : ¬ j2 < i2) (h3 : i ≤ i2) (h4 : j2 ≤ j) : partLoop lt a i j d = partLoop lt a (i2 + 1) (j2 - 1) (swp d i2 j2) := by
  rw [partLoop]; simp only [h1, h2]; rw [if_neg h, dif_pos (by omega)]
theorem m_pe_end (a i j : Nat) (d : Array α) {i2 j2 : Nat} (h1 : scanUp (fun x => !lt d[a]! x) d j i = i2) (h2 : scanDown (fun x => lt d[a]! x) d i2 j = j2) (h : j2 < i2) : partEqLoop lt a i j d = (i2, d) := by
  rw [partEqLoop]; simp only [h1, h2]; rw [if_pos h]
theorem m_pe_go (a i j : Nat) (d : Array α) {i2 j2 : Nat} (h1 : scanUp (fun x => !lt d[a]! x) d j i = i2) (h2 : scanDown (fun x => lt d[a]! x) d i2 j = j2) (h : ¬ j2 < i2) (h3 : i ≤ i2) (h4 : j2 ≤ j) : partEqLoop lt a i j d = partEqLoop lt a (i2 + 1) (j2 - 1) (swp d i2 j2) := by
  rw [partEqLoop]; simp only [h1, h2]; rw [if_neg h, dif_pos (by omega)]

theorem m_rv_go (i j : Nat) (d : Array α) (h : i < j) : reverseLoop i j d = reverseLoop (i + 1) (j - 1) (swp d i j) := by rw [reverseLoop, if_pos h]
theorem m_rv_no (i j : Nat) (d : Array α) (h : ¬ i < j) : reverseLoop i j d = d := by rw [reverseLoop, if_neg h]

theorem m_ss_go (d : Array α) (b i : Nat) (h : i < b) (hl : lt d[i]! d[i - 1]! = false) : scanSorted lt d b i = scanSorted lt d b (i + 1) := by
  rw [scanSorted, if_pos]; rw [hl, Bool.not_false, Bool.and_true]; exact decide_eq_true h
theorem m_ss_no (d : Array α) (b i : Nat) (h : ¬ i < b ∨ lt d[i]! d[i - 1]! = true) : scanSorted lt d b i = i := by
  rw [scanSorted, if_neg]
  rw [Bool.and_eq_true, decide_eq_true_eq]
  rintro ⟨h1, h2⟩
  rcases h with h | h
  · exact h h1
  · rw [h] at h2; cases h2
theorem m_sd_go (j : Nat) (d : Array α) (h : 0 < j) (hl : lt d[j]! d[j - 1]! = true) : shiftDown lt j d = shiftDown lt (j - 1) (swp d j (j - 1)) := by
  cases j with
  | zero => omega
  | succ j => rw [Nat.add_sub_cancel] at hl; rw [shiftDown, hl]; rfl
theorem m_sd_no (j : Nat) (d : Array α) (h : j = 0 ∨ lt d[j]! d[j - 1]! = false) : shiftDown lt j d = d := by
  cases j with
  | zero => rw [shiftDown]
  | succ j =>
    rcases h with h | h
    · omega
    · rw [Nat.add_sub_cancel] at h; rw [shiftDown, h]; rfl
theorem m_su_go (b j : Nat) (d : Array α) (h : j < b) (hl : lt d[j]! d[j - 1]! = true) : shiftUp lt b j d = shiftUp lt b (j + 1) (swp d j (j - 1)) := by
  rw [shiftUp, if_pos h, hl]; rfl
theorem m_su_no (b j : Nat) (d : Array α) (h : ¬ j < b ∨ lt d[j]! d[j - 1]! = false) : shiftUp lt b j d = d := by
  rw [shiftUp]
  rcases h with h | h
  · rw [if_neg h]
  · split
    · rw [h]; rfl
    · rfl

theorem m_sf_end {hi F r : Nat} (d : Array α) (h : hi ≤ 2 * r + 1) : siftDown lt hi F r d = d := by rw [siftDown, dif_pos h]
/-- The greater child of r: c. -/
theorem m_sf_right {hi F r : Nat} (d : Array α) (h1 : 2 * r + 2 < hi) (h2 : lt d[F + (2 * r + 1)]! d[F + (2 * r + 1) + 1]! = true) :
    siftDown lt hi F r d = if lt d[F + r]! d[F + (2 * r + 2)]! = true then siftDown lt hi F (2 * r + 2) (swp d (F + r) (F + (2 * r + 2))) else d := by
  rw [siftDown, dif_neg (by omega), if_pos (by rw [h2, Bool.and_true]; exact decide_eq_true (by omega))]
  cases lt d[F + r]! d[F + (2 * r + 2)]! with
  | true => rw [dif_pos h1]; rfl
  | false => rfl
theorem m_sf_left {hi F r : Nat} (d : Array α) (h0 : 2 * r + 1 < hi) (h1 : 2 * r + 2 < hi → lt d[F + (2 * r + 1)]! d[F + (2 * r + 1) + 1]! = false) :
    siftDown lt hi F r d = if lt d[F + r]! d[F + (2 * r + 1)]! = true then siftDown lt hi F (2 * r + 1) (swp d (F + r) (F + (2 * r + 1))) else d := by
  rw [siftDown, dif_neg (by omega), if_neg]
  · cases lt d[F + r]! d[F + (2 * r + 1)]! <;> rfl
  · rw [Bool.and_eq_true, decide_eq_true_eq]
    rintro ⟨h2, h3⟩
    rw [h1 (by omega)] at h3
    cases h3
end
end Go.Proofs.Ytdbpdnfniidfhaa
