/- Canonical codes: mathematics. The symbols in order, where each code's strings begin, codes as those beginnings shifted. Imports nothing of the seat. -/
set_option linter.unusedVariables false
set_option linter.unusedSimpArgs false
namespace Go.Proofs.Ytbegpakjojiblab

/-- The number of strings of 15 bits that begin with a code of n bits. -/
def wN (n : Nat) : Nat := 2 ^ (15 - n)
theorem wN_pos (n : Nat) : 0 < wN n := Nat.pow_pos (by decide)
theorem wN_le {m n : Nat} (h : m ≤ n) : wN n ∣ wN m := Nat.pow_dvd_pow 2 (by omega)
theorem wN_mul {m n : Nat} (h : m ≤ n) (hn : n ≤ 15) : wN m = 2 ^ (n - m) * wN n := by
  unfold wN
  rw [← Nat.pow_add]
  congr 1
  omega
section
variable (L : Nat → Nat)
/-- Where the strings of the i-th symbol begin. -/
def stN (q : List Nat) (i : Nat) : Nat := ((q.take i).map fun s => wN (L s)).sum
theorem stN_zero (q : List Nat) : stN L q 0 = 0 := by simp [stN]
theorem stN_succ (q : List Nat) (i : Nat) (hi : i < q.length) : stN L q (i + 1) = stN L q i + wN (L (q.getD i 0)) := by
  unfold stN
  rw [List.take_add_one, List.getElem?_eq_getElem hi, List.map_append, List.sum_append, List.getD_eq_getElem?_getD, List.getElem?_eq_getElem hi]
  simp
theorem stN_all (q : List Nat) (i : Nat) (hi : q.length ≤ i) : stN L q i = (q.map fun s => wN (L s)).sum := by
  unfold stN
  rw [List.take_of_length_le hi]
theorem stN_mono (q : List Nat) {i j : Nat} (h : i ≤ j) (hj : j ≤ q.length) : stN L q i ≤ stN L q j := by
  induction j with
  | zero =>
    obtain rfl : i = 0 := by omega
    exact Nat.le_refl _
  | succ j ih =>
    by_cases e : i = j + 1
    · subst e; exact Nat.le_refl _
    · have := ih (by omega) (by omega)
      rw [stN_succ L q j (by omega)]
      omega
/-- Lengths never fall along the list, and each is 1 to 15. -/
structure SrtN (q : List Nat) : Prop where
  up : ∀ i j, i < j → j < q.length → L (q.getD i 0) ≤ L (q.getD j 0)
  one : ∀ i, i < q.length → 1 ≤ L (q.getD i 0) ∧ L (q.getD i 0) ≤ 15
variable {L}
theorem SrtN.dvd {q : List Nat} (h : SrtN L q) (j : Nat) (hj : j < q.length) : ∀ i, i ≤ j → wN (L (q.getD j 0)) ∣ stN L q i
  | 0, _ => by rw [stN_zero]; exact Nat.dvd_zero _
  | i + 1, hi => by
    rw [stN_succ L q i (by omega)]
    exact Nat.dvd_add (SrtN.dvd h j hj i (by omega)) (wN_le (h.up i j (by omega) hj))
variable (L)
/-- The i-th symbol's code. -/
def cdN (q : List Nat) (i : Nat) : Nat := stN L q i / wN (L (q.getD i 0))
variable {L}
theorem cdN_zero (q : List Nat) : cdN L q 0 = 0 := by rw [cdN, stN_zero, Nat.zero_div]
theorem SrtN.mul {q : List Nat} (h : SrtN L q) (i : Nat) (hi : i < q.length) : cdN L q i * wN (L (q.getD i 0)) = stN L q i := Nat.div_mul_cancel (h.dvd i hi i (Nat.le_refl _))
theorem SrtN.next {q : List Nat} (h : SrtN L q) (i : Nat) (hi : i + 1 < q.length) : cdN L q (i + 1) = (cdN L q i + 1) * 2 ^ (L (q.getD (i + 1) 0) - L (q.getD i 0)) := by
  have h1 := h.mul i (by omega)
  have h2 := h.up i (i + 1) (by omega) hi
  have h3 := (h.one (i + 1) hi).2
  have e : stN L q (i + 1) = (cdN L q i + 1) * 2 ^ (L (q.getD (i + 1) 0) - L (q.getD i 0)) * wN (L (q.getD (i + 1) 0)) := by
    rw [stN_succ L q i (by omega), ← h1, Nat.mul_assoc, ← wN_mul h2 h3, Nat.add_mul, Nat.one_mul]
  show stN L q (i + 1) / wN (L (q.getD (i + 1) 0)) = _
  rw [e, Nat.mul_div_cancel _ (wN_pos _)]
theorem SrtN.lt {q : List Nat} (h : SrtN L q) (hs : stN L q q.length ≤ 32768) (i : Nat) (hi : i < q.length) : cdN L q i < 2 ^ L (q.getD i 0) := by
  have h1 := h.mul i hi
  have h2 := stN_succ L q i hi
  have h3 := stN_mono L q (i := i + 1) (j := q.length) hi (Nat.le_refl _)
  have hp := wN_pos (L (q.getD i 0))
  have e : 32768 = 2 ^ L (q.getD i 0) * wN (L (q.getD i 0)) := by
    unfold wN
    rw [← Nat.pow_add, show L (q.getD i 0) + (15 - L (q.getD i 0)) = 15 by have := h.one i hi; omega]
  have h4 : cdN L q i * wN (L (q.getD i 0)) < 2 ^ L (q.getD i 0) * wN (L (q.getD i 0)) := by
    rw [h1, ← e]
    omega
  exact Nat.lt_of_mul_lt_mul_right h4
/-- A string begins with the i-th symbol's code exactly if it lies among its strings. -/
theorem SrtN.hit {q : List Nat} (h : SrtN L q) (i : Nat) (hi : i < q.length) (b : Nat) : b / wN (L (q.getD i 0)) = cdN L q i ↔ stN L q i ≤ b ∧ b < stN L q (i + 1) := by
  have h1 := h.mul i hi
  have h2 := stN_succ L q i hi
  have hp := wN_pos (L (q.getD i 0))
  rw [Nat.div_eq_iff hp, h2, ← h1]
  omega
theorem find_hit (q : List Nat) (b : Nat) : ∀ n, n ≤ q.length → b < stN L q n → ∃ i, i < n ∧ stN L q i ≤ b ∧ b < stN L q (i + 1)
  | 0, _, h => by rw [stN_zero] at h; omega
  | n + 1, hn, h => by
    by_cases h1 : b < stN L q n
    · obtain ⟨i, hi, h2⟩ := find_hit q b n (by omega) h1
      exact ⟨i, by omega, h2⟩
    · exact ⟨n, by omega, by omega, h⟩
theorem one_hit (q : List Nat) {b i j : Nat} (hi : i < q.length) (hj : j < q.length) (h1 : stN L q i ≤ b ∧ b < stN L q (i + 1)) (h2 : stN L q j ≤ b ∧ b < stN L q (j + 1)) : i = j := by
  by_cases e : i = j
  · exact e
  · by_cases h : i < j
    · have := stN_mono L q (i := i + 1) (j := j) h (by omega)
      omega
    · have := stN_mono L q (i := j + 1) (j := i) (by omega) (by omega)
      omega
/-- Along the order the codes, filled up to 15 bits, rise; and none begins another. -/
theorem SrtN.rise {q : List Nat} (h : SrtN L q) {i j : Nat} (hij : i < j) (hj : j < q.length) : cdN L q i * wN (L (q.getD i 0)) < cdN L q j * wN (L (q.getD j 0)) := by
  rw [h.mul i (by omega), h.mul j hj]
  have h1 := stN_mono L q (i := i + 1) (j := j) hij (by omega)
  have h2 := stN_succ L q i (by omega)
  have := wN_pos (L (q.getD i 0))
  omega
theorem SrtN.prefix {q : List Nat} (h : SrtN L q) {i j : Nat} (hij : i < j) (hj : j < q.length) : cdN L q j / 2 ^ (L (q.getD j 0) - L (q.getD i 0)) ≠ cdN L q i := fun e => by
  have h1 := h.up i j hij hj
  have h2 := (h.one j hj).2
  have h3 : stN L q j / wN (L (q.getD i 0)) = cdN L q i := by
    rw [← e, cdN, Nat.div_div_eq_div_mul, wN_mul h1 h2, Nat.mul_comm]
  have h4 := (h.hit i (by omega) (stN L q j)).1 h3
  have h5 := stN_mono L q (i := i + 1) (j := j) hij (by omega)
  omega
end

/-! The symbols in order. -/
/-- A symbol's length. -/
def lnN (l : List Int) (s : Nat) : Nat := (l.getD s 0).toNat
/-- The symbols of one length. -/
def symN (l : List Int) (n : Nat) : List Nat := (List.range 258).filter fun s => decide (l.getD s 0 = (n : Int))
/-- The symbols of lengths 1 to n. -/
def ordN (l : List Int) : Nat → List Nat
  | 0 => []
  | n + 1 => ordN l n ++ symN l (n + 1)
theorem mem_symN (l : List Int) (n s : Nat) : s ∈ symN l n ↔ s < 258 ∧ l.getD s 0 = (n : Int) := by simp [symN]
theorem mem_ordN (l : List Int) (s : Nat) : ∀ n, s ∈ ordN l n ↔ s < 258 ∧ 1 ≤ l.getD s 0 ∧ l.getD s 0 ≤ (n : Int)
  | 0 => by simp [ordN]; omega
  | n + 1 => by
    rw [ordN, List.mem_append, mem_ordN l s n, mem_symN]
    constructor
    · rintro (⟨a, b, c⟩ | ⟨a, b⟩)
      · exact ⟨a, b, by omega⟩
      · exact ⟨a, by omega, by omega⟩
    · rintro ⟨a, b, c⟩
      by_cases h : l.getD s 0 ≤ (n : Int)
      · exact .inl ⟨a, b, h⟩
      · exact .inr ⟨a, by omega⟩
/-- Before: shorter, or as long and less. -/
def befN (l : List Int) (s t : Nat) : Prop := l.getD s 0 < l.getD t 0 ∨ l.getD s 0 = l.getD t 0 ∧ s < t
theorem symN_pw (l : List Int) (n : Nat) : (symN l n).Pairwise (befN l) := by
  unfold symN
  have h : ((List.range 258).filter fun s => decide (l.getD s 0 = (n : Int))).Pairwise (· < ·) := List.Pairwise.filter _ List.pairwise_lt_range
  refine List.Pairwise.imp_of_mem ?_ h
  intro a b ha hb hab
  have h1 := (mem_symN l n a).1 ha
  have h2 := (mem_symN l n b).1 hb
  exact .inr ⟨by rw [h1.2, h2.2], hab⟩
theorem ordN_pw (l : List Int) : ∀ n, (ordN l n).Pairwise (befN l)
  | 0 => List.Pairwise.nil
  | n + 1 => by
    rw [ordN, List.pairwise_append]
    refine ⟨ordN_pw l n, symN_pw l (n + 1), fun a ha b hb => ?_⟩
    have h1 := (mem_ordN l a n).1 ha
    have h2 := (mem_symN l (n + 1) b).1 hb
    exact .inl (by omega)
theorem befN_irrefl (l : List Int) (s : Nat) : ¬ befN l s s := by unfold befN; omega
theorem ordN_nodup (l : List Int) (n : Nat) : (ordN l n).Nodup := by
  refine List.Pairwise.imp ?_ (ordN_pw l n)
  intro a b h e
  subst e
  exact befN_irrefl l a h
theorem ordN_at (l : List Int) {n i j : Nat} (hij : i < j) (hj : j < (ordN l n).length) : befN l ((ordN l n).getD i 0) ((ordN l n).getD j 0) := by
  have h := List.pairwise_iff_getElem.1 (ordN_pw l n) i j (by omega) hj hij
  simpa [List.getD_eq_getElem?_getD, List.getElem?_eq_getElem hj, List.getElem?_eq_getElem (show i < (ordN l n).length by omega)] using h
theorem ordN_get (l : List Int) {i : Nat} (hi : i < (ordN l 15).length) : (ordN l 15).getD i 0 < 258 ∧ 1 ≤ l.getD ((ordN l 15).getD i 0) 0 ∧ l.getD ((ordN l 15).getD i 0) 0 ≤ 15 := by
  have h : (ordN l 15).getD i 0 ∈ ordN l 15 := by
    rw [List.getD_eq_getElem?_getD, List.getElem?_eq_getElem hi]
    exact List.getElem_mem hi
  exact (mem_ordN l _ 15).1 h
theorem ordN_srt (l : List Int) : SrtN (lnN l) (ordN l 15) := by
  refine ⟨fun i j hij hj => ?_, fun i hi => ?_⟩
  · have h := ordN_at l hij hj
    unfold befN at h
    unfold lnN
    omega
  · have h := ordN_get l hi
    unfold lnN
    omega
/-- Lists without repetition with the same members have the same length-weighted sum. -/
theorem sum_filter_range (f : Nat → Nat) (p : Nat → Bool) : ∀ n, (((List.range n).filter p).map f).sum = ((List.range n).map fun s => if p s then f s else 0).sum
  | 0 => rfl
  | n + 1 => by
    rw [List.range_succ, List.filter_append, List.map_append, List.map_append, List.sum_append, List.sum_append, sum_filter_range f p n]
    congr 1
    by_cases h : p n = true
    · simp [h]
    · simp [h]
theorem sum_sym (l : List Int) (f : Nat → Nat) (n : Nat) : ((symN l n).map f).sum = ((List.range 258).map fun s => if l.getD s 0 = (n : Int) then f s else 0).sum := by
  have h := sum_filter_range f (fun s => decide (l.getD s 0 = (n : Int))) 258
  simpa [symN] using h
theorem sum_two (f g : Nat → Nat) : ∀ q : List Nat, (q.map f).sum + (q.map g).sum = (q.map fun s => f s + g s).sum
  | [] => rfl
  | a :: q => by
    have := sum_two f g q
    simp only [List.map_cons, List.sum_cons] at this ⊢
    omega
theorem sum_ord (l : List Int) (f : Nat → Nat) : ∀ n, ((ordN l n).map f).sum = ((List.range 258).map fun s => if 1 ≤ l.getD s 0 ∧ l.getD s 0 ≤ (n : Int) then f s else 0).sum
  | 0 => by
    have e : (List.range 258).map (fun s => if 1 ≤ l.getD s 0 ∧ l.getD s 0 ≤ ((0 : Nat) : Int) then f s else 0) = (List.range 258).map fun _ => 0 := List.map_congr_left fun s hs => if_neg (by omega)
    rw [e]
    have z : ∀ q : List Nat, (q.map fun _ => 0).sum = 0 := fun q => by
      induction q with
      | nil => rfl
      | cons a q ih => simpa using ih
    rw [z]
    rfl
  | n + 1 => by
    rw [ordN, List.map_append, List.sum_append, sum_ord l f n, sum_sym, sum_two]
    congr 1
    refine List.map_congr_left fun s hs => ?_
    by_cases h1 : 1 ≤ l.getD s 0 ∧ l.getD s 0 ≤ (n : Int)
    · rw [if_pos h1, if_neg (by omega), if_pos ⟨h1.1, by omega⟩, Nat.add_zero]
    · by_cases h2 : l.getD s 0 = ((n + 1 : Nat) : Int)
      · rw [if_neg h1, if_pos h2, if_pos ⟨by omega, by omega⟩, Nat.zero_add]
      · rw [if_neg h1, if_neg h2, if_neg (by omega)]
/-- The sum of the weights of lengths of at most 15, in Kraft's units. -/
def kfN (l : List Int) : Nat := ((List.range 258).map fun s => if 1 ≤ l.getD s 0 ∧ l.getD s 0 ≤ 15 then wN (lnN l s) else 0).sum
theorem stN_end (l : List Int) : stN (lnN l) (ordN l 15) (ordN l 15).length = kfN l := by
  rw [stN_all _ _ _ (Nat.le_refl _), sum_ord]
  rfl

/-! The codes. -/
/-- A symbol's place in the order. -/
def plN (l : List Int) (s : Nat) : Nat := (ordN l 15).idxOf s
/-- A symbol's code, or 0. -/
def codeV (l : List Int) (s : Nat) : Nat := if s ∈ ordN l 15 then cdN (lnN l) (ordN l 15) (plN l s) else 0
theorem plN_at (l : List Int) {i : Nat} (hi : i < (ordN l 15).length) : plN l ((ordN l 15).getD i 0) = i := by
  unfold plN
  rw [List.getD_eq_getElem?_getD, List.getElem?_eq_getElem hi, Option.getD_some]
  exact (ordN_nodup l 15).idxOf_getElem i hi
theorem getD_plN (l : List Int) {s : Nat} (h : s ∈ ordN l 15) : plN l s < (ordN l 15).length ∧ (ordN l 15).getD (plN l s) 0 = s := by
  have h1 : plN l s < (ordN l 15).length := List.idxOf_lt_length_of_mem h
  refine ⟨h1, ?_⟩
  rw [List.getD_eq_getElem?_getD, List.getElem?_eq_getElem h1, Option.getD_some]
  exact List.getElem_idxOf h1
theorem codeV_at (l : List Int) {i : Nat} (hi : i < (ordN l 15).length) : codeV l ((ordN l 15).getD i 0) = cdN (lnN l) (ordN l 15) i := by
  have hm : (ordN l 15).getD i 0 ∈ ordN l 15 := by
    rw [List.getD_eq_getElem?_getD, List.getElem?_eq_getElem hi]
    exact List.getElem_mem hi
  rw [codeV, if_pos hm, plN_at l hi]
theorem codeV_out (l : List Int) {s : Nat} (h : ¬ s ∈ ordN l 15) : codeV l s = 0 := if_neg h
/-- A string begins with the symbol's code. -/
def hitN (l : List Int) (b s : Nat) : Prop := 1 ≤ l.getD s 0 ∧ l.getD s 0 ≤ 15 ∧ b / wN (lnN l s) = codeV l s
theorem hitN_iff (l : List Int) (b s : Nat) (hs : s < 258) : hitN l b s ↔ s ∈ ordN l 15 ∧ stN (lnN l) (ordN l 15) (plN l s) ≤ b ∧ b < stN (lnN l) (ordN l 15) (plN l s + 1) := by
  constructor
  · rintro ⟨h1, h2, h3⟩
    have hm : s ∈ ordN l 15 := (mem_ordN l s 15).2 ⟨hs, h1, h2⟩
    obtain ⟨hp, hg⟩ := getD_plN l hm
    refine ⟨hm, ?_⟩
    have := (ordN_srt l).hit (plN l s) hp b
    rw [hg] at this
    rw [← this, h3, codeV, if_pos hm]
  · rintro ⟨hm, h⟩
    obtain ⟨hp, hg⟩ := getD_plN l hm
    have h1 := (mem_ordN l s 15).1 hm
    refine ⟨h1.2.1, h1.2.2, ?_⟩
    have := (ordN_srt l).hit (plN l s) hp b
    rw [hg] at this
    rw [this.2 h, codeV, if_pos hm]
theorem hitN_one (l : List Int) (b s t : Nat) (hs : s < 258) (ht : t < 258) (h1 : hitN l b s) (h2 : hitN l b t) : s = t := by
  rw [hitN_iff l b s hs] at h1
  rw [hitN_iff l b t ht] at h2
  obtain ⟨p1, g1⟩ := getD_plN l h1.1
  obtain ⟨p2, g2⟩ := getD_plN l h2.1
  have := one_hit (ordN l 15) p1 p2 h1.2 h2.2
  rw [← g1, ← g2, this]
theorem hitN_some (l : List Int) (b : Nat) : (∃ s, s < 258 ∧ hitN l b s) ↔ b < kfN l := by
  rw [← stN_end]
  constructor
  · rintro ⟨s, hs, h⟩
    rw [hitN_iff l b s hs] at h
    obtain ⟨p1, g1⟩ := getD_plN l h.1
    have := stN_mono (lnN l) (ordN l 15) (i := plN l s + 1) (j := (ordN l 15).length) p1 (Nat.le_refl _)
    omega
  · intro h
    obtain ⟨i, hi, h1⟩ := find_hit (ordN l 15) b _ (Nat.le_refl _) h
    have hm : (ordN l 15).getD i 0 ∈ ordN l 15 := by
      rw [List.getD_eq_getElem?_getD, List.getElem?_eq_getElem hi]
      exact List.getElem_mem hi
    refine ⟨(ordN l 15).getD i 0, ((mem_ordN l _ 15).1 hm).1, ?_⟩
    rw [hitN_iff l b _ ((mem_ordN l _ 15).1 hm).1, plN_at l hi]
    exact ⟨hm, h1⟩
end Go.Proofs.Ytbegpakjojiblab
