/- Variable-length integers: the mathematics. -/
import Derived.Laws.BitsAllLaws
set_option linter.unusedVariables false
namespace Go.Proofs.Ytalkmbakglklbaa

/-- The number of groups of n; 0 for 0. -/
def sz (n : Nat) : Nat := if n = 0 then 0 else if n < 128 then 1 else if n < 16384 then 2 else if n < 2097152 then 3 else if n < 268435456 then 4 else 5
theorem sz_pos (n : Nat) (h0 : 0 < n) (h : n ≤ 2147483647) : sz n = sz (n / 128) + 1 := by
  unfold sz
  repeat' split
  all_goals omega
theorem sz_zero : sz 0 = 0 := rfl
theorem sz_le (n : Nat) : sz n ≤ 5 := by
  unfold sz
  repeat' split
  all_goals omega
/-- The number of bytes of n. -/
def vsz (n : Nat) : Nat := sz (n / 128) + 1
theorem vsz_bd (n : Nat) (h : n ≤ 2147483647) : 1 ≤ vsz n ∧ vsz n ≤ 5 := by
  unfold vsz sz
  repeat' split
  all_goals omega
/-- k groups of n, each with the mark that another one follows. -/
def hi : Nat → Nat → List Int
  | 0, _ => []
  | k + 1, n => hi k (n / 128) ++ [((128 + n % 128 : Nat) : Int)]
theorem hi_length (k n : Nat) : (hi k n).length = k := by
  induction k generalizing n with
  | zero => rfl
  | succ k ih => simp [hi, ih]
/-- The encoding of n. -/
def enc (n : Nat) : List Int := hi (sz (n / 128)) (n / 128) ++ [((n % 128 : Nat) : Int)]
theorem enc_length (n : Nat) : (enc n).length = vsz n := by simp [enc, hi_length, vsz]
/-- A number in progress that is valid. -/
def okV (V M : Int) : Prop := (M = 0 ∧ V = 0) ∨ (M = 1 ∧ 1 ≤ V ∧ V < 128) ∨ (M = 2 ∧ 128 ≤ V ∧ V < 16384) ∨ (M = 3 ∧ 16384 ≤ V ∧ V < 2097152) ∨ (M = 4 ∧ 2097152 ≤ V ∧ V < 268435456)
instance (V M : Int) : Decidable (okV V M) := by unfold okV; infer_instance
/-- One step: value, groups, done, error. -/
def stepV (V M c : Int) : Int := if okV V M then if M = 0 ∧ c = 128 then 0 else if 2147483647 < V * 128 + c % 128 ∨ (M = 4 ∧ 128 ≤ c) then 0 else V * 128 + c % 128 else 0
def stepM (V M c : Int) : Int := if okV V M then if M = 0 ∧ c = 128 then 0 else if 2147483647 < V * 128 + c % 128 ∨ (M = 4 ∧ 128 ≤ c) then 0 else M + 1 else 0
def stepD (V M c : Int) : Bool := if okV V M then if M = 0 ∧ c = 128 then false else if 2147483647 < V * 128 + c % 128 ∨ (M = 4 ∧ 128 ≤ c) then false else decide (c < 128) else false
def stepE (V M c : Int) : Int := if okV V M then if M = 0 ∧ c = 128 then 51 else if 2147483647 < V * 128 + c % 128 ∨ (M = 4 ∧ 128 ≤ c) then 52 else 0 else 2
/-- Reading: value, rest, error. -/
def takeF : Int → Int → List Int → Int × List Int × Int
  | _, _, [] => (0, [], 50)
  | V, M, c :: l => if stepE V M c = 0 then if stepD V M c = true then (stepV V M c, l, 0) else takeF (stepV V M c) (stepM V M c) l else (0, [], stepE V M c)
theorem step_ok (V M c : Int) (hv : okV V M) (hc : 0 ≤ c ∧ c ≤ 255) (he : stepE V M c = 0) : stepV V M c = V * 128 + c % 128 ∧ stepM V M c = M + 1 ∧ stepD V M c = decide (c < 128) ∧ ¬ (M = 0 ∧ c = 128) ∧ ¬ (2147483647 < V * 128 + c % 128 ∨ (M = 4 ∧ 128 ≤ c)) := by
  unfold stepE at he
  rw [if_pos hv] at he
  split at he
  · omega
  · rename_i h1
    split at he
    · omega
    · rename_i h2
      unfold stepV stepM stepD
      simp only [if_pos hv, if_neg h1, if_neg h2]
      exact ⟨trivial, trivial, trivial, h1, h2⟩
theorem step_valid (V M c : Int) (hv : okV V M) (hc : 0 ≤ c ∧ c ≤ 255) (he : stepE V M c = 0) (hd : stepD V M c = false) : okV (stepV V M c) (stepM V M c) := by
  obtain ⟨e1, e2, e3, h1, h2⟩ := step_ok V M c hv hc he
  rw [e1, e2]
  rw [e3] at hd
  simp only [decide_eq_false_iff_not] at hd
  unfold okV at hv ⊢
  omega
theorem step_err (V M c : Int) (hv : okV V M) (he : stepE V M c ≠ 0) : stepV V M c = 0 ∧ stepM V M c = 0 ∧ stepD V M c = false ∧ (stepE V M c = 51 ∨ stepE V M c = 52) := by
  unfold stepE at he ⊢
  unfold stepV stepM stepD
  simp only [if_pos hv] at he ⊢
  split
  · exact ⟨rfl, rfl, rfl, .inl rfl⟩
  · rename_i h1
    rw [if_neg h1] at he
    split
    · exact ⟨rfl, rfl, rfl, .inr rfl⟩
    · rename_i h2
      rw [if_neg h2] at he
      omega
/-- A step onto a number of one group more. -/
theorem step_hi (n : Nat) (M : Int) (h0 : 0 < n) (h : n ≤ 2147483647 / 128) (hv : okV ((n / 128 : Nat) : Int) M) (hm : M < 4) :
    stepE ((n / 128 : Nat) : Int) M ((128 + n % 128 : Nat) : Int) = 0 ∧ stepD ((n / 128 : Nat) : Int) M ((128 + n % 128 : Nat) : Int) = false ∧ stepV ((n / 128 : Nat) : Int) M ((128 + n % 128 : Nat) : Int) = n ∧ stepM ((n / 128 : Nat) : Int) M ((128 + n % 128 : Nat) : Int) = M + 1 := by
  have h1 : ¬ (M = 0 ∧ ((128 + n % 128 : Nat) : Int) = 128) := by
    unfold okV at hv
    omega
  have h2 : ¬ (2147483647 < ((n / 128 : Nat) : Int) * 128 + ((128 + n % 128 : Nat) : Int) % 128 ∨ (M = 4 ∧ 128 ≤ ((128 + n % 128 : Nat) : Int))) := by omega
  unfold stepE stepD stepV stepM
  simp only [if_pos hv, if_neg h1, if_neg h2]
  refine ⟨trivial, by simp only [decide_eq_false_iff_not]; omega, by omega, trivial⟩
theorem step_last (n : Nat) (M : Int) (h : n ≤ 2147483647) (hv : okV ((n / 128 : Nat) : Int) M) :
    stepE ((n / 128 : Nat) : Int) M ((n % 128 : Nat) : Int) = 0 ∧ stepD ((n / 128 : Nat) : Int) M ((n % 128 : Nat) : Int) = true ∧ stepV ((n / 128 : Nat) : Int) M ((n % 128 : Nat) : Int) = n := by
  have h1 : ¬ (M = 0 ∧ ((n % 128 : Nat) : Int) = 128) := by omega
  have h2 : ¬ (2147483647 < ((n / 128 : Nat) : Int) * 128 + ((n % 128 : Nat) : Int) % 128 ∨ (M = 4 ∧ 128 ≤ ((n % 128 : Nat) : Int))) := by omega
  unfold stepE stepD stepV
  simp only [if_pos hv, if_neg h1, if_neg h2]
  refine ⟨trivial, ?_, by omega⟩
  simp
  omega
theorem okV_sz (n : Nat) (h : n ≤ 2147483647 / 128) : okV (n : Int) (sz n : Nat) := by
  unfold okV sz
  repeat' split
  all_goals omega
theorem sz_lt5 (n : Nat) (h : n ≤ 2147483647 / 128) : sz n ≤ 4 := by
  unfold sz
  repeat' split
  all_goals omega
/-- Reading all groups of n but the last one. -/
theorem take_hi (n : Nat) (h : n ≤ 2147483647 / 128) (l : List Int) : takeF 0 0 (hi (sz n) n ++ l) = takeF n (sz n : Nat) l := by
  obtain ⟨k, hk⟩ : ∃ k, k = sz n := ⟨_, rfl⟩
  induction k generalizing n l with
  | zero =>
    have : n = 0 := by
      rcases Nat.eq_zero_or_pos n with h0 | h0
      · exact h0
      · have := sz_pos n h0 (by omega)
        omega
    subst this
    rfl
  | succ k ih =>
    have h0 : 0 < n := by
      rcases Nat.eq_zero_or_pos n with h0 | h0
      · subst h0
        rw [sz_zero] at hk
        omega
      · exact h0
    have hs := sz_pos n h0 (by omega)
    have h4 := sz_lt5 n h
    obtain ⟨e1, e2, e3, e4⟩ := step_hi n (sz (n / 128) : Nat) h0 h (okV_sz _ (by omega)) (by omega)
    have he : hi (sz n) n = hi (sz (n / 128)) (n / 128) ++ [((128 + n % 128 : Nat) : Int)] := by rw [hs]; rfl
    rw [he, List.append_assoc, ih (n / 128) (by omega) _ (by omega)]
    rw [List.singleton_append, takeF, if_pos e1, e2, if_neg (by simp), e3, e4, hs]
    rfl
theorem take_enc (n : Nat) (h : n ≤ 2147483647) (l : List Int) : takeF 0 0 (enc n ++ l) = ((n : Int), l, 0) := by
  obtain ⟨e1, e2, e3⟩ := step_last n (sz (n / 128) : Nat) h (okV_sz _ (by omega))
  rw [enc, List.append_assoc, take_hi (n / 128) (by omega), List.singleton_append, takeF, if_pos e1, if_pos e2, e3]
theorem enc_last (n : Nat) : (enc n).take (vsz n - 1) = hi (sz (n / 128)) (n / 128) := by
  unfold enc
  rw [List.take_append_of_le_length (by rw [hi_length]; unfold vsz; omega), List.take_of_length_le (by rw [hi_length]; unfold vsz; omega)]
theorem take_short (n : Nat) (h : n ≤ 2147483647) : takeF 0 0 ((enc n).take (vsz n - 1)) = (0, [], 50) := by
  have := take_hi (n / 128) (by omega) []
  rw [List.append_nil] at this
  rw [enc_last, this]
  rfl
/-- What is read is the encoding of the number: the groups so far are those of V. -/
theorem take_only (l : List Int) : ∀ (V M : Int), okV V M → (∀ x ∈ l, 0 ≤ x ∧ x ≤ 255) → (takeF V M l).2.2 = 0 →
    ∃ n : Nat, n ≤ 2147483647 ∧ (takeF V M l).1 = n ∧ hi (sz V.toNat) V.toNat ++ l = enc n ++ (takeF V M l).2.1 := by
  induction l with
  | nil => intro V M _ _ h; simp [takeF] at h
  | cons c l ih =>
    intro V M hv hb h
    have hc := hb c (by simp)
    have hl : ∀ x ∈ l, 0 ≤ x ∧ x ≤ 255 := fun x hx => hb x (by simp [hx])
    by_cases he : stepE V M c = 0
    · obtain ⟨e1, e2, e3, h1, h2⟩ := step_ok V M c hv hc he
      rw [takeF, if_pos he] at h ⊢
      have hV0 : 0 ≤ V := by unfold okV at hv; omega
      by_cases hd : c < 128
      · rw [e3, if_pos (by simp [hd]), e1]
        refine ⟨(V * 128 + c % 128).toNat, by omega, by simp; omega, ?_⟩
        have hq : (V * 128 + c % 128).toNat / 128 = V.toNat := by omega
        have hr : (((V * 128 + c % 128).toNat % 128 : Nat) : Int) = c := by omega
        rw [enc, hq, hr, List.append_assoc]
        rfl
      · have hdf : stepD V M c = false := by rw [e3]; simp; omega
        have hval := step_valid V M c hv hc he hdf
        rw [hdf, if_neg (by simp)] at h ⊢
        obtain ⟨n, q1, q2, q3⟩ := ih _ _ hval hl h
        refine ⟨n, q1, q2, ?_⟩
        rw [← q3, e1]
        have hn0 : 0 < (V * 128 + c % 128).toNat := by unfold okV at hv; omega
        have hq : (V * 128 + c % 128).toNat / 128 = V.toNat := by omega
        have hr : ((128 + (V * 128 + c % 128).toNat % 128 : Nat) : Int) = c := by omega
        rw [sz_pos _ hn0 (by omega), hq]
        show _ = (hi (sz V.toNat) ((V * 128 + c % 128).toNat / 128) ++ [((128 + (V * 128 + c % 128).toNat % 128 : Nat) : Int)]) ++ l
        rw [hq, hr, List.append_assoc]
        rfl
    · rw [takeF, if_neg he] at h
      exact absurd h he
theorem take_bad (l : List Int) : ∀ (V M : Int), okV V M → (∀ x ∈ l, 0 ≤ x ∧ x ≤ 255) → (takeF V M l).2.2 ≠ 0 →
    (takeF V M l).1 = 0 ∧ (takeF V M l).2.1 = [] ∧ ((takeF V M l).2.2 = 50 ∨ (takeF V M l).2.2 = 51 ∨ (takeF V M l).2.2 = 52) := by
  induction l with
  | nil => intro V M _ _ _; exact ⟨rfl, rfl, .inl rfl⟩
  | cons c l ih =>
    intro V M hv hb h
    have hc := hb c (by simp)
    by_cases he : stepE V M c = 0
    · rw [takeF, if_pos he] at h ⊢
      by_cases hd : stepD V M c = true
      · rw [if_pos hd] at h
        exact absurd rfl h
      · have hdf : stepD V M c = false := by simpa using hd
        rw [if_neg hd] at h ⊢
        exact ih _ _ (step_valid V M c hv hc he hdf) (fun x hx => hb x (by simp [hx])) h
    · rw [takeF, if_neg he]
      exact ⟨rfl, rfl, .inr (step_err V M c hv he).2.2.2⟩
theorem take_nil (V M : Int) : takeF V M [] = (0, [], 50) := rfl
theorem take_at (l : List Int) (k : Nat) (h : k < l.length) (V M : Int) : takeF V M (l.drop k) = if stepE V M (l.getD k 0) = 0 then if stepD V M (l.getD k 0) = true then (stepV V M (l.getD k 0), l.drop (k + 1), 0) else takeF (stepV V M (l.getD k 0)) (stepM V M (l.getD k 0)) (l.drop (k + 1)) else (0, [], stepE V M (l.getD k 0)) := by
  rw [List.drop_eq_getElem_cons h, takeF]
  simp [List.getD_eq_getElem?_getD, h]
theorem okV_zero : okV 0 0 := .inl ⟨rfl, rfl⟩
/-- The bytes as Put writes them: i of them are written. -/
def putAt (n m i : Nat) : List Int := (List.range m).map fun j => if j < i then ((128 + n / 128 ^ (m - 1 - j) % 128 : Nat) : Int) else 0
theorem putAt_length (n m i : Nat) : (putAt n m i).length = m := by simp [putAt]
theorem putAt_zero (n m : Nat) : putAt n m 0 = List.replicate m 0 := by
  apply List.ext_getElem <;> simp [putAt]
theorem putAt_set (n m i : Nat) (h : i < m) : (putAt n m i).set i ((128 + n / 128 ^ (m - 1 - i) % 128 : Nat) : Int) = putAt n m (i + 1) := by
  apply List.ext_getElem
  · simp [putAt]
  · intro j h1 h2
    simp only [putAt, List.getElem_set, List.getElem_map, List.getElem_range]
    by_cases e : i = j
    · subst e
      rw [if_pos rfl, if_pos (by omega)]
    · rw [if_neg e]
      by_cases h3 : j < i
      · rw [if_pos h3, if_pos (by omega)]
      · rw [if_neg h3, if_neg (by omega)]
theorem putAt_last (n m : Nat) (h : 0 < m) : (putAt n m m).getD (m - 1) 0 = ((128 + n % 128 : Nat) : Int) := by
  rw [List.getD_eq_getElem?_getD, List.getElem?_eq_getElem (by rw [putAt_length]; omega), Option.getD_some]
  simp only [putAt, List.getElem_map, List.getElem_range]
  rw [if_pos (by omega), Nat.sub_self, Nat.pow_zero, Nat.div_one]
theorem putAt_enc (n : Nat) (h : n ≤ 2147483647) : (putAt n (vsz n) (vsz n)).set (vsz n - 1) ((n % 128 : Nat) : Int) = enc n := by
  have hb := vsz_bd n h
  have hv : vsz n = sz (n / 128) + 1 := rfl
  unfold enc
  obtain ⟨k, hk⟩ : ∃ k, k = sz (n / 128) := ⟨_, rfl⟩
  rw [hv, ← hk]
  have : k = 0 ∨ k = 1 ∨ k = 2 ∨ k = 3 ∨ k = 4 := by omega
  clear hv hb hk
  rcases this with rfl | rfl | rfl | rfl | rfl <;> simp [putAt, List.range, List.range.loop, hi, Nat.div_div_eq_div_mul]
/-- The order of encodings of one length. -/
theorem hi_lt (k : Nat) : ∀ a b : Nat, a < b → b < 128 ^ k → ∃ i, i < k ∧ (hi k a).take i = (hi k b).take i ∧ (hi k a).getD i 0 < (hi k b).getD i 0 := by
  induction k with
  | zero => intro a b h h2; simp at h2; omega
  | succ k ih =>
    intro a b h h2
    by_cases hq : a / 128 < b / 128
    · obtain ⟨i, h3, h4, h5⟩ := ih (a / 128) (b / 128) hq (by
        rw [Nat.pow_succ] at h2
        exact Nat.div_lt_of_lt_mul (by omega))
      refine ⟨i, by omega, ?_, ?_⟩
      · rw [hi, hi, List.take_append_of_le_length (by rw [hi_length]; omega), List.take_append_of_le_length (by rw [hi_length]; omega), h4]
      · rw [List.getD_eq_getElem?_getD, List.getD_eq_getElem?_getD] at h5 ⊢
        rw [hi, hi, List.getElem?_append_left (by rw [hi_length]; omega), List.getElem?_append_left (by rw [hi_length]; omega)]
        exact h5
    · have he : a / 128 = b / 128 := by omega
      refine ⟨k, by omega, ?_, ?_⟩
      · rw [hi, hi, he]
        rw [List.take_append_of_le_length (by rw [hi_length]; omega), List.take_append_of_le_length (by rw [hi_length]; omega)]
      · rw [List.getD_eq_getElem?_getD, List.getD_eq_getElem?_getD, hi, hi, List.getElem?_append_right (by rw [hi_length]; omega), List.getElem?_append_right (by rw [hi_length]; omega), hi_length, hi_length, Nat.sub_self]
        simp
        omega
theorem sz_mono (a b : Nat) (h : a ≤ b) : sz a ≤ sz b := by
  unfold sz
  repeat' split
  all_goals omega
theorem vsz_mono (a b : Nat) (h : a ≤ b) : vsz a ≤ vsz b := by
  have := sz_mono (a / 128) (b / 128) (by omega)
  unfold vsz
  omega
theorem sz_pow (n : Nat) (h : n ≤ 2147483647) : n < 128 ^ sz n := by
  unfold sz
  repeat' split
  all_goals omega
theorem enc_lt (a b : Nat) (h : a < b) (hb : b ≤ 2147483647) (hs : vsz a = vsz b) : ∃ i, i < vsz a ∧ (enc a).take i = (enc b).take i ∧ (enc a).getD i 0 < (enc b).getD i 0 := by
  have hs' : sz (a / 128) = sz (b / 128) := by unfold vsz at hs; omega
  unfold enc
  rw [hs']
  by_cases hq : a / 128 < b / 128
  · obtain ⟨i, h3, h4, h5⟩ := hi_lt (sz (b / 128)) (a / 128) (b / 128) hq (sz_pow _ (by omega))
    refine ⟨i, by unfold vsz; omega, ?_, ?_⟩
    · rw [List.take_append_of_le_length (by rw [hi_length]; omega), List.take_append_of_le_length (by rw [hi_length]; omega), h4]
    · rw [List.getD_eq_getElem?_getD, List.getD_eq_getElem?_getD] at h5 ⊢
      rw [List.getElem?_append_left (by rw [hi_length]; omega), List.getElem?_append_left (by rw [hi_length]; omega)]
      exact h5
  · have he : a / 128 = b / 128 := by omega
    refine ⟨sz (b / 128), by unfold vsz; omega, ?_, ?_⟩
    · rw [he]
      rw [List.take_append_of_le_length (by rw [hi_length]; omega), List.take_append_of_le_length (by rw [hi_length]; omega)]
    · rw [List.getD_eq_getElem?_getD, List.getD_eq_getElem?_getD, List.getElem?_append_right (by rw [hi_length]; omega), List.getElem?_append_right (by rw [hi_length]; omega), hi_length, hi_length, Nat.sub_self]
      simp
      omega
theorem enc_byts (n : Nat) : ∀ x ∈ enc n, 0 ≤ x ∧ x ≤ 255 := by
  have hh : ∀ k m : Nat, ∀ x ∈ hi k m, 0 ≤ x ∧ x ≤ 255 := by
    intro k
    induction k with
    | zero => intro m x hx; simp [hi] at hx
    | succ k ih =>
      intro m x hx
      rw [hi, List.mem_append] at hx
      rcases hx with hx | hx
      · exact ih _ x hx
      · simp only [List.mem_singleton] at hx
        omega
  intro x hx
  rw [enc, List.mem_append] at hx
  rcases hx with hx | hx
  · exact hh _ _ x hx
  · simp only [List.mem_singleton] at hx
    omega
end Go.Proofs.Ytalkmbakglklbaa
