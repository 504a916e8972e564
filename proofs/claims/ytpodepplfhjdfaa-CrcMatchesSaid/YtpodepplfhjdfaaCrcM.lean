/- The mathematics of the checksum: the register as a natural number, its steps, that they are linear, and bursts. Over any program. -/
set_option linter.unusedVariables false
set_option linter.unusedSimpArgs false
namespace Go.Proofs.Ytpodepplfhjdfaa

/-- One shift of the register. -/
def crcT (v : Nat) : Nat := if v % 2 = 1 then (v / 2) ^^^ 3988292384 else v / 2
def crcN : Nat → Nat → Nat
  | 0, v => v
  | n + 1, v => crcT (crcN n v)
/-- The table's entry. -/
def crcRow (b : Nat) : Nat := crcN 8 b
def crcStep (c b : Nat) : Nat := crcRow ((c % 256) ^^^ b) ^^^ (c / 256)
def crcFold (c : Nat) (l : List Int) : Nat := l.foldl (fun c x => crcStep c x.toNat) c
def crcFeed (c : Nat) (l : List Int) : Nat := crcFold (c ^^^ 4294967295) l ^^^ 4294967295

theorem xor_lt32 {a b : Nat} (ha : a < 4294967296) (hb : b < 4294967296) : a ^^^ b < 4294967296 := Nat.xor_lt_two_pow (n := 32) ha hb
theorem xor_lt8 {a b : Nat} (ha : a < 256) (hb : b < 256) : a ^^^ b < 256 := Nat.xor_lt_two_pow (n := 8) ha hb
theorem crcT_lt {v : Nat} (h : v < 4294967296) : crcT v < 4294967296 := by
  unfold crcT
  split
  · exact xor_lt32 (by omega) (by omega)
  · omega
theorem crcN_lt (n : Nat) {v : Nat} (h : v < 4294967296) : crcN n v < 4294967296 := by
  induction n with
  | zero => exact h
  | succ n ih => exact crcT_lt ih
theorem crcRow_lt {b : Nat} (h : b < 256) : crcRow b < 4294967296 := crcN_lt 8 (by omega)
theorem crcStep_lt {c b : Nat} (hc : c < 4294967296) (hb : b < 256) : crcStep c b < 4294967296 :=
  xor_lt32 (crcRow_lt (xor_lt8 (by omega) hb)) (by omega)
theorem crcFold_snoc (c : Nat) (l : List Int) (x : Int) : crcFold c (l ++ [x]) = crcStep (crcFold c l) x.toNat := by simp [crcFold]
theorem crcFold_append (c : Nat) (l m : List Int) : crcFold c (l ++ m) = crcFold (crcFold c l) m := by simp [crcFold]
theorem crcFold_lt {c : Nat} (hc : c < 4294967296) (l : List Int) (hl : ∀ x ∈ l, 0 ≤ x ∧ x ≤ 255) : crcFold c l < 4294967296 := by
  induction l generalizing c with
  | nil => exact hc
  | cons x l ih =>
    have hx := hl x (by simp)
    exact ih (crcStep_lt hc (by omega)) (fun y hy => hl y (by simp [hy]))
theorem crcFeed_lt {c : Nat} (hc : c < 4294967296) (l : List Int) (hl : ∀ x ∈ l, 0 ≤ x ∧ x ≤ 255) : crcFeed c l < 4294967296 :=
  xor_lt32 (crcFold_lt (xor_lt32 hc (by omega)) l hl) (by omega)
theorem xor_ones2 (c : Nat) : c ^^^ 4294967295 ^^^ 4294967295 = c := by rw [Nat.xor_assoc, Nat.xor_self, Nat.xor_zero]
theorem crcFeed_append (c : Nat) (l m : List Int) : crcFeed c (l ++ m) = crcFeed (crcFeed c l) m := by
  unfold crcFeed
  rw [crcFold_append, xor_ones2]
theorem crcFeed_nil (c : Nat) : crcFeed c [] = c := xor_ones2 c

/-- A shift of a sum. -/
theorem crcT_xor (a b : Nat) : crcT (a ^^^ b) = crcT a ^^^ crcT b := by
  unfold crcT
  have h1 := Nat.xor_mod_two_eq_one (a := a) (b := b)
  have h2 : (a ^^^ b) / 2 = a / 2 ^^^ b / 2 := Nat.xor_div_two
  rw [h2]
  by_cases ha : a % 2 = 1 <;> by_cases hb : b % 2 = 1
  · rw [if_neg (by rw [h1]; simp [ha, hb]), if_pos ha, if_pos hb, Nat.xor_assoc, Nat.xor_comm 3988292384, Nat.xor_assoc, Nat.xor_self, Nat.xor_zero]
  · rw [if_pos (by rw [h1]; simp [ha, hb]), if_pos ha, if_neg hb, Nat.xor_assoc, Nat.xor_assoc, Nat.xor_comm 3988292384]
  · rw [if_pos (by rw [h1]; simp [ha, hb]), if_neg ha, if_pos hb, Nat.xor_assoc]
  · rw [if_neg (by rw [h1]; simp [ha, hb]), if_neg ha, if_neg hb]
theorem crcN_xor (n a b : Nat) : crcN n (a ^^^ b) = crcN n a ^^^ crcN n b := by
  induction n with
  | zero => rfl
  | succ n ih => rw [crcN, ih, crcT_xor]; rfl
theorem crcN_add (m n v : Nat) : crcN (m + n) v = crcN m (crcN n v) := by
  induction m with
  | zero => rw [Nat.zero_add]; rfl
  | succ m ih => rw [Nat.succ_add, crcN, ih]; rfl
theorem crcT_double (v : Nat) : crcT (v * 2) = v := by
  unfold crcT
  rw [if_neg (by omega), Nat.mul_div_cancel _ (by omega)]
theorem crcN_shift (n v : Nat) : crcN n (v * 2 ^ n) = v := by
  induction n generalizing v with
  | zero => simp [crcN]
  | succ n ih =>
    rw [crcN, show v * 2 ^ (n + 1) = (v * 2) * 2 ^ n by rw [Nat.pow_succ, Nat.mul_assoc, Nat.mul_comm 2], ih, crcT_double]
theorem split8 (c : Nat) : (c % 256) ^^^ (c / 256 * 256) = c := by
  apply Nat.eq_of_testBit_eq
  intro i
  rw [Nat.testBit_xor, show (256 : Nat) = 2 ^ 8 by rfl, Nat.testBit_mod_two_pow, Nat.testBit_mul_two_pow, Nat.testBit_div_two_pow]
  by_cases h : i < 8
  · simp [h, show ¬ 8 ≤ i by omega]
  · simp [h, show 8 ≤ i by omega]
/-- A step is eight shifts of the sum. -/
theorem crcStep_eq (c b : Nat) : crcStep c b = crcN 8 (c ^^^ b) := by
  unfold crcStep crcRow
  conv => lhs; rhs; rw [← crcN_shift 8 (c / 256)]
  rw [← crcN_xor, Nat.xor_assoc, Nat.xor_comm b, ← Nat.xor_assoc, show (2 : Nat) ^ 8 = 256 by rfl, split8]
theorem xor_swap (a b c d : Nat) : (a ^^^ b) ^^^ (c ^^^ d) = (a ^^^ c) ^^^ (b ^^^ d) := by
  rw [Nat.xor_assoc, Nat.xor_assoc, ← Nat.xor_assoc b, Nat.xor_comm b c, Nat.xor_assoc c]
theorem crcStep_xor (c d a b : Nat) : crcStep (c ^^^ d) (a ^^^ b) = crcStep c a ^^^ crcStep d b := by
  rw [crcStep_eq, crcStep_eq, crcStep_eq, ← crcN_xor, xor_swap]

/-- Three strings and their sum. -/
theorem crcFold_sum3 (p q r : Nat) (a b c d : List Int) (n : Nat) (ha : a.length = n) (hb : b.length = n) (hc : c.length = n) (hd : d.length = n)
    (h : ∀ j, j < n → (d.getD j 0).toNat = (a.getD j 0).toNat ^^^ (b.getD j 0).toNat ^^^ (c.getD j 0).toNat) :
    crcFold (p ^^^ q ^^^ r) d = crcFold p a ^^^ crcFold q b ^^^ crcFold r c := by
  have key : ∀ k, k ≤ n → crcFold (p ^^^ q ^^^ r) (d.take k) = crcFold p (a.take k) ^^^ crcFold q (b.take k) ^^^ crcFold r (c.take k) := by
    intro k
    induction k with
    | zero => intro _; simp [crcFold]
    | succ k ih =>
      intro hk
      have hj := h k (by omega)
      have t : ∀ l : List Int, l.length = n → l.take (k + 1) = l.take k ++ [l.getD k 0] := fun l hl => by
        rw [List.take_succ_eq_append_getElem (by omega)]
        simp [List.getD_eq_getElem?_getD, show k < l.length by omega]
      rw [t a ha, t b hb, t c hc, t d hd, crcFold_snoc, crcFold_snoc, crcFold_snoc, crcFold_snoc, ih (by omega), hj, crcStep_xor, crcStep_xor]
  have := key n (Nat.le_refl _)
  rwa [List.take_of_length_le (by omega), List.take_of_length_le (by omega), List.take_of_length_le (by omega), List.take_of_length_le (by omega)] at this
theorem xor3_same (a : Nat) : a ^^^ a ^^^ a = a := by rw [Nat.xor_self, Nat.zero_xor]
/-- The checksum is affine. -/
theorem crcFeed_sum3 (s : Nat) (a b c d : List Int) (n : Nat) (ha : a.length = n) (hb : b.length = n) (hc : c.length = n) (hd : d.length = n)
    (h : ∀ j, j < n → (d.getD j 0).toNat = (a.getD j 0).toNat ^^^ (b.getD j 0).toNat ^^^ (c.getD j 0).toNat) :
    crcFeed s a ^^^ crcFeed s b ^^^ crcFeed s c = crcFeed s d := by
  have k := crcFold_sum3 (s ^^^ 4294967295) (s ^^^ 4294967295) (s ^^^ 4294967295) a b c d n ha hb hc hd h
  rw [xor3_same] at k
  unfold crcFeed
  rw [k]
  rw [xor_swap (crcFold (s ^^^ 4294967295) a) 4294967295 (crcFold (s ^^^ 4294967295) b) 4294967295, Nat.xor_self, Nat.xor_zero, ← Nat.xor_assoc]

/-- A shift keeps what is not 0. -/
theorem crcT_zero {v : Nat} (h : v < 4294967296) (e : crcT v = 0) : v = 0 := by
  unfold crcT at e
  by_cases h1 : v % 2 = 1
  · rw [if_pos h1] at e
    have : v / 2 = 3988292384 := by
      have h2 : (v / 2 ^^^ 3988292384) ^^^ 3988292384 = 0 ^^^ 3988292384 := by rw [e]
      rwa [Nat.xor_assoc, Nat.xor_self, Nat.xor_zero, Nat.zero_xor] at h2
    omega
  · rw [if_neg h1] at e
    omega
theorem crcN_zero (n : Nat) {v : Nat} (h : v < 4294967296) (e : crcN n v = 0) : v = 0 := by
  induction n with
  | zero => exact e
  | succ n ih => exact ih (crcT_zero (crcN_lt n h) e)
theorem crcN_of_zero (n : Nat) : crcN n 0 = 0 := by
  induction n with
  | zero => rfl
  | succ n ih => rw [crcN, ih]; rfl

/-- The bytes of a change, the first the lowest. -/
def leX (e : Nat → Nat) : Nat → Nat
  | 0 => 0
  | j + 1 => leX e j ^^^ (e j * 2 ^ (8 * j))
theorem leX_lt (e : Nat → Nat) (he : ∀ j, e j < 256) (j : Nat) : leX e j < 2 ^ (8 * j) := by
  induction j with
  | zero => simp [leX]
  | succ j ih =>
    have h1 : 2 ^ (8 * (j + 1)) = 256 * 2 ^ (8 * j) := by rw [show 8 * (j + 1) = 8 + 8 * j by omega, Nat.pow_add]
    refine Nat.xor_lt_two_pow ?_ ?_
    · rw [h1]; omega
    · rw [h1]
      exact Nat.mul_lt_mul_of_pos_right (he j) (Nat.two_pow_pos _)
theorem leX_zero (e : Nat → Nat) (he : ∀ j, e j < 256) (j : Nat) (h : leX e j = 0) : ∀ i, i < j → e i = 0 := by
  induction j with
  | zero => intro i hi; omega
  | succ j ih =>
    have hl := leX_lt e he j
    have h2 : leX e j = e j * 2 ^ (8 * j) := by
      have h3 : (leX e j ^^^ (e j * 2 ^ (8 * j))) ^^^ (e j * 2 ^ (8 * j)) = 0 ^^^ (e j * 2 ^ (8 * j)) := by rw [show leX e j ^^^ (e j * 2 ^ (8 * j)) = 0 from h]
      rwa [Nat.xor_assoc, Nat.xor_self, Nat.xor_zero, Nat.zero_xor] at h3
    have h4 : e j = 0 := by
      by_cases h5 : e j = 0
      · exact h5
      · have : 1 * 2 ^ (8 * j) ≤ e j * 2 ^ (8 * j) := Nat.mul_le_mul_right _ (by omega)
        omega
    have h6 : leX e j = 0 := by rw [h2, h4, Nat.zero_mul]
    intro i hi
    by_cases hij : i = j
    · rw [hij]; exact h4
    · exact ih h6 i (by omega)
theorem leX_all (e : Nat → Nat) (j : Nat) (h : ∀ i, i < j → e i = 0) : leX e j = 0 := by
  induction j with
  | zero => rfl
  | succ j ih => rw [leX, ih (fun i hi => h i (by omega)), h j (by omega)]; simp

/-- What a change does to the register: nothing before it, its bytes shifted within it, then shifts. -/
theorem crc_burst (M : Nat) (b c : List Int) (n at_ m : Nat) (hb : b.length = n) (hc : c.length = n) (e : Nat → Nat)
    (h : ∀ j, j < n → (c.getD j 0).toNat = (b.getD j 0).toNat ^^^ (if at_ ≤ j ∧ j < at_ + m then e (j - at_) else 0)) (hm : at_ + m ≤ n) :
    crcFold M b ^^^ crcFold M c = crcN (8 * (n - at_)) (leX e m) := by
  have key : ∀ k, k ≤ n → crcFold M (b.take k) ^^^ crcFold M (c.take k) = crcN (8 * (k - at_)) (leX e (min (k - at_) m)) := by
    intro k
    induction k with
    | zero => intro _; simp [crcFold, leX, crcN]
    | succ k ih =>
      intro hk
      have hj := h k (by omega)
      have t : ∀ l : List Int, l.length = n → l.take (k + 1) = l.take k ++ [l.getD k 0] := fun l hl => by
        rw [List.take_succ_eq_append_getElem (by omega)]
        simp [List.getD_eq_getElem?_getD, show k < l.length by omega]
      rw [t b hb, t c hc, crcFold_snoc, crcFold_snoc, ← crcStep_xor, ih (by omega), hj, ← Nat.xor_assoc, Nat.xor_self, Nat.zero_xor, crcStep_eq]
      by_cases h1 : k < at_
      · rw [if_neg (by omega), show k - at_ = 0 by omega, show k + 1 - at_ = 0 by omega]
        rw [Nat.zero_min, Nat.mul_zero, show crcN 0 (leX e 0) = 0 from rfl, Nat.xor_zero]
        exact crcN_of_zero 8
      · rw [show k + 1 - at_ = k - at_ + 1 by omega]
        by_cases h2 : k < at_ + m
        · rw [if_pos ⟨by omega, h2⟩, Nat.min_eq_left (by omega), Nat.min_eq_left (by omega), leX]
          conv => lhs; arg 2; rhs; rw [← crcN_shift (8 * (k - at_)) (e (k - at_))]
          rw [← crcN_xor, ← crcN_add]
          congr 1
          omega
        · rw [if_neg (by omega), Nat.xor_zero, Nat.min_eq_right (by omega), Nat.min_eq_right (by omega), ← crcN_add]
          congr 1
          omega
  have := key n (Nat.le_refl _)
  rwa [List.take_of_length_le (by omega), List.take_of_length_le (by omega), Nat.min_eq_right (by omega)] at this
theorem xor_eq_zero' {a b : Nat} : a ^^^ b = 0 ↔ a = b := by
  constructor
  · intro h
    have h1 : (a ^^^ b) ^^^ b = 0 ^^^ b := by rw [h]
    rwa [Nat.xor_assoc, Nat.xor_self, Nat.xor_zero, Nat.zero_xor] at h1
  · rintro rfl
    exact Nat.xor_self _
/-- A change within four bytes shows. -/
theorem crcFeed_burst (s : Nat) (b c : List Int) (n at_ m : Nat) (hb : b.length = n) (hc : c.length = n) (e : Nat → Nat) (he : ∀ j, e j < 256) (hm4 : m ≤ 4)
    (h : ∀ j, j < n → (c.getD j 0).toNat = (b.getD j 0).toNat ^^^ (if at_ ≤ j ∧ j < at_ + m then e (j - at_) else 0)) (hm : at_ + m ≤ n) :
    crcFeed s c = crcFeed s b ↔ ∀ i, i < m → e i = 0 := by
  have k := crc_burst (s ^^^ 4294967295) b c n at_ m hb hc e h hm
  have hl := leX_lt e he m
  have h32 : leX e m < 4294967296 := Nat.lt_of_lt_of_le hl (by
    have : 2 ^ (8 * m) ≤ 2 ^ 32 := Nat.pow_le_pow_right (by omega) (by omega)
    omega)
  unfold crcFeed
  constructor
  · intro h1
    have h2 : crcFold (s ^^^ 4294967295) b ^^^ crcFold (s ^^^ 4294967295) c = 0 := by
      rw [xor_eq_zero']
      have h3 := congrArg (· ^^^ 4294967295) h1
      simp only [xor_ones2] at h3
      exact h3.symm
    rw [k] at h2
    exact leX_zero e he m (crcN_zero _ h32 h2)
  · intro h1
    rw [leX_all e m h1, crcN_of_zero, xor_eq_zero'] at k
    rw [k]

/-- The examples. -/
theorem crc_check9 : crcFeed 0 [49, 50, 51, 52, 53, 54, 55, 56, 57] = 3421780262 := by decide +kernel
end Go.Proofs.Ytpodepplfhjdfaa
