/- Plain facts on bits, values of bits, and bytes of bits. -/
import Derived.WalkKit
import Derived.Laws.BitsAllLaws
import Derived.Laws.BitsLemmas
set_option linter.unusedVariables false
set_option linter.unusedSimpArgs false
namespace Go.Proofs.Ytbegpakjojiblab
open Go.RowKit

theorem snocInd {α : Type} {p : List α → Prop} (l : List α) (nil : p []) (snoc : ∀ l x, p l → p (l ++ [x])) : p l := by
  have : ∀ n (l : List α), l.length = n → p l := by
    intro n
    induction n with
    | zero => intro l h; rw [List.eq_nil_of_length_eq_zero h]; exact nil
    | succ n ih =>
      intro l h
      have hne : l ≠ [] := by intro e; subst e; simp at h
      rw [← List.dropLast_concat_getLast hne]
      exact snoc _ _ (ih _ (by rw [List.length_dropLast]; omega))
  exact this _ l rfl
theorem getD_app_left (a b : List Int) (i : Nat) (h : i < a.length) : (a ++ b).getD i 0 = a.getD i 0 := by
  simp [List.getD_eq_getElem?_getD, List.getElem?_append_left h]
theorem getD_app_right (a b : List Int) (i : Nat) (h : a.length ≤ i) : (a ++ b).getD i 0 = b.getD (i - a.length) 0 := by
  simp [List.getD_eq_getElem?_getD, List.getElem?_append_right h]
theorem getD_out (a : List Int) (i : Nat) (h : a.length ≤ i) : a.getD i 0 = 0 := by
  simp [List.getD_eq_getElem?_getD, List.getElem?_eq_none h]
theorem getD_in (a : List Int) (i : Nat) (h : i < a.length) : a.getD i 0 = a[i] := by
  simp [List.getD_eq_getElem?_getD, List.getElem?_eq_getElem h]

/-- All numbers of a list are 0 or 1. -/
def Bin (l : List Int) : Prop := ∀ x ∈ l, x = 0 ∨ x = 1
theorem Bin.nil : Bin [] := by simp [Bin]
theorem Bin.append {a b : List Int} (h : Bin a) (k : Bin b) : Bin (a ++ b) := fun x hx => by
  rcases List.mem_append.1 hx with h1 | h1
  · exact h x h1
  · exact k x h1
theorem Bin.left {a b : List Int} (h : Bin (a ++ b)) : Bin a := fun x hx => h x (List.mem_append.2 (.inl hx))
theorem Bin.right {a b : List Int} (h : Bin (a ++ b)) : Bin b := fun x hx => h x (List.mem_append.2 (.inr hx))
theorem Bin.zeros (n : Nat) : Bin (List.replicate n 0) := fun x hx => .inl (List.mem_replicate.1 hx).2
theorem Bin.one {b : Int} (h : b = 0 ∨ b = 1) : Bin [b] := fun x hx => by simp at hx; exact hx ▸ h
theorem Bin.getD {l : List Int} (h : Bin l) (i : Nat) : l.getD i 0 = 0 ∨ l.getD i 0 = 1 := by
  by_cases hi : i < l.length
  · simp only [List.getD_eq_getElem?_getD, List.getElem?_eq_getElem hi, Option.getD_some]
    exact h _ (List.getElem_mem hi)
  · simp [List.getElem?_eq_none (Nat.le_of_not_lt hi)]

/-- The bits of a number, the most significant one first. -/
def bitsV (v : Int) (n : Nat) : List Int := (List.range n).map (fun i => v / ((2 ^ (n - 1 - i) : Nat) : Int) % 2)
/-- The number of bits. -/
def valV (l : List Int) : Int := l.foldl (fun a b => 2 * a + b) 0

theorem bitsV_length (v : Int) (n : Nat) : (bitsV v n).length = n := by simp [bitsV]
theorem bitsV_bin (v : Int) (n : Nat) : Bin (bitsV v n) := fun x hx => by
  simp only [bitsV, List.mem_map] at hx
  obtain ⟨i, _, rfl⟩ := hx
  omega
theorem bitsV_succ (v : Int) (n : Nat) : bitsV v (n + 1) = bitsV (v / 2) n ++ [v % 2] := by
  unfold bitsV
  rw [List.range_succ, List.map_append]
  congr 1
  · apply List.map_congr_left
    intro i hi
    have hi' : i < n := by simpa using hi
    have e : n + 1 - 1 - i = (n - 1 - i) + 1 := by omega
    rw [e, Nat.pow_succ, Nat.mul_comm, Int.natCast_mul, ← Int.ediv_ediv_of_nonneg (by omega)]
    rfl
  · simp
theorem bitsV_cons (v : Int) (n : Nat) : bitsV v (n + 1) = (v / ((2 ^ n : Nat) : Int) % 2) :: bitsV v n := by
  unfold bitsV
  rw [List.range_succ_eq_map, List.map_cons, List.map_map]
  congr 1
  apply List.map_congr_left
  intro i hi
  have : n + 1 - 1 - (i + 1) = n - 1 - i := by omega
  simp only [Function.comp, Nat.succ_eq_add_one, this]
theorem valV_snoc (l : List Int) (b : Int) : valV (l ++ [b]) = 2 * valV l + b := by simp [valV]
theorem valV_bits (n : Nat) : ∀ v : Int, 0 ≤ v → v < ((2 ^ n : Nat) : Int) → valV (bitsV v n) = v := by
  induction n with
  | zero => intro v h0 h1; simp at h1; simp [bitsV, valV]; omega
  | succ n ih =>
    intro v h0 h1
    rw [bitsV_succ, valV_snoc, ih (v / 2) (by omega) (by rw [Nat.pow_succ, Int.natCast_mul] at h1; omega)]
    omega
theorem valV_bd (l : List Int) : Bin l → 0 ≤ valV l ∧ valV l < ((2 ^ l.length : Nat) : Int) := by
  induction l using snocInd with
  | nil => intro _; simp [valV]
  | snoc l b ih =>
    intro h
    have h1 := ih h.left
    have h2 := h.right b (by simp)
    rw [valV_snoc, List.length_append, List.length_singleton, Nat.pow_succ, Int.natCast_mul]
    omega
theorem bits_valV (l : List Int) : Bin l → bitsV (valV l) l.length = l := by
  induction l using snocInd with
  | nil => intro _; rfl
  | snoc l b ih =>
    intro h
    have h2 := h.right b (by simp)
    rw [valV_snoc, List.length_append, List.length_singleton, bitsV_succ, show (2 * valV l + b) / 2 = valV l by omega, show (2 * valV l + b) % 2 = b by omega, ih h.left]
theorem valV_append (a b : List Int) : valV (a ++ b) = valV a * ((2 ^ b.length : Nat) : Int) + valV b := by
  induction b using snocInd with
  | nil => simp [valV]
  | snoc l x ih =>
    rw [← List.append_assoc, valV_snoc, valV_snoc, ih, List.length_append, List.length_singleton, Nat.pow_succ, Int.natCast_mul, Int.mul_add, ← Int.mul_assoc, ← Int.mul_assoc]
    rw [show (2 : Int) * valV a * ((2 ^ l.length : Nat) : Int) = valV a * ((2 ^ l.length : Nat) : Int) * ((2 : Nat) : Int) by rw [Int.mul_assoc, Int.mul_comm]; rfl]
    omega
theorem valV_zeros (n : Nat) : valV (List.replicate n 0) = 0 := by
  induction n with
  | zero => rfl
  | succ n ih => rw [List.replicate_succ', valV_snoc, ih]; rfl

/-- Bits of a byte string. -/
def bitsB (l : List Int) : List Int := l.flatMap (fun x => bitsV x 8)
theorem bitsB_length (l : List Int) : (bitsB l).length = 8 * l.length := by
  induction l with
  | nil => rfl
  | cons x l ih => simp only [bitsB, List.flatMap_cons, List.length_append, bitsV_length, List.length_cons] at ih ⊢; omega
theorem bitsB_append (a b : List Int) : bitsB (a ++ b) = bitsB a ++ bitsB b := by simp [bitsB]
theorem bitsB_bin (l : List Int) : Bin (bitsB l) := fun x hx => by
  simp only [bitsB, List.mem_flatMap] at hx
  obtain ⟨y, _, h⟩ := hx
  exact bitsV_bin y 8 x h
theorem bitsV_getD (v : Int) (n i : Nat) (h : i < n) : (bitsV v n).getD i 0 = v / ((2 ^ (n - 1 - i) : Nat) : Int) % 2 := by
  simp [bitsV, h]
theorem bitsB_getD (l : List Int) : ∀ i, i < 8 * l.length → (bitsB l).getD i 0 = l.getD (i / 8) 0 / ((2 ^ (7 - i % 8) : Nat) : Int) % 2 := by
  induction l with
  | nil => intro i h; simp at h
  | cons x l ih =>
    intro i h
    rw [List.length_cons] at h
    by_cases hi : i < 8
    · rw [show bitsB (x :: l) = bitsV x 8 ++ bitsB l from rfl, getD_app_left _ _ _ (by rw [bitsV_length]; exact hi), bitsV_getD _ _ _ hi, Nat.div_eq_of_lt hi, Nat.mod_eq_of_lt hi]
      rfl
    · rw [show bitsB (x :: l) = bitsV x 8 ++ bitsB l from rfl, getD_app_right _ _ _ (by rw [bitsV_length]; omega), bitsV_length, ih (i - 8) (by omega)]
      rw [show i / 8 = (i - 8) / 8 + 1 by omega, show i % 8 = (i - 8) % 8 by omega, List.getD_cons_succ]

/-- The bytes of bits: byte j. -/
def byteOf (bs : List Int) (j : Nat) : Int := valV ((List.range 8).map fun i => bs.getD (8 * j + i) 0)
/-- The bytes of bits. -/
def packB (bs : List Int) : List Int := (List.range ((bs.length + 7) / 8)).map (byteOf bs)
theorem packB_length (bs : List Int) : (packB bs).length = (bs.length + 7) / 8 := by simp [packB]
theorem packB_getD (bs : List Int) (j : Nat) (h : 8 * j < bs.length) : (packB bs).getD j 0 = byteOf bs j := by
  have : j < (bs.length + 7) / 8 := by omega
  simp [packB, this]
theorem byteOf_bin {bs : List Int} (h : Bin bs) (j : Nat) : Bin ((List.range 8).map fun i => bs.getD (8 * j + i) 0) := fun x hx => by
  simp only [List.mem_map] at hx
  obtain ⟨i, _, rfl⟩ := hx
  exact h.getD _
theorem byteOf_bd {bs : List Int} (h : Bin bs) (j : Nat) : 0 ≤ byteOf bs j ∧ byteOf bs j ≤ 255 := by
  have := valV_bd _ (byteOf_bin h j)
  simp only [List.length_map, List.length_range] at this
  unfold byteOf
  omega
theorem packB_bytes {bs : List Int} (h : Bin bs) : ∀ x ∈ packB bs, 0 ≤ x ∧ x ≤ 255 := fun x hx => by
  simp only [packB, List.mem_map] at hx
  obtain ⟨j, _, rfl⟩ := hx
  exact byteOf_bd h j
theorem byteOf_bits {bs : List Int} (h : Bin bs) (j : Nat) : bitsV (byteOf bs j) 8 = (List.range 8).map fun i => bs.getD (8 * j + i) 0 := by
  have := bits_valV _ (byteOf_bin h j)
  simp only [List.length_map, List.length_range] at this
  exact this
/-- The bits of the bytes of bits are the bits, and zeros behind them. -/
theorem bitsB_packB {bs : List Int} (h : Bin bs) (i : Nat) : (bitsB (packB bs)).getD i 0 = bs.getD i 0 := by
  by_cases hi : i < 8 * ((bs.length + 7) / 8)
  · rw [bitsB_getD _ _ (by rw [packB_length]; exact hi)]
    by_cases h2 : 8 * (i / 8) < bs.length
    · rw [packB_getD _ _ h2]
      have := congrArg (fun l => l.getD (i % 8) 0) (byteOf_bits h (i / 8))
      have h8 : i % 8 < 8 := by omega
      simp only [bitsV_getD _ _ _ h8] at this
      rw [show 7 - i % 8 = 8 - 1 - i % 8 by omega, this]
      simp [h8]
      congr 2
      omega
    · omega
  · rw [getD_out _ _ (by rw [bitsB_length, packB_length]; omega), getD_out _ _ (by omega)]
theorem bitsB_packB_eq {bs : List Int} (h : Bin bs) : bitsB (packB bs) = bs ++ List.replicate (8 * ((bs.length + 7) / 8) - bs.length) 0 := by
  apply List.ext_getElem
  · rw [bitsB_length, packB_length, List.length_append, List.length_replicate]; omega
  · intro i h1 h2
    have := bitsB_packB h i
    rw [getD_in _ _ h1] at this
    rw [this]
    by_cases hi : i < bs.length
    · rw [List.getElem_append_left hi, getD_in _ _ hi]
    · rw [List.getElem_append_right (by omega), List.getElem_replicate, getD_out _ _ (by omega)]
theorem packB_zeros {bs : List Int} (k : Nat) (hk : bs.length + k = 8 * ((bs.length + 7) / 8)) : packB (bs ++ List.replicate k 0) = packB bs := by
  unfold packB
  have e : ((bs ++ List.replicate k 0).length + 7) / 8 = (bs.length + 7) / 8 := by simp only [List.length_append, List.length_replicate]; omega
  rw [e]
  apply List.map_congr_left
  intro j hj
  unfold byteOf
  congr 1
  apply List.map_congr_left
  intro i _
  by_cases hi : 8 * j + i < bs.length
  · rw [getD_app_left _ _ _ hi]
  · rw [getD_app_right _ _ _ (by omega), getD_out bs _ (by omega)]
    by_cases h2 : 8 * j + i - bs.length < k
    · simp [h2]
    · simp [h2]
theorem packB_bitsB (l : List Int) (h : ∀ x ∈ l, 0 ≤ x ∧ x ≤ 255) : packB (bitsB l) = l := by
  apply List.ext_getElem
  · rw [packB_length, bitsB_length]; omega
  · intro j h1 h2
    rw [packB_length, bitsB_length] at h1
    simp only [packB, List.getElem_map, List.getElem_range]
    unfold byteOf
    have e : ((List.range 8).map fun i => (bitsB l).getD (8 * j + i) 0) = bitsV l[j] 8 := by
      unfold bitsV
      apply List.map_congr_left
      intro i hi
      have hi' : i < 8 := by simpa using hi
      rw [bitsB_getD _ _ (by omega), show (8 * j + i) / 8 = j by omega, show (8 * j + i) % 8 = i by omega, getD_in _ _ h2]
    rw [e]
    have := h l[j] (List.getElem_mem h2)
    exact valV_bits 8 _ this.1 (by simp; omega)

theorem getD_snoc (bs : List Int) (b : Int) (i : Nat) : (bs ++ [b]).getD i 0 = if i = bs.length then b else bs.getD i 0 := by
  by_cases h : i < bs.length
  · rw [getD_app_left _ _ _ h, if_neg (by omega)]
  · by_cases h2 : i = bs.length
    · subst h2; simp
    · rw [if_neg h2, getD_out _ _ (by simp; omega), getD_out _ _ (by omega)]
theorem map_range_8 (f : Nat → Int) : (List.range 8).map f = [f 0, f 1, f 2, f 3, f 4, f 5, f 6, f 7] := rfl
theorem valV8 (a b c d e f g h : Int) : valV [a, b, c, d, e, f, g, h] = 128 * a + 64 * b + 32 * c + 16 * d + 8 * e + 4 * f + 2 * g + h := by
  simp only [valV, List.foldl_cons, List.foldl_nil]
  omega
/-- A bit more, in the byte where it lies. -/
theorem byteOf_snoc (bs : List Int) (b : Int) (j : Nat) : byteOf (bs ++ [b]) j = if j = bs.length / 8 then byteOf bs j + b * ((2 ^ (7 - bs.length % 8) : Nat) : Int) else byteOf bs j := by
  unfold byteOf
  rw [map_range_8, map_range_8, valV8, valV8]
  simp only [getD_snoc]
  by_cases hj : j = bs.length / 8
  · rw [if_pos hj]
    obtain ⟨q, r, hq, hr⟩ : ∃ q r, bs.length = 8 * q + r ∧ r < 8 := ⟨bs.length / 8, bs.length % 8, by omega, by omega⟩
    have hjq : j = q := by omega
    subst hjq
    have z : ∀ i, r ≤ i → bs.getD (8 * j + i) 0 = 0 := fun i hi => getD_out _ _ (by omega)
    have hm : bs.length % 8 = r := by omega
    rw [hm]
    have ee : ∀ i, (8 * j + i = bs.length) ↔ i = r := fun i => by omega
    simp only [ee]
    have h8 : r = 0 ∨ r = 1 ∨ r = 2 ∨ r = 3 ∨ r = 4 ∨ r = 5 ∨ r = 6 ∨ r = 7 := by omega
    have z7 := z 7 (by omega)
    clear hj hq ee hm
    rcases h8 with rfl | rfl | rfl | rfl | rfl | rfl | rfl | rfl
    · have z6 := z 6 (by omega); have z5 := z 5 (by omega); have z4 := z 4 (by omega); have z3 := z 3 (by omega); have z2 := z 2 (by omega); have z1 := z 1 (by omega); have z0 := z 0 (by omega)
      simp only [List.getD_eq_getElem?_getD, Nat.add_zero] at z7 z6 z5 z4 z3 z2 z1 z0
      simp; omega
    · have z6 := z 6 (by omega); have z5 := z 5 (by omega); have z4 := z 4 (by omega); have z3 := z 3 (by omega); have z2 := z 2 (by omega); have z1 := z 1 (by omega)
      simp only [List.getD_eq_getElem?_getD, Nat.add_zero] at z7 z6 z5 z4 z3 z2 z1
      simp; omega
    · have z6 := z 6 (by omega); have z5 := z 5 (by omega); have z4 := z 4 (by omega); have z3 := z 3 (by omega); have z2 := z 2 (by omega)
      simp only [List.getD_eq_getElem?_getD, Nat.add_zero] at z7 z6 z5 z4 z3 z2
      simp; omega
    · have z6 := z 6 (by omega); have z5 := z 5 (by omega); have z4 := z 4 (by omega); have z3 := z 3 (by omega)
      simp only [List.getD_eq_getElem?_getD, Nat.add_zero] at z7 z6 z5 z4 z3
      simp; omega
    · have z6 := z 6 (by omega); have z5 := z 5 (by omega); have z4 := z 4 (by omega)
      simp only [List.getD_eq_getElem?_getD, Nat.add_zero] at z7 z6 z5 z4
      simp; omega
    · have z6 := z 6 (by omega); have z5 := z 5 (by omega)
      simp only [List.getD_eq_getElem?_getD, Nat.add_zero] at z7 z6 z5
      simp; omega
    · have z6 := z 6 (by omega)
      simp only [List.getD_eq_getElem?_getD, Nat.add_zero] at z7 z6
      simp; omega
    · simp only [List.getD_eq_getElem?_getD] at z7
      simp; omega
  · rw [if_neg hj]
    repeat rw [if_neg (by omega)]

/-- The bytes when room has been made for one bit more. -/
def roomB (bs : List Int) : List Int := packB bs ++ (if bs.length % 8 = 0 then [0] else [])
theorem roomB_length (bs : List Int) : (roomB bs).length = bs.length / 8 + 1 := by
  unfold roomB
  rw [List.length_append, packB_length]
  split <;> simp <;> omega
theorem roomB_getD (bs : List Int) (j : Nat) : (roomB bs).getD j 0 = byteOf bs j := by
  by_cases h : 8 * j < bs.length
  · unfold roomB
    rw [getD_app_left _ _ _ (by rw [packB_length]; omega), packB_getD _ _ h]
  · have e : byteOf bs j = 0 := by
      unfold byteOf
      rw [map_range_8, valV8]
      repeat rw [getD_out bs _ (by omega)]
      rfl
    rw [e]
    unfold roomB
    rw [getD_app_right _ _ _ (by rw [packB_length]; omega)]
    split
    · cases j - (packB bs).length <;> simp
    · simp
theorem packB_snoc (bs : List Int) (b : Int) : packB (bs ++ [b]) = (roomB bs).set (bs.length / 8) (byteOf bs (bs.length / 8) + b * ((2 ^ (7 - bs.length % 8) : Nat) : Int)) := by
  have hl : (packB (bs ++ [b])).length = (roomB bs).length := by rw [packB_length, roomB_length, List.length_append, List.length_singleton]; omega
  apply List.ext_getElem
  · rw [List.length_set, hl]
  · intro j h1 h2
    rw [hl, roomB_length] at h1
    rw [← getD_in, packB_getD _ _ (by rw [List.length_append, List.length_singleton]; omega), byteOf_snoc, List.getElem_set]
    by_cases hj : j = bs.length / 8
    · rw [if_pos hj, if_pos hj.symm, hj]
    · rw [if_neg hj, if_neg (Ne.symm hj), ← getD_in, roomB_getD]
theorem byteOf_high (bs : List Int) : ∃ y, byteOf bs (bs.length / 8) = y * ((2 ^ (8 - bs.length % 8) : Nat) : Int) := by
  obtain ⟨q, r, hq, hr⟩ : ∃ q r, bs.length = 8 * q + r ∧ r < 8 := ⟨bs.length / 8, bs.length % 8, by omega, by omega⟩
  rw [show bs.length / 8 = q by omega, show bs.length % 8 = r by omega]
  unfold byteOf
  rw [map_range_8, valV8]
  have z : ∀ i, r ≤ i → bs.getD (8 * q + i) 0 = 0 := fun i hi => getD_out _ _ (by omega)
  have h8 : r = 0 ∨ r = 1 ∨ r = 2 ∨ r = 3 ∨ r = 4 ∨ r = 5 ∨ r = 6 ∨ r = 7 := by omega
  have z7 := z 7 (by omega)
  clear hq
  rcases h8 with rfl | rfl | rfl | rfl | rfl | rfl | rfl | rfl
  · exact ⟨0, by rw [z 0 (by omega), z 1 (by omega), z 2 (by omega), z 3 (by omega), z 4 (by omega), z 5 (by omega), z 6 (by omega), z7]; rfl⟩
  · exact ⟨bs.getD (8 * q + 0) 0, by rw [z 1 (by omega), z 2 (by omega), z 3 (by omega), z 4 (by omega), z 5 (by omega), z 6 (by omega), z7]; simp; omega⟩
  · exact ⟨2 * bs.getD (8 * q + 0) 0 + bs.getD (8 * q + 1) 0, by rw [z 2 (by omega), z 3 (by omega), z 4 (by omega), z 5 (by omega), z 6 (by omega), z7]; simp; omega⟩
  · exact ⟨4 * bs.getD (8 * q + 0) 0 + 2 * bs.getD (8 * q + 1) 0 + bs.getD (8 * q + 2) 0, by rw [z 3 (by omega), z 4 (by omega), z 5 (by omega), z 6 (by omega), z7]; simp; omega⟩
  · exact ⟨8 * bs.getD (8 * q + 0) 0 + 4 * bs.getD (8 * q + 1) 0 + 2 * bs.getD (8 * q + 2) 0 + bs.getD (8 * q + 3) 0, by rw [z 4 (by omega), z 5 (by omega), z 6 (by omega), z7]; simp; omega⟩
  · exact ⟨16 * bs.getD (8 * q + 0) 0 + 8 * bs.getD (8 * q + 1) 0 + 4 * bs.getD (8 * q + 2) 0 + 2 * bs.getD (8 * q + 3) 0 + bs.getD (8 * q + 4) 0, by rw [z 5 (by omega), z 6 (by omega), z7]; simp; omega⟩
  · exact ⟨32 * bs.getD (8 * q + 0) 0 + 16 * bs.getD (8 * q + 1) 0 + 8 * bs.getD (8 * q + 2) 0 + 4 * bs.getD (8 * q + 3) 0 + 2 * bs.getD (8 * q + 4) 0 + bs.getD (8 * q + 5) 0, by rw [z 6 (by omega), z7]; simp; omega⟩
  · exact ⟨64 * bs.getD (8 * q + 0) 0 + 32 * bs.getD (8 * q + 1) 0 + 16 * bs.getD (8 * q + 2) 0 + 8 * bs.getD (8 * q + 3) 0 + 4 * bs.getD (8 * q + 4) 0 + 2 * bs.getD (8 * q + 5) 0 + bs.getD (8 * q + 6) 0, by rw [z7]; simp; omega⟩
/-- A bit laid into a byte whose lower bits are 0. -/
theorem or_bit8 (x b : Int) (k : Nat) (hk : k ≤ 7) (hb : b = 0 ∨ b = 1) (hx : 0 ≤ x ∧ x ≤ 255) (hy : ∃ y, x = y * ((2 ^ (k + 1) : Nat) : Int)) : bits .or .u8 x (b * ((2 ^ k : Nat) : Int)) = x + b * ((2 ^ k : Nat) : Int) := by
  obtain ⟨y, hy⟩ := hy
  have h2 : 0 < 2 ^ k := Nat.two_pow_pos k
  have hP : 2 ^ (k + 1) = 2 * 2 ^ k := by rw [Nat.pow_succ, Nat.mul_comm]
  have hk8 : 2 ^ k ≤ 2 ^ 7 := Nat.pow_le_pow_right (by omega) hk
  obtain ⟨X, rfl⟩ := Int.eq_ofNat_of_zero_le hx.1
  have hy0 : 0 ≤ y := by
    rcases Int.lt_or_le y 0 with h | h
    · have : y * ((2 ^ (k + 1) : Nat) : Int) < 0 := Int.mul_neg_of_neg_of_pos h (by omega)
      omega
    · exact h
  obtain ⟨Y, rfl⟩ := Int.eq_ofNat_of_zero_le hy0
  have hX : X = 2 ^ (k + 1) * Y := by
    rw [Nat.mul_comm]
    have : ((X : Nat) : Int) = ((Y * 2 ^ (k + 1) : Nat) : Int) := by rw [hy, Int.natCast_mul]
    omega
  obtain ⟨B, rfl⟩ : ∃ B : Nat, b = (B : Int) := ⟨b.toNat, by omega⟩
  have hB : B ≤ 1 := by omega
  have hBk : B * 2 ^ k ≤ 2 ^ k := by
    have := Nat.mul_le_mul_right (2 ^ k) hB
    omega
  rw [show ((B : Int) * ((2 ^ k : Nat) : Int)) = ((B * 2 ^ k : Nat) : Int) by rw [Int.natCast_mul]]
  have h4 : X ||| B * 2 ^ k = X + B * 2 ^ k := by
    have h3 := Nat.two_pow_add_eq_or_of_lt (show B * 2 ^ k < 2 ^ (k + 1) by omega) Y
    rw [hX, ← h3]
  rw [u8_or_nat X (B * 2 ^ k) (by omega) (by omega), h4]
  omega
end Go.Proofs.Ytbegpakjojiblab
