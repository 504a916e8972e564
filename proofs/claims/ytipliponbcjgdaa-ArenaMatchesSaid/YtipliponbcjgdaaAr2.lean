/- The contracts of package arena's functions, second part: words, loads, stores, allocation. -/
import Derived.Test.YtipliponbcjgdaaAr
set_option linter.unusedVariables false
set_option linter.unusedSimpArgs false
namespace Go.Proofs.Ytipliponbcjgdaa
open Go.RowKit
section
variable {w : World} {p q : Nat} {mem : List Int} {live peak : Nat}

/-- Does a live span hold word i? -/
def wordOk (live : Nat) (a n i : Int) : Bool := hasB live a n && decide (0 ≤ i ∧ i < n / 4)
theorem wordOk_yes {live : Nat} {a n i : Int} (h : wordOk live a n i = true) : ∃ a' n' i' : Nat, a = a' ∧ n = n' ∧ i = i' ∧ 4 * i' + 4 ≤ n' ∧ a' + n' ≤ live := by
  simp only [wordOk, hasB, Bool.and_eq_true, decide_eq_true_eq] at h
  exact ⟨a.toNat, n.toNat, i.toNat, by omega, by omega, by omega, by omega, by omega⟩


theorem or32 (x y : Int) (k M : Nat) (hM : M = 2 ^ k) (hx : 0 ≤ x) (hx2 : x < M) (hy : 0 ≤ y) (hk : x + y * M < 4294967296) : bits .or .u32 x (y * M) = x + y * M := by
  obtain ⟨x, rfl⟩ := Int.eq_ofNat_of_zero_le hx
  obtain ⟨y, rfl⟩ := Int.eq_ofNat_of_zero_le hy
  have e : ((y : Int) * (M : Int)) = ((y * M : Nat) : Int) := by simp
  rw [e] at hk ⊢
  have h1 : x < 2 ^ k := by omega
  have h4 : x ||| y * M = x + y * M := by
    have h3 := Nat.two_pow_add_eq_or_of_lt h1 y
    rw [← hM] at h3
    rw [Nat.mul_comm y, Nat.or_comm, ← h3]
    omega
  rw [u32_or_nat x (y * M) (by omega) (by omega), h4]
  omega
theorem word_bits (x0 x1 x2 x3 : Int) (h0 : 0 ≤ x0 ∧ x0 ≤ 255) (h1 : 0 ≤ x1 ∧ x1 ≤ 255) (h2 : 0 ≤ x2 ∧ x2 ≤ 255) (h3 : 0 ≤ x3 ∧ x3 ≤ 255) :
    bits .or .u32 (bits .or .u32 (bits .or .u32 x0 (x1 * 256)) (x2 * 65536)) (x3 * 16777216) = x0 + 256 * x1 + 65536 * x2 + 16777216 * x3 := by
  rw [show bits .or .u32 x0 (x1 * 256) = x0 + x1 * 256 from or32 x0 x1 8 256 (by decide) (by omega) (by omega) (by omega) (by omega)]
  rw [show bits .or .u32 (x0 + x1 * 256) (x2 * 65536) = x0 + x1 * 256 + x2 * 65536 from or32 _ x2 16 65536 (by decide) (by omega) (by omega) (by omega) (by omega)]
  rw [show bits .or .u32 (x0 + x1 * 256 + x2 * 65536) (x3 * 16777216) = x0 + x1 * 256 + x2 * 65536 + x3 * 16777216 from or32 _ x3 24 16777216 (by decide) (by omega) (by omega) (by omega) (by omega)]
  omega

/-- Four bytes as a number, the lowest first. -/
def word4 (l : List Int) (o : Nat) : Int := l.getD o 0 + 256 * l.getD (o + 1) 0 + 65536 * l.getD (o + 2) 0 + 16777216 * l.getD (o + 3) 0

set_option maxHeartbeats 1000000 in
theorem word_yes (h : Ar w p q mem live peak) (a n i : Nat) (hn : (n : Int) ≤ 9223372036854775807) (hh : wordOk live a n i = true) (hin : 4 * i + 4 ≤ n) (hal : a + n ≤ live) :
    Calls Try.prog 12 #[.pointer (some ⟨p, 0, none⟩), .agg #[.int .i64 a, .int .i64 n], .int .i64 i] w fun e w' =>
      e = .returned (.tuple #[.int .u32 (word4 mem (a + 4 * i)), .bool true]) ∧ Below w.heap.size w w' := by
  have h1 := h.alloc (.cells #[Value.int IntKind.i64 a, Value.int IntKind.i64 n] 34)
  obtain ⟨x0, e0⟩ : ∃ x, x = mem.getD (a + 4 * i) 0 := ⟨_, rfl⟩
  obtain ⟨x1, e1⟩ : ∃ x, x = mem.getD (a + 4 * i + 1) 0 := ⟨_, rfl⟩
  obtain ⟨x2, e2⟩ : ∃ x, x = mem.getD (a + 4 * i + 2) 0 := ⟨_, rfl⟩
  obtain ⟨x3, e3⟩ : ∃ x, x = mem.getD (a + 4 * i + 3) 0 := ⟨_, rfl⟩
  have b0 := h.bd (a + 4 * i)
  have b1 := h.bd (a + 4 * i + 1)
  have b2 := h.bd (a + 4 * i + 2)
  have b3 := h.bd (a + 4 * i + 3)
  unfold word4
  rw [← e0] at b0 ⊢
  rw [← e1] at b1 ⊢
  rw [← e2] at b2 ⊢
  rw [← e3] at b3 ⊢
  rw [← word_bits x0 x1 x2 x3 b0 b1 b2 b3]
  have E0 := Lib.hid e0
  have E1 := Lib.hid e1
  have E2 := Lib.hid e2
  have E3 := Lib.hid e3
  clear e0 e1 e2 e3
  go_enter Try.func12, Try.ntmps12
  go_wp2_with fail
  refine (holds_call h1 a n i 4 (by omega) (by omega) hn).mono ?_
  rintro e w1 ⟨rfl, hb⟩
  rw [show (hasB live a n && decide (0 ≤ (i : Int) ∧ (i : Int) < (n : Int) / 4)) = true from hh]
  have h2 := h1.below hb
  have hz : w1.cell? ⟨w.heap.size, 0, none⟩ = some (.int .i64 a) := (hb.cell (by simp)).trans (by simp)
  have hz1 : w1.cell? ⟨w.heap.size, 1, none⟩ = some (.int .i64 n) := (hb.cell (by simp)).trans (by simp)
  have hl := h2.ll
  have hs := h2.small
  have hF := Lib.hid hb
  clear h1 hh h hb
  go_wp2_with fail
  refine (wordSpan_call w1 a i n (by omega)).mono ?_
  rintro e w2 ⟨rfl, hb2⟩
  have h3 := h2.below hb2
  go_wp2_with fail
  refine (part_call h3 (a + 4 * i) 4 (by omega)).mono ?_
  rintro e w3 ⟨rfl, hb3⟩
  rw [show partOff (a + 4 * i) 4 = a + 4 * i from rfl]
  have h4 := h3.below hb3
  have c0 := h4.cq (a + 4 * i) (by omega)
  have c1 := h4.cq (a + 4 * i + 1) (by omega)
  have c2 := h4.cq (a + 4 * i + 2) (by omega)
  have c3 := h4.cq (a + 4 * i + 3) (by omega)
  rw [← E0.out] at c0
  rw [← E1.out] at c1
  rw [← E2.out] at c2
  rw [← E3.out] at c3
  obtain ⟨b00, b01⟩ := b0
  obtain ⟨b10, b11⟩ := b1
  obtain ⟨b20, b21⟩ := b2
  obtain ⟨b30, b31⟩ := b3
  have hF3 := Lib.hid (hb2.trans (hb3.mono hb2.size))
  clear h2 h3 h4 hb2 hb3
  go_wp2
  go_quiet (fail)
  go_wp2
  go_ret2
  exact ⟨rfl, below_drewN ((((Below.refl _ _).alloc (Nat.le_refl _) _).trans (hF.out.mono (by simp))).trans (hF3.out.mono (by have := hF.out.size; simp at this; omega))) _⟩

set_option maxHeartbeats 400000 in
theorem word_no (h : Ar w p q mem live peak) (a n i : Int) (hn : n ≤ 9223372036854775807) (hh : wordOk live a n i = false) :
    Calls Try.prog 12 #[.pointer (some ⟨p, 0, none⟩), .agg #[.int .i64 a, .int .i64 n], .int .i64 i] w fun e w' =>
      e = .returned (.tuple #[.int .u32 0, .bool false]) ∧ Below w.heap.size w w' := by
  have h1 := h.alloc (.cells #[Value.int IntKind.i64 a, Value.int IntKind.i64 n] 34)
  go_enter Try.func12, Try.ntmps12
  go_wp2_with fail
  refine (holds_call h1 a n i 4 (by omega) (by omega) hn).mono ?_
  rintro e w1 ⟨rfl, hb⟩
  rw [show (hasB live a n && decide (0 ≤ i ∧ i < n / 4)) = false from hh]
  clear hh h1
  go_wp2
  go_ret2
  exact ⟨rfl, ((Below.refl _ _).alloc (Nat.le_refl _) _).trans (hb.mono (by simp))⟩

/-- Word i of a span. -/
def wordV (mem : List Int) (live : Nat) (a n i : Int) : Int := if wordOk live a n i then word4 mem (a + 4 * i).toNat else 0

theorem word_call (h : Ar w p q mem live peak) (a n i : Int) (hn : n ≤ 9223372036854775807) :
    Calls Try.prog 12 #[.pointer (some ⟨p, 0, none⟩), .agg #[.int .i64 a, .int .i64 n], .int .i64 i] w fun e w' =>
      e = .returned (.tuple #[.int .u32 (wordV mem live a n i), .bool (wordOk live a n i)]) ∧ Below w.heap.size w w' := by
  by_cases hh : wordOk live a n i = true
  · obtain ⟨a, n, i, rfl, rfl, rfl, hin, hal⟩ := wordOk_yes hh
    have e : wordV mem live a n i = word4 mem (a + 4 * i) := by unfold wordV; rw [if_pos hh]; congr 1
    rw [hh, e]
    exact word_yes h a n i hn hh hin hal
  · have hh' : wordOk live a n i = false := by simpa using hh
    have e : wordV mem live a n i = 0 := by unfold wordV; rw [if_neg hh]
    rw [hh', e]
    exact word_no h a n i hn hh'

/-- The bytes after word i of a span is set. -/
def wordPut (mem : List Int) (o : Nat) (v : Int) : List Int := (((mem.set o (v % 256)).set (o + 1) (v / 256 % 256)).set (o + 2) (v / 65536 % 256)).set (o + 3) (v / 16777216)

set_option maxHeartbeats 1000000 in
theorem setWord_yes (h : Ar w p q mem live peak) (a n i : Nat) (v : Int) (hv : 0 ≤ v) (hv' : v ≤ 4294967295) (hn : (n : Int) ≤ 9223372036854775807) (hh : wordOk live a n i = true) (hin : 4 * i + 4 ≤ n) (hal : a + n ≤ live) :
    Calls Try.prog 22 #[.pointer (some ⟨p, 0, none⟩), .agg #[.int .i64 a, .int .i64 n], .int .i64 i, .int .u32 v] w fun e w' =>
      e = .returned (.bool true) ∧ Kp p q w w' ∧ Ar w' p q (wordPut mem (a + 4 * i) v) live peak := by
  have h1 := h.alloc (.cells #[Value.int IntKind.i64 a, Value.int IntKind.i64 n] 34)
  go_enter Try.func22, Try.ntmps22
  go_wp2_with fail
  refine (holds_call h1 a n i 4 (by omega) (by omega) hn).mono ?_
  rintro e w1 ⟨rfl, hb⟩
  rw [show (hasB live a n && decide (0 ≤ (i : Int) ∧ (i : Int) < (n : Int) / 4)) = true from hh]
  have h2 := h1.below hb
  have hz : w1.cell? ⟨w.heap.size, 0, none⟩ = some (.int .i64 a) := (hb.cell (by simp)).trans (by simp)
  have hz1 : w1.cell? ⟨w.heap.size, 1, none⟩ = some (.int .i64 n) := (hb.cell (by simp)).trans (by simp)
  have hl := h2.ll
  have hs := h2.small
  have hF := Lib.hid hb
  clear h1 hh h hb
  go_wp2_with fail
  refine (wordSpan_call w1 a i n (by omega)).mono ?_
  rintro e w2 ⟨rfl, hb2⟩
  have h3 := h2.below hb2
  go_wp2_with fail
  refine (part_call h3 (a + 4 * i) 4 (by omega)).mono ?_
  rintro e w3 ⟨rfl, hb3⟩
  rw [show partOff (a + 4 * i) 4 = a + 4 * i from rfl]
  have h4 := h3.below hb3
  have c0 := h4.cq (a + 4 * i) (by omega)
  have c1 := h4.cq (a + 4 * i + 1) (by omega)
  have c2 := h4.cq (a + 4 * i + 2) (by omega)
  have c3 := h4.cq (a + 4 * i + 3) (by omega)
  have f0 := h4.fq (a + 4 * i)
  have f1 := h4.fq (a + 4 * i + 1)
  have f2 := h4.fq (a + 4 * i + 2)
  have f3 := h4.fq (a + 4 * i + 3)
  have hF3 := Lib.hid (hb2.trans (hb3.mono hb2.size))
  have hA := Lib.hid h4
  clear h2 h3 h4 hb2 hb3
  go_wp2
  go_ret
  refine ⟨rfl, ?_, ?_⟩
  · exact (((((Kp.alloc _ _ _ _).trans (Kp.of_below hF.out)).trans (Kp.of_below hF3.out)).trans (Kp.setQ _ _ _ _ _)).trans (Kp.setQ _ _ _ _ _)).trans ((Kp.setQ _ _ _ _ _).trans (Kp.setQ _ _ _ _ _))
  · exact (((hA.out.setByte (by omega)).setByte (by omega)).setByte (by omega)).setByte (by omega)

set_option maxHeartbeats 400000 in
theorem setWord_no (h : Ar w p q mem live peak) (a n i v : Int) (hn : n ≤ 9223372036854775807) (hh : wordOk live a n i = false) :
    Calls Try.prog 22 #[.pointer (some ⟨p, 0, none⟩), .agg #[.int .i64 a, .int .i64 n], .int .i64 i, .int .u32 v] w fun e w' =>
      e = .returned (.bool false) ∧ Kp p q w w' ∧ Ar w' p q mem live peak := by
  have h1 := h.alloc (.cells #[Value.int IntKind.i64 a, Value.int IntKind.i64 n] 34)
  go_enter Try.func22, Try.ntmps22
  go_wp2_with fail
  refine (holds_call h1 a n i 4 (by omega) (by omega) hn).mono ?_
  rintro e w1 ⟨rfl, hb⟩
  rw [show (hasB live a n && decide (0 ≤ i ∧ i < n / 4)) = false from hh]
  have hF := Lib.hid hb
  have hA := Lib.hid (h1.below hb)
  clear hh h1 h hb
  go_wp2
  go_ret
  exact ⟨rfl, (Kp.alloc _ _ _ _).trans (Kp.of_below hF.out), hA.out⟩

/-- The bytes after word i of a span is set, if there is one. -/
def wordSet (mem : List Int) (live : Nat) (a n i v : Int) : List Int := if wordOk live a n i then wordPut mem (a + 4 * i).toNat v else mem

theorem setWord_call (h : Ar w p q mem live peak) (a n i v : Int) (hv : 0 ≤ v) (hv' : v ≤ 4294967295) (hn : n ≤ 9223372036854775807) :
    Calls Try.prog 22 #[.pointer (some ⟨p, 0, none⟩), .agg #[.int .i64 a, .int .i64 n], .int .i64 i, .int .u32 v] w fun e w' =>
      e = .returned (.bool (wordOk live a n i)) ∧ Kp p q w w' ∧ Ar w' p q (wordSet mem live a n i v) live peak := by
  by_cases hh : wordOk live a n i = true
  · obtain ⟨a, n, i, rfl, rfl, rfl, hin, hal⟩ := wordOk_yes hh
    have e : wordSet mem live a n i v = wordPut mem (a + 4 * i) v := by unfold wordSet; rw [if_pos hh]; congr 1
    rw [hh, e]
    exact setWord_yes h a n i v hv hv' hn hh hin hal
  · have hh' : wordOk live a n i = false := by simpa using hh
    have e : wordSet mem live a n i v = mem := by unfold wordSet; rw [if_neg hh]
    rw [hh', e]
    exact setWord_no h a n i v hn hh'

end
end Go.Proofs.Ytipliponbcjgdaa
