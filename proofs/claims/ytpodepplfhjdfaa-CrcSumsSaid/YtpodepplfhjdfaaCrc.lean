/- Package crc: entry, Step. -/
import Derived.Test.YtpodepplfhjdfaaPar
import Derived.Test.YtpodepplfhjdfaaCrcM
import Derived.RegionTactic
import Derived.Deep.RegionHeld3
import Derived.Deep.DeepMust
import Derived.Deep.WholeRow
import Derived.Laws.BitsAllLaws
set_option linter.unusedVariables false
set_option linter.unusedSimpArgs false
namespace Go.Proofs.Ytpodepplfhjdfaa
open Go.RowKit

theorem and1_u32 (v : Nat) (h : v < 4294967296) : bits .and .u32 (v : Int) 1 = ((v % 2 : Nat) : Int) := by
  have := u32_and_nat v 1 h (by omega)
  rw [nat_mask1] at this
  exact this

theorem crcT_odd (v : Nat) (hv : v < 4294967296) (h : v % 2 = 1) : Value.int .u32 (bits .xor .u32 ((v : Int) / 2) 3988292384) = .int .u32 (crcT v : Nat) := by
  have := u32_xor_nat (v / 2) 3988292384 (by omega) (by omega)
  unfold crcT
  rw [if_pos h, ← this]
  rfl
theorem crcT_even (v : Nat) (h : ¬ v % 2 = 1) : Value.int .u32 ((v : Int) / 2) = .int .u32 (crcT v : Nat) := by
  unfold crcT
  rw [if_neg h]
  rfl

theorem entry_call (b : Nat) (hb : b < 256) (w : World) :
    Calls Try.prog 22 #[.int .u8 b] w fun e w' => e = .returned (.int .u32 (crcRow b)) ∧ w = w' := by
  go_enter Try.func22, Try.ntmps22
  go_wp2
  go_loop [3, 7] (fun v i => ∃ k : Nat, k ≤ 8 ∧ i = .int .i64 k ∧ v = .int .u32 (crcN k b)) (fun _ i => 8 - (intOf i).toNat)
  case atStart => exact ⟨0, by omega, rfl, rfl⟩
  case round =>
    obtain ⟨k, hk, rfl, rfl⟩ := hrel
    by_cases hlt : k < 8
    · have hv := crcN_lt k (v := b) (by omega)
      have hs : crcN (k + 1) b = crcT (crcN k b) := rfl
      obtain ⟨v, hve⟩ : ∃ v, v = crcN k b := ⟨_, rfl⟩
      rw [← hve] at hv hs ⊢
      have HS := Lib.hid hs
      clear hve hs
      have a1 := and1_u32 v hv
      go_wp2_with fail
      · rename_i ho
        have ho' : v % 2 = 1 := by
          have h2 : (v : Int) % 2 = 1 := by simpa using ho
          omega
        go_round
        case rel => exact ⟨k + 1, by omega, by go_num, by rw [HS.out, crcT_odd v hv ho']⟩
        case measure => simp [intOf]; omega
      · rename_i ho
        have ho' : ¬ v % 2 = 1 := by
          have h2 : ¬ (v : Int) % 2 = 1 := by simpa using ho
          omega
        go_round
        case rel => exact ⟨k + 1, by omega, by go_num, by rw [HS.out, crcT_even v ho']⟩
        case measure => simp [intOf]; omega
    · obtain rfl : k = 8 := by omega
      go_wp2
      go_ret
      exact ⟨rfl, rfl⟩

theorem xor8_low (c b : Nat) (hb : b < 256) : bits .xor .u8 ((c : Int) % 256) (b : Int) = ((c % 256 ^^^ b : Nat) : Int) := u8_xor_nat (c % 256) b (by omega) hb
theorem xor32_step (r c : Nat) (hr : r < 4294967296) (hc : c < 4294967296) : bits .xor .u32 (r : Int) ((c : Int) / 256) = ((r ^^^ c / 256 : Nat) : Int) := u32_xor_nat r (c / 256) hr (by omega)

set_option maxHeartbeats 400000 in
theorem step_call (c b : Nat) (hc : c < 4294967296) (hb : b < 256) (w : World) :
    Calls Try.prog 14 #[.int .u32 c, .int .u8 b] w fun e w' => e = .returned (.int .u32 (crcStep c b)) ∧ w = w' := by
  have hx := Lib.hid (xor8_low c b hb)
  have hl := xor_lt8 (show c % 256 < 256 by omega) hb
  have hr := Lib.hid (xor32_step (crcRow (c % 256 ^^^ b)) c (crcRow_lt hl) hc)
  go_enter Try.func14, Try.ntmps14
  go_wp2_with fail
  rw [hx.out]
  refine (entry_call _ hl _).mono ?_
  rintro e w' ⟨rfl, rfl⟩
  go_wp2
  go_ret
  exact ⟨by rw [hr.out]; rfl, rfl⟩

/-! The reference. -/
theorem row_call (b : Nat) (hb : b < 256) (w : World) :
    Calls Try.prog 13 #[.int .u8 b] w fun e w' => e = .returned (.int .u32 (crcRow b)) ∧ w = w' := by
  go_enter Try.func13, Try.ntmps13
  go_wp2
  go_loop [3, 4] (fun v i => ∃ k : Nat, k ≤ 8 ∧ i = .int .i64 k ∧ v = .int .u32 (crcN k b)) (fun _ i => 8 - (intOf i).toNat)
  case atStart => exact ⟨0, by omega, rfl, rfl⟩
  case round =>
    obtain ⟨k, hk, rfl, rfl⟩ := hrel
    by_cases hlt : k < 8
    · have hv := crcN_lt k (v := b) (by omega)
      have hs : crcN (k + 1) b = crcT (crcN k b) := rfl
      obtain ⟨v, hve⟩ : ∃ v, v = crcN k b := ⟨_, rfl⟩
      rw [← hve] at hv hs ⊢
      have HS := Lib.hid hs
      clear hve hs
      go_wp2_with fail
      · rename_i ho
        have ho' : v % 2 = 1 := by
          have h2 : (v : Int) % 2 = 1 := by simpa using ho
          omega
        go_round
        case rel => exact ⟨k + 1, by omega, by go_num, by rw [HS.out, crcT_odd v hv ho']⟩
        case measure => simp [intOf]; omega
      · rename_i ho
        have ho' : ¬ v % 2 = 1 := by
          have h2 : ¬ (v : Int) % 2 = 1 := by simpa using ho
          omega
        go_round
        case rel => exact ⟨k + 1, by omega, by go_num, by rw [HS.out, crcT_even v ho']⟩
        case measure => simp [intOf]; omega
    · obtain rfl : k = 8 := by omega
      go_wp2
      go_ret
      exact ⟨rfl, rfl⟩

set_option maxHeartbeats 400000 in
theorem rstep_call (c b : Nat) (hc : c < 4294967296) (hb : b < 256) (w : World) :
    Calls Try.prog 15 #[.int .u32 c, .int .u8 b] w fun e w' => e = .returned (.int .u32 (crcStep c b)) ∧ w = w' := by
  have hx := Lib.hid (xor8_low c b hb)
  have hl := xor_lt8 (show c % 256 < 256 by omega) hb
  have hr := Lib.hid (xor32_step (crcRow (c % 256 ^^^ b)) c (crcRow_lt hl) hc)
  go_enter Try.func15, Try.ntmps15
  go_wp2_with fail
  rw [hx.out]
  refine (row_call _ hl _).mono ?_
  rintro e w' ⟨rfl, rfl⟩
  go_wp2
  go_ret
  exact ⟨by rw [hr.out]; rfl, rfl⟩

/-- The four bytes of a word, the highest first. -/
def be4 (c : Nat) : List Int := [(c : Int) / 16777216, (c : Int) / 65536 % 256, (c : Int) / 256 % 256, (c : Int) % 256]
theorem be4_length (c : Nat) : (be4 c).length = 4 := rfl
theorem be4_byts (c : Nat) (h : c < 4294967296) : Byts (be4 c) := fun x hx => by
  simp only [be4, List.mem_cons, List.not_mem_nil, or_false] at hx
  omega
/-- Four bytes as a word, the highest first. -/
def word4b (l : List Int) : Int := l.getD 0 0 * 16777216 + l.getD 1 0 * 65536 + l.getD 2 0 * 256 + l.getD 3 0
theorem word4b_be4 (c : Nat) (l : List Int) : word4b (be4 c ++ l) = c := by
  simp [word4b, be4]
  omega
theorem word4b_bd (l : List Int) (h : Byts l) : 0 ≤ word4b l ∧ word4b l ≤ 4294967295 := by
  have h0 := h.getD 0
  have h1 := h.getD 1
  have h2 := h.getD 2
  have h3 := h.getD 3
  unfold word4b
  omega
theorem or32 (x y : Int) (k M : Nat) (hM : M = 2 ^ k) (hx : 0 ≤ x) (hx2 : x < M) (hy : 0 ≤ y) (hk : x + y * M < 4294967296) : bits .or .u32 (y * M) x = y * M + x := by
  obtain ⟨x, rfl⟩ := Int.eq_ofNat_of_zero_le hx
  obtain ⟨y, rfl⟩ := Int.eq_ofNat_of_zero_le hy
  have e : ((y : Int) * (M : Int)) = ((y * M : Nat) : Int) := by simp
  rw [e] at hk ⊢
  have h1 : x < 2 ^ k := by omega
  have h4 : y * M ||| x = y * M + x := by
    have h3 := Nat.two_pow_add_eq_or_of_lt h1 y
    rw [← hM] at h3
    rw [Nat.mul_comm y, ← h3]
  rw [u32_or_nat (y * M) x (by omega) (by omega), h4]
  omega
theorem word_bits (x0 x1 x2 x3 : Int) (h0 : 0 ≤ x0 ∧ x0 ≤ 255) (h1 : 0 ≤ x1 ∧ x1 ≤ 255) (h2 : 0 ≤ x2 ∧ x2 ≤ 255) (h3 : 0 ≤ x3 ∧ x3 ≤ 255) :
    bits .or .u32 (bits .or .u32 (bits .or .u32 (x0 * 16777216) (x1 * 65536)) (x2 * 256)) x3 = x0 * 16777216 + x1 * 65536 + x2 * 256 + x3 := by
  rw [show bits .or .u32 (x0 * 16777216) (x1 * 65536) = x0 * 16777216 + x1 * 65536 from or32 (x1 * 65536) x0 24 16777216 (by decide) (by omega) (by omega) (by omega) (by omega)]
  rw [show x0 * 16777216 + x1 * 65536 = (x0 * 256 + x1) * 65536 by omega, show bits .or .u32 ((x0 * 256 + x1) * 65536) (x2 * 256) = (x0 * 256 + x1) * 65536 + x2 * 256 from or32 (x2 * 256) (x0 * 256 + x1) 16 65536 (by decide) (by omega) (by omega) (by omega) (by omega)]
  rw [show (x0 * 256 + x1) * 65536 + x2 * 256 = (x0 * 65536 + x1 * 256 + x2) * 256 by omega, show bits .or .u32 ((x0 * 65536 + x1 * 256 + x2) * 256) x3 = (x0 * 65536 + x1 * 256 + x2) * 256 + x3 from or32 x3 _ 8 256 (by decide) (by omega) (by omega) (by omega) (by omega)]

set_option maxHeartbeats 400000 in
theorem put_call (c : Nat) (hc : c < 4294967296) (w : World) :
    Calls Try.prog 20 #[.int .u32 c] w fun e w' => e = .returned (.slice (some ⟨w.heap.size, 0, none⟩) 4 4) ∧ w' = w.alloc (.cells (icells .u8 (be4 c)) 5) := by
  go_enter Try.func20, Try.ntmps20
  go_wp2_with fail
  go_ret
  exact ⟨rfl, rfl⟩
set_option maxHeartbeats 400000 in
theorem rput_call (c : Nat) (hc : c < 4294967296) (w : World) :
    Calls Try.prog 21 #[.int .u32 c] w fun e w' => e = .returned (.slice (some ⟨w.heap.size, 0, none⟩) 4 4) ∧ w' = w.alloc (.cells (icells .u8 (be4 c)) 5) := by
  go_enter Try.func21, Try.ntmps21
  go_wp2_with fail
  go_ret
  exact ⟨rfl, rfl⟩
set_option maxHeartbeats 400000 in
theorem take_no (w : World) (a : Option Addr) (n c : Nat) (h : n < 4) :
    Calls Try.prog 11 #[.slice a n c] w fun e w' => e = .returned (.tuple #[.int .u32 0, .bool false]) ∧ w = w' := by
  go_enter Try.func11, Try.ntmps11
  go_wp2_with fail
  go_ret2
  exact ⟨rfl, rfl⟩
set_option maxHeartbeats 400000 in
theorem rtake_no (w : World) (a : Option Addr) (n c : Nat) (h : n < 4) :
    Calls Try.prog 12 #[.slice a n c] w fun e w' => e = .returned (.tuple #[.int .u32 0, .bool false]) ∧ w = w' := by
  go_enter Try.func12, Try.ntmps12
  go_wp2_with fail
  go_ret2
  exact ⟨rfl, rfl⟩

theorem four_cells {w : World} {a : Option Addr} {n : Nat} {l : List Int} (hl : l.length = n) (hs : Src w .u8 a l) (h : 4 ≤ n) :
    ∃ g o, a = some ⟨g, o, none⟩ ∧ w.cell? ⟨g, o, none⟩ = some (.int .u8 (l.getD 0 0)) ∧ w.cell? ⟨g, o + 1, none⟩ = some (.int .u8 (l.getD 1 0)) ∧ w.cell? ⟨g, o + 2, none⟩ = some (.int .u8 (l.getD 2 0)) ∧ w.cell? ⟨g, o + 3, none⟩ = some (.int .u8 (l.getD 3 0)) := by
  rcases hs with rfl | ⟨g, o, rfl, hc⟩
  · simp at hl
    omega
  · exact ⟨g, o, rfl, hc 0 (by omega), hc 1 (by omega), hc 2 (by omega), hc 3 (by omega)⟩

set_option maxHeartbeats 1000000 in
theorem take_yes (w : World) (a : Option Addr) (n c : Nat) (l : List Int) (hl : l.length = n) (hs : Src w .u8 a l) (hby : Byts l) (h : 4 ≤ n) (h63 : n ≤ 9223372036854775807) :
    Calls Try.prog 11 #[.slice a n c] w fun e w' => e = .returned (.tuple #[.int .u32 (word4b l), .bool true]) ∧ Below w.heap.size w w' := by
  obtain ⟨g, o, rfl, c0, c1, c2, c3⟩ := four_cells hl hs h
  have b0 := hby.getD 0
  have b1 := hby.getD 1
  have b2 := hby.getD 2
  have b3 := hby.getD 3
  have H := Lib.hid (show word4b l = l.getD 0 0 * 16777216 + l.getD 1 0 * 65536 + l.getD 2 0 * 256 + l.getD 3 0 from rfl)
  obtain ⟨x0, e0⟩ : ∃ x, x = l.getD 0 0 := ⟨_, rfl⟩
  obtain ⟨x1, e1⟩ : ∃ x, x = l.getD 1 0 := ⟨_, rfl⟩
  obtain ⟨x2, e2⟩ : ∃ x, x = l.getD 2 0 := ⟨_, rfl⟩
  obtain ⟨x3, e3⟩ : ∃ x, x = l.getD 3 0 := ⟨_, rfl⟩
  rw [← e0] at b0 c0 H
  rw [← e1] at b1 c1 H
  rw [← e2] at b2 c2 H
  rw [← e3] at b3 c3 H
  clear e0 e1 e2 e3 hl hs hby
  have HW := Lib.hid (word_bits x0 x1 x2 x3 b0 b1 b2 b3)
  obtain ⟨m0, n0⟩ := b0
  obtain ⟨m1, n1⟩ := b1
  obtain ⟨m2, n2⟩ := b2
  obtain ⟨m3, n3⟩ := b3
  go_enter Try.func11, Try.ntmps11
  go_wp2_with fail
  go_quiet (fail)
  go_wp2
  go_ret2
  exact ⟨by rw [H.out, ← HW.out]; rfl, below_drewN (Below.refl _ _) _⟩
set_option maxHeartbeats 1000000 in
theorem rtake_yes (w : World) (a : Option Addr) (n c : Nat) (l : List Int) (hl : l.length = n) (hs : Src w .u8 a l) (hby : Byts l) (h : 4 ≤ n) (h63 : n ≤ 9223372036854775807) :
    Calls Try.prog 12 #[.slice a n c] w fun e w' => e = .returned (.tuple #[.int .u32 (word4b l), .bool true]) ∧ Below w.heap.size w w' := by
  obtain ⟨g, o, rfl, c0, c1, c2, c3⟩ := four_cells hl hs h
  have b0 := hby.getD 0
  have b1 := hby.getD 1
  have b2 := hby.getD 2
  have b3 := hby.getD 3
  have H := Lib.hid (show word4b l = l.getD 0 0 * 16777216 + l.getD 1 0 * 65536 + l.getD 2 0 * 256 + l.getD 3 0 from rfl)
  obtain ⟨x0, e0⟩ : ∃ x, x = l.getD 0 0 := ⟨_, rfl⟩
  obtain ⟨x1, e1⟩ : ∃ x, x = l.getD 1 0 := ⟨_, rfl⟩
  obtain ⟨x2, e2⟩ : ∃ x, x = l.getD 2 0 := ⟨_, rfl⟩
  obtain ⟨x3, e3⟩ : ∃ x, x = l.getD 3 0 := ⟨_, rfl⟩
  rw [← e0] at b0 c0 H
  rw [← e1] at b1 c1 H
  rw [← e2] at b2 c2 H
  rw [← e3] at b3 c3 H
  clear e0 e1 e2 e3 hl hs hby
  obtain ⟨m0, n0⟩ := b0
  obtain ⟨m1, n1⟩ := b1
  obtain ⟨m2, n2⟩ := b2
  obtain ⟨m3, n3⟩ := b3
  go_enter Try.func12, Try.ntmps12
  go_wp2_with fail
  go_quiet (fail)
  go_wp2
  go_ret2
  exact ⟨by rw [H.out]; rfl, below_drewN (Below.refl _ _) _⟩
end Go.Proofs.Ytpodepplfhjdfaa
