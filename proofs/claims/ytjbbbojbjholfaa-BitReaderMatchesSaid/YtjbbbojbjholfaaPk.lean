/- Package bitreader: Peek, Take, Align. -/
import Derived.Test.YtjbbbojbjholfaaRd
set_option linter.unusedVariables false
set_option linter.unusedSimpArgs false
namespace Go.Proofs.Ytjbbbojbjholfaa
open Go.RowKit

/-- Bits in the midst of bits. -/
theorem valV_mid (L : List Int) (A W R : Nat) (hL : L.length = A + W + R) (hb : Bin L) : valV ((L.drop A).take W) = valV L / ((2 ^ R : Nat) : Int) % ((2 ^ W : Nat) : Int) := by
  have e : L = L.take A ++ ((L.drop A).take W) ++ (L.drop (A + W)) := by
    rw [List.append_assoc, ← List.drop_drop, List.take_append_drop, List.take_append_drop]
  have hR : (L.drop (A + W)).length = R := by rw [List.length_drop]; omega
  have hW : ((L.drop A).take W).length = W := by rw [List.length_take, List.length_drop]; omega
  have b1 : Bin (L.take A ++ ((L.drop A).take W) ++ (L.drop (A + W))) := by rw [← e]; exact hb
  have hT := valV_bd _ b1.right
  have hM := valV_bd _ b1.left.right
  have hP := valV_append (L.take A) ((L.drop A).take W)
  have hQ := valV_append (L.take A ++ ((L.drop A).take W)) (L.drop (A + W))
  rw [← e] at hQ
  rw [hR] at hT hQ
  rw [hW] at hM hP
  have h1 : valV L / ((2 ^ R : Nat) : Int) = valV (L.take A ++ ((L.drop A).take W)) := by
    rw [hQ, Int.add_comm, Int.add_mul_ediv_right _ _ (by have := Nat.two_pow_pos R; omega), Int.ediv_eq_zero_of_lt hT.1 hT.2, Int.zero_add]
  rw [h1, hP, Int.add_comm, Int.add_mul_emod_self_right, Int.emod_eq_of_lt hM.1 hM.2]
theorem valV_byte (l : List Int) (x : Int) (h : 0 ≤ x ∧ x ≤ 255) : valV (bitsB (l ++ [x])) = valV (bitsB l) * 256 + x := by
  rw [bitsB_append, valV_append, bitsB_length]
  have : bitsB [x] = bitsV x 8 := by simp [bitsB]
  rw [this, valV_bits 8 x h.1 (by simp; omega)]
  simp
theorem bitsB_drop (l : List Int) (n : Nat) : bitsB (l.drop n) = (bitsB l).drop (8 * n) := by
  induction n generalizing l with
  | zero => rfl
  | succ n ih =>
    cases l with
    | nil => simp [bitsB]
    | cons x l =>
      rw [List.drop_succ_cons, ih, show bitsB (x :: l) = bitsV x 8 ++ bitsB l from rfl, show 8 * (n + 1) = 8 + 8 * n by omega, ← List.drop_drop]
      congr 1
theorem bitsB_take (l : List Int) (n : Nat) : bitsB (l.take n) = (bitsB l).take (8 * n) := by
  induction n generalizing l with
  | zero => rfl
  | succ n ih =>
    cases l with
    | nil => simp [bitsB]
    | cons x l =>
      rw [List.take_succ_cons, show bitsB (x :: l.take n) = bitsV x 8 ++ bitsB (l.take n) from rfl, ih, show bitsB (x :: l) = bitsV x 8 ++ bitsB l from rfl, show 8 * (n + 1) = (bitsV x 8).length + 8 * n by rw [bitsV_length]; omega, List.take_length_add_append]
/-- What Peek computes. -/
theorem peek_val (f : List Int) (u wd k : Nat) (hk : k = (u % 8 + wd + 7) / 8) (hu : u + wd ≤ 8 * f.length) :
    valV (((bitsB f).drop u).take wd) = valV (bitsB ((f.drop (u / 8)).take k)) / ((2 ^ (8 * k - (u % 8 + wd)) : Nat) : Int) % ((2 ^ wd : Nat) : Int) := by
  have hL : (bitsB ((f.drop (u / 8)).take k)).length = u % 8 + wd + (8 * k - (u % 8 + wd)) := by
    rw [bitsB_length, List.length_take, List.length_drop]
    omega
  rw [← valV_mid _ (u % 8) wd _ hL (bitsB_bin _)]
  congr 1
  rw [bitsB_take, bitsB_drop, List.drop_take, List.drop_drop, List.take_take, show 8 * (u / 8) + u % 8 = u by omega, Nat.min_eq_left (by omega)]
theorem or_byte64 (v x : Int) (hv : 0 ≤ v) (hv' : v < 4294967296) (hx : 0 ≤ x ∧ x ≤ 255) : bits .or .u64 (v * 256) x = v * 256 + x := by
  obtain ⟨V, rfl⟩ := Int.eq_ofNat_of_zero_le hv
  obtain ⟨X, rfl⟩ := Int.eq_ofNat_of_zero_le hx.1
  have h3 := Nat.two_pow_add_eq_or_of_lt (show X < 2 ^ 8 by omega) V
  rw [show ((V : Int) * 256) = ((2 ^ 8 * V : Nat) : Int) by omega, u64_or_nat (2 ^ 8 * V) X (by omega) (by omega), ← h3]
  omega
theorem and_mask64 (v : Int) (wd : Nat) (hv : 0 ≤ v) (hv' : v < 1099511627776) (hw : wd ≤ 32) : bits .and .u64 v (((2 ^ wd : Nat) : Int) - 1) = v % ((2 ^ wd : Nat) : Int) := by
  obtain ⟨V, rfl⟩ := Int.eq_ofNat_of_zero_le hv
  have h0 := Nat.two_pow_pos wd
  have h1 : 2 ^ wd ≤ 2 ^ 32 := Nat.pow_le_pow_right (by omega) hw
  rw [show (((2 ^ wd : Nat) : Int) - 1) = ((2 ^ wd - 1 : Nat) : Int) by omega, u64_and_nat V (2 ^ wd - 1) (by omega) (by omega), Nat.and_two_pow_sub_one_eq_mod]
  omega

section
variable {w : World} {p : Nat} {a : Option Addr} {c : Nat} {f : List Int} {u : Nat} {e : Bool}

theorem peek_nil (w : World) (wd : Int) :
    Calls Try.prog 13 #[.pointer none, .int .i64 wd] w fun x w' => x = .returned (.tuple #[.int .u32 0, .bool false]) ∧ w = w' := by
  go_enter Try.func13, Try.ntmps13
  go_wp2
  go_ret2
  exact ⟨rfl, rfl⟩

set_option maxHeartbeats 1000000 in
theorem peek_no (h : Rd w p a c f u e) (wd : Int) (hw : ¬ (0 ≤ wd ∧ wd ≤ 32 ∧ (u : Int) + wd ≤ 8 * (f.length : Int))) :
    Calls Try.prog 13 #[.pointer (some ⟨p, 0, none⟩), .int .i64 wd] w fun x w' => x = .returned (.tuple #[.int .u32 0, .bool false]) ∧ Below w.heap.size w w' := by
  obtain ⟨n, hn⟩ : ∃ n, u + n = 8 * f.length := ⟨8 * f.length - u, by have := h.le; omega⟩
  have HL := Lib.hid (left_call h n hn)
  by_cases h0 : wd < 0
  · have d0 : decide (wd < 0) = true := by simpa using h0
    clear hw
    go_enter Try.func13, Try.ntmps13
    go_wp2_with fail
    go_ret2
    exact ⟨rfl, Below.refl _ _⟩
  · have d0 : decide (wd < 0) = false := by simpa using h0
    by_cases h1 : 32 < wd
    · have d1 : decide (32 < wd) = true := by simpa using h1
      clear hw
      go_enter Try.func13, Try.ntmps13
      go_wp2_with fail
      go_ret2
      exact ⟨rfl, Below.refl _ _⟩
    · have d1 : decide (32 < wd) = false := by simpa using h1
      have d2 : decide ((n : Int) < wd) = true := by simp; omega
      clear hw
      go_enter Try.func13, Try.ntmps13
      go_wp2_with (go_at_call 20; go_must (refine HL.out.mono ?_; rintro e w' ⟨rfl, hb⟩))
      go_ret2
      exact ⟨rfl, hb⟩

set_option maxHeartbeats 2000000 in
theorem peek_yes (h : Rd w p a c f u e) (wd : Nat) (hw : wd ≤ 32) (hu : u + wd ≤ 8 * f.length) :
    Calls Try.prog 13 #[.pointer (some ⟨p, 0, none⟩), .int .i64 wd] w fun x w' => x = .returned (.tuple #[.int .u32 (valV (((bitsB f).drop u).take wd)), .bool true]) ∧ Below w.heap.size w w' := by
  obtain ⟨n, hn⟩ : ∃ n, u + n = 8 * f.length := ⟨8 * f.length - u, by have := h.le; omega⟩
  have HL := Lib.hid (left_call h n hn)
  obtain ⟨k, hk⟩ : ∃ k, k = (u % 8 + wd + 7) / 8 := ⟨_, rfl⟩
  have HV := Lib.hid (peek_val f u wd k hk hu)
  have d0 : decide ((wd : Int) < 0) = false := by simp
  have d1 : decide (32 < (wd : Int)) = false := by simp; omega
  have d2 : ¬ n < wd := by omega
  have hk5 : k ≤ 5 := by omega
  have hk2 : ((u : Int) % 8 + (wd : Int) + 8 - 1) / 8 = (k : Int) := by omega
  obtain ⟨m, hm⟩ : ∃ m, m = f.length - u / 8 := ⟨_, rfl⟩
  have hkm : k ≤ m := by omega
  have hm6 : m ≤ 1000000 := by have := h.small; omega
  have H := Lib.hid h
  have HM := Lib.hid hm
  have HK := Lib.hid hk
  have HU := Lib.hid hu
  have HBY := Lib.hid h.byts
  clear h hk hm hn hu
  go_enter Try.func13, Try.ntmps13
  go_wp2_with fail
  refine HL.out.mono ?_
  rintro e w1 ⟨rfl, hb⟩
  have H1 := H.out.below hb
  have hc := H1.row.cap
  rw [List.length_drop, ← HM.out] at hc
  obtain ⟨hc1, hc2⟩ := hc
  unfold maxLen at hc2
  have h0 := H1.c0
  rw [← HM.out] at h0
  have hS := Lib.hid H1.row.src
  have HB := Lib.hid (begun_call H1)
  have b1 := Lib.hid hb
  clear hb H HL H1
  go_wp2_with fail
  refine HB.out.mono ?_
  rintro e w2 ⟨rfl, rfl⟩
  go_wp2_with fail
  rw [hk2]
  obtain ⟨l, hl⟩ : ∃ l, l = f.drop (u / 8) := ⟨_, rfl⟩
  have hlen : l.length = m := by rw [hl, List.length_drop]; exact HM.out.symm
  have hby : ∀ x ∈ l, 0 ≤ x ∧ x ≤ 255 := fun x hx => HBY.out x (by rw [hl] at hx; exact List.mem_of_mem_drop hx)
  rw [← hl] at hS HV
  have HLEN := Lib.hid hlen
  have HY := Lib.hid hby
  clear hl hlen hby HB
  go_loopw [8, 42] (fun v i wr => ∃ j : Nat, j ≤ k ∧ i = .int .i64 j ∧ v = .int .u64 (valV (bitsB (l.take j))) ∧ wr = w1) (fun _ i _ => k - (intOf i).toNat)
  case atStart => exact ⟨0, Nat.zero_le _, rfl, rfl, rfl⟩
  case round =>
    obtain ⟨j, hj, rfl, rfl, rfl⟩ := hrel
    have hvb := valV_bd _ (bitsB_bin (l.take j))
    rw [bitsB_length, List.length_take, HLEN.out, Nat.min_eq_left (by omega)] at hvb
    obtain ⟨V, hV⟩ : ∃ V, V = valV (bitsB (l.take j)) := ⟨_, rfl⟩
    rw [← hV] at hvb ⊢
    obtain ⟨hv0, hv1⟩ := hvb
    have HVV := Lib.hid hV
    clear hV
    by_cases hlt : j < k
    · have hp : 2 ^ (8 * j) ≤ 2 ^ 32 := Nat.pow_le_pow_right (by omega) (by omega)
      have hv2 : V < 4294967296 := by omega
      rcases hS.out with hnil | ⟨g, o, rfl, hc⟩
      · have := HLEN.out
        rw [hnil] at this
        simp at this
        omega
      have hcj := hc j (by rw [HLEN.out]; omega)
      have hjl : j < l.length := by rw [HLEN.out]; omega
      have hxb := HY.out _ (List.getElem_mem hjl)
      rw [getD_in _ _ hjl] at hcj
      have hstep := valV_byte (l.take j) l[j] hxb
      rw [← HVV.out, ← List.take_succ_eq_append_getElem hjl] at hstep
      obtain ⟨x, hx⟩ : ∃ x, x = l[j] := ⟨_, rfl⟩
      rw [← hx] at hcj hxb hstep
      rw [← or_byte64 V x hv0 hv2 hxb] at hstep
      obtain ⟨hx0, hx1⟩ := hxb
      have HST := Lib.hid hstep
      clear hstep hx hc hjl hp hv1
      go_wp2_with fail
      go_roundw
      case rel => exact ⟨j + 1, by omega, by go_num, by rw [HST.out], trivial⟩
      case measure => simp [intOf]; omega
    · obtain rfl : j = k := by omega
      go_wp2_with fail
      go_ret2
      refine ⟨congrArg (fun x => Ending.returned (.tuple #[.int .u32 x, .bool true])) ?_, b1.out⟩
      have hpw : 2 ^ wd ≤ 2 ^ 32 := Nat.pow_le_pow_right (by omega) hw
      have hpw0 := Nat.two_pow_pos wd
      have e2 : ((2 : Int) ^ wd) = ((2 ^ wd : Nat) : Int) := by simp
      have e3 : ((2 : Int) ^ (8 * j - (u % 8 + wd))) = ((2 ^ (8 * j - (u % 8 + wd)) : Nat) : Int) := by simp
      have hp40 : 2 ^ (8 * j) ≤ 2 ^ 40 := Nat.pow_le_pow_right (by omega) (by omega)
      rw [e2, e3, show IntKind.u64.wrap ((2 ^ wd : Nat) : Int) = ((2 ^ wd : Nat) : Int) by rw [IntKind.wrap_u64]; omega, show IntKind.u64.wrap (((2 ^ wd : Nat) : Int) - 1) = ((2 ^ wd : Nat) : Int) - 1 by rw [IntKind.wrap_u64]; omega]
      have hpt := Nat.two_pow_pos (8 * j - (u % 8 + wd))
      have hq0 : 0 ≤ V / ((2 ^ (8 * j - (u % 8 + wd)) : Nat) : Int) := Int.ediv_nonneg hv0 (by omega)
      have hq1 : V / ((2 ^ (8 * j - (u % 8 + wd)) : Nat) : Int) ≤ V := Int.ediv_le_self _ hv0
      rw [and_mask64 _ _ hq0 (by omega) hw, HV.out, ← HVV.out]
      have hm0 := Int.emod_nonneg (V / ((2 ^ (8 * j - (u % 8 + wd)) : Nat) : Int)) (show ((2 ^ wd : Nat) : Int) ≠ 0 by omega)
      have hm1 := Int.emod_lt_of_pos (V / ((2 ^ (8 * j - (u % 8 + wd)) : Nat) : Int)) (show 0 < ((2 ^ wd : Nat) : Int) by omega)
      omega

theorem UsedR.from {w w1 w2 : World} {u : Nat} (hb : Below w.heap.size w w1) (h : UsedR w1 p a f u e w2) : UsedR w p a f u e w2 := by
  obtain ⟨a', c', h1, h2, h3⟩ := h
  exact ⟨a', c', h1, (Ch.of_below hb).trans h2 (fun _ _ e => e), h3⟩

theorem take_nil (w : World) (wd : Int) :
    Calls Try.prog 15 #[.pointer none, .int .i64 wd] w fun x w' => x = .returned (.tuple #[.int .u32 0, .bool false]) ∧ w = w' := by
  go_enter Try.func15, Try.ntmps15
  go_wp2_with fail
  refine (peek_nil w wd).mono ?_
  rintro e w1 ⟨rfl, rfl⟩
  go_wp2
  go_ret2
  exact ⟨rfl, rfl⟩
theorem take_no (h : Rd w p a c f u e) (wd : Int) (hw : ¬ (0 ≤ wd ∧ wd ≤ 32 ∧ (u : Int) + wd ≤ 8 * (f.length : Int))) :
    Calls Try.prog 15 #[.pointer (some ⟨p, 0, none⟩), .int .i64 wd] w fun x w' => x = .returned (.tuple #[.int .u32 0, .bool false]) ∧ Below w.heap.size w w' := by
  have HP := Lib.hid (peek_no h wd hw)
  clear h hw
  go_enter Try.func15, Try.ntmps15
  go_wp2_with fail
  refine HP.out.mono ?_
  rintro e w1 ⟨rfl, hb⟩
  go_wp2
  go_ret2
  exact ⟨rfl, hb⟩
set_option maxHeartbeats 400000 in
theorem take_yes (h : Rd w p a c f u e) (wd : Nat) (hw : wd ≤ 32) (hu : u + wd ≤ 8 * f.length) :
    Calls Try.prog 15 #[.pointer (some ⟨p, 0, none⟩), .int .i64 wd] w fun x w' => x = .returned (.tuple #[.int .u32 (valV (((bitsB f).drop u).take wd)), .bool true]) ∧ UsedR w p a f (u + wd) e w' := by
  have HP := Lib.hid (peek_yes h wd hw hu)
  obtain ⟨V, hV⟩ : ∃ V, V = valV (((bitsB f).drop u).take wd) := ⟨_, rfl⟩
  rw [← hV] at HP ⊢
  have H := Lib.hid h
  clear h hV
  go_enter Try.func15, Try.ntmps15
  go_wp2_with fail
  refine HP.out.mono ?_
  rintro e w1 ⟨rfl, hb⟩
  have HU := Lib.hid (use_call (H.out.below hb) wd hu)
  go_wp2_with fail
  refine HU.out.mono ?_
  rintro e w2 ⟨⟨v, rfl⟩, hr⟩
  have HR := Lib.hid hr
  clear hr HU
  go_wp2
  go_ret2
  exact ⟨rfl, HR.out.from hb⟩

theorem align_nil (w : World) :
    Calls Try.prog 17 #[.pointer none] w fun x w' => x = .returned (.tuple #[.int .u32 0, .int .i64 0]) ∧ w = w' := by
  go_enter Try.func17, Try.ntmps17
  go_wp2
  go_ret2
  exact ⟨rfl, rfl⟩
theorem align_at (h : Rd w p a c f u e) (h8 : u % 8 = 0) :
    Calls Try.prog 17 #[.pointer (some ⟨p, 0, none⟩)] w fun x w' => x = .returned (.tuple #[.int .u32 0, .int .i64 0]) ∧ w = w' := by
  have HB := begun_call h
  rw [h8] at HB
  have HB := Lib.hid HB
  clear h
  go_enter Try.func17, Try.ntmps17
  go_wp2_with fail
  refine HB.out.mono ?_
  rintro e w1 ⟨rfl, rfl⟩
  go_wp2
  go_ret2
  exact ⟨rfl, rfl⟩
set_option maxHeartbeats 400000 in
theorem align_in (h : Rd w p a c f u e) (n : Nat) (hn : u % 8 + n = 8) (h8 : u % 8 ≠ 0) :
    Calls Try.prog 17 #[.pointer (some ⟨p, 0, none⟩)] w fun x w' => x = .returned (.tuple #[.int .u32 (valV (((bitsB f).drop u).take n)), .int .i64 n]) ∧ UsedR w p a f (u + n) e w' := by
  have HB := begun_call h
  have HT := Lib.hid (take_yes h n (by omega) (by have := h.le; omega))
  obtain ⟨V, hV⟩ : ∃ V, V = valV (((bitsB f).drop u).take n) := ⟨_, rfl⟩
  rw [← hV] at HT ⊢
  have H := Lib.hid h
  obtain ⟨r, hr⟩ : ∃ r, r = u % 8 := ⟨_, rfl⟩
  rw [← hr] at HB hn h8
  have HB := Lib.hid HB
  have d0 : ((r : Int) == 0) = false := by simp; omega
  have e8 : 8 - (r : Int) = (n : Int) := by omega
  clear h hV hr
  go_enter Try.func17, Try.ntmps17
  go_wp2_with fail
  refine HB.out.mono ?_
  rintro e w1 ⟨rfl, rfl⟩
  go_wp2_with fail
  refine HB.out.mono ?_
  rintro e w1 ⟨rfl, rfl⟩
  go_wp2_with fail
  refine HT.out.mono ?_
  rintro e w2 ⟨rfl, hr⟩
  have HR := Lib.hid hr
  clear hr HT
  go_wp2
  go_ret2
  exact ⟨rfl, HR.out⟩
end
end Go.Proofs.Ytjbbbojbjholfaa
