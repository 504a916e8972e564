/- Package varint and its reference: Size, Valid, Step. -/
import Derived.Test.YtalkmbakglklbaaByt
import Derived.Test.YtalkmbakglklbaaVarM
import Derived.Test.YtalkmbakglklbaaHeld
import Derived.RegionTactic
import Derived.Deep.RegionHeld3
import Derived.Deep.DeepMust
import Derived.Deep.CutBlock
import Derived.Deep.DeepCutAuto
set_option linter.unusedVariables false
set_option linter.unusedSimpArgs false
namespace Go.Proofs.Ytalkmbakglklbaa
open Go.RowKit

theorem size_no (n : Int) (w : World) (h : n < 0 ∨ 2147483647 < n) :
    Calls Try.prog 15 #[.int .i64 n] w fun e w' => e = .returned (.int .i64 0) ∧ w = w' := by
  go_enter Try.func15, Try.ntmps15
  by_cases h1 : n < 0
  · have d1 : decide (n < 0) = true := by simp; omega
    go_wp2_with fail
    go_ret
    exact ⟨rfl, rfl⟩
  · have d1 : decide (n < 0) = false := by simp; omega
    have d2 : decide (2147483647 < n) = true := by simp; omega
    go_wp2_with fail
    go_ret
    exact ⟨rfl, rfl⟩

theorem size_yes (n : Nat) (h : n ≤ 2147483647) (w : World) :
    Calls Try.prog 15 #[.int .i64 n] w fun e w' => e = .returned (.int .i64 (vsz n : Nat)) ∧ w = w' := by
  have d1 : decide ((n : Int) < 0) = false := by simp
  have d2 : decide (2147483647 < (n : Int)) = false := by simp; omega
  have HV := Lib.hid (show vsz n = sz (n / 128) + 1 from rfl)
  go_enter Try.func15, Try.ntmps15
  go_wp2_with fail
  clear d1 d2
  go_loop [3, 4] (fun v i => ∃ k r : Nat, r ≤ 16777215 ∧ i = .int .i64 r ∧ v = .int .i64 (k : Nat) ∧ k ≤ 5 ∧ k + sz r = sz (n / 128) + 1) (fun _ i => (intOf i).toNat)
  case atStart => exact ⟨1, n / 128, by omega, by simp, rfl, by omega, by omega⟩
  case round =>
    obtain ⟨k, r, hr, rfl, rfl, hk, hs⟩ := hrel
    by_cases h0 : 0 < r
    · have d1 : decide (0 < (r : Int)) = true := by simp; omega
      have hsz := sz_pos r h0 (by omega)
      have hk4 := sz_lt5 (n / 128) (by omega)
      have hh := Lib.hid (show k + 1 + sz (r / 128) = sz (n / 128) + 1 by omega)
      have hk5 : k + 1 ≤ 5 := by omega
      clear hs hsz
      go_wp2_with fail
      go_round
      case rel => exact ⟨k + 1, r / 128, by omega, by simp, by go_num, hk5, hh.out⟩
      case measure => simp [intOf]; omega
    · obtain rfl : r = 0 := by omega
      have d1 : decide (0 < ((0 : Nat) : Int)) = false := rfl
      have hh := Lib.hid (show k = vsz n by rw [HV.out, ← hs, sz_zero]; rfl)
      clear hs
      go_wp2
      go_ret
      exact ⟨by rw [hh.out]; rfl, rfl⟩

/-- The bounds of an int. -/
def I64 (V : Int) : Prop := -9223372036854775808 ≤ V ∧ V ≤ 9223372036854775807

theorem valid_zero (V : Int) (w : World) :
    Calls Try.prog 16 #[.agg #[.int .i64 V, .int .i64 0]] w fun e w' => e = .returned (.bool (V == 0)) ∧ Below w.heap.size w w' := by
  go_enter Try.func16, Try.ntmps16
  go_wp2_with fail
  go_ret
  exact ⟨rfl, (Below.refl _ _).alloc (Nat.le_refl _) _⟩
theorem valid_out (V M : Int) (hM : M < 0 ∨ 5 ≤ M) (w : World) :
    Calls Try.prog 16 #[.agg #[.int .i64 V, .int .i64 M]] w fun e w' => e = .returned (.bool false) ∧ Below w.heap.size w w' := by
  have d0 : (M == 0) = false := by simp; omega
  go_enter Try.func16, Try.ntmps16
  by_cases h1 : M < 0
  · have d1 : decide (M < 0) = true := by simp; omega
    go_wp2_with fail
    go_ret
    exact ⟨rfl, (Below.refl _ _).alloc (Nat.le_refl _) _⟩
  · have d1 : decide (M < 0) = false := by simp; omega
    have d2 : decide (5 ≤ M) = true := by simp; omega
    go_wp2_with fail
    go_ret
    exact ⟨rfl, (Below.refl _ _).alloc (Nat.le_refl _) _⟩
theorem valid_in (V M : Int) (hM : M = 1 ∨ M = 2 ∨ M = 3 ∨ M = 4) (w : World) :
    Calls Try.prog 16 #[.agg #[.int .i64 V, .int .i64 M]] w fun e w' => e = .returned (.bool (decide (okV V M))) ∧ Below w.heap.size w w' := by
  obtain ⟨b, hb⟩ : ∃ b, b = decide (okV V M) := ⟨_, rfl⟩
  have H := Lib.hid hb
  rw [← hb]
  clear hb
  rcases hM with rfl | rfl | rfl | rfl
  all_goals
    go_enter Try.func16, Try.ntmps16
    go_wp2_with fail
  all_goals
    go_ret
    rw [H.out]
    refine ⟨congrArg (fun b => Ending.returned (.bool b)) ?_, (Below.refl _ _).alloc (Nat.le_refl _) _⟩
    first
      | exact decide_eq_decide.2 (by unfold okV; omega)
      | exact (decide_eq_false (by unfold okV; omega)).symm
theorem valid_call (V M : Int) (w : World) :
    Calls Try.prog 16 #[.agg #[.int .i64 V, .int .i64 M]] w fun e w' => e = .returned (.bool (decide (okV V M))) ∧ Below w.heap.size w w' := by
  by_cases h0 : M = 0
  · subst h0
    refine (valid_zero V w).mono ?_
    rintro e w' ⟨rfl, h⟩
    refine ⟨congrArg (fun b => Ending.returned (.bool b)) ?_, h⟩
    by_cases hv : V = 0
    · rw [decide_eq_true (show okV V 0 from .inl ⟨rfl, hv⟩)]
      simp [hv]
    · rw [decide_eq_false (show ¬ okV V 0 by unfold okV; omega)]
      simp [hv]
  · by_cases h1 : M < 0 ∨ 5 ≤ M
    · refine (valid_out V M h1 w).mono ?_
      rintro e w' ⟨rfl, h⟩
      rw [decide_eq_false (show ¬ okV V M by unfold okV; omega)]
      exact ⟨rfl, h⟩
    · exact valid_in V M (by omega) w

/-! The reference. -/
theorem pow_le (k : Nat) (h : k ≤ 4) : 128 ^ k ≤ 268435456 := by
  have : k = 0 ∨ k = 1 ∨ k = 2 ∨ k = 3 ∨ k = 4 := by omega
  rcases this with rfl | rfl | rfl | rfl | rfl <;> decide
theorem power_call (k : Nat) (h : k ≤ 4) (w : World) :
    Calls Try.prog 18 #[.int .i64 k] w fun e w' => e = .returned (.int .i64 (128 ^ k : Nat)) ∧ w = w' := by
  go_enter Try.func18, Try.ntmps18
  go_wp2
  go_loop [3, 4] (fun v i => ∃ j : Nat, j ≤ k ∧ i = .int .i64 j ∧ v = .int .i64 (128 ^ j : Nat)) (fun _ i => k - (intOf i).toNat)
  case atStart => exact ⟨0, by omega, rfl, rfl⟩
  case round =>
    obtain ⟨j, hj, rfl, rfl⟩ := hrel
    by_cases hlt : j < k
    · have hp := pow_le (j + 1) (by omega)
      have he : 128 ^ (j + 1) = 128 ^ j * 128 := Nat.pow_succ ..
      rw [he] at hp
      have HE := Lib.hid he
      clear he
      obtain ⟨q, hq⟩ : ∃ q, q = 128 ^ j := ⟨_, rfl⟩
      rw [← hq] at hp HE ⊢
      clear hq
      go_wp2_with fail
      go_round
      case rel => exact ⟨j + 1, by omega, by go_num, by rw [HE.out]; go_num⟩
      case measure => simp [intOf]; omega
    · obtain rfl : j = k := by omega
      go_wp2
      go_ret
      exact ⟨rfl, rfl⟩
theorem power_lit (k : Nat) (h : k ≤ 4) (K p : Int) (hK : K = k) (hp : p = (128 ^ k : Nat)) (w : World) :
    Calls Try.prog 18 #[.int .i64 K] w fun e w' => e = .returned (.int .i64 p) ∧ w' = w := by
  subst hK hp
  exact (power_call k h w).mono (fun e w' h => ⟨h.1, h.2.symm⟩)
set_option maxHeartbeats 1000000 in
theorem rvalid_at (V M p q : Int) (k : Nat) (hk : k < 4) (hM : M = (k : Int) + 1) (hp : p = (128 ^ k : Nat)) (hq : q = (128 ^ (k + 1) : Nat)) (w : World) :
    Calls Try.prog 17 #[.agg #[.int .i64 V, .int .i64 M]] w fun e w' => e = .returned (.bool (decide (p ≤ V) && decide (V < q))) ∧ Below w.heap.size w w' := by
  have d0 : (M == 0) = false := by simp; omega
  have d1 : decide (1 ≤ M) = true := by simp; omega
  have d4 : decide (M ≤ 4) = true := by simp; omega
  have hw : IntKind.i64.wrap (M - 1) = M - 1 := IntWalk.i64_in _ (by omega)
  have p1 := Lib.hid (fun w => power_lit k (by omega) (M - 1) p (by omega) hp w)
  have p2 := Lib.hid (fun w => power_lit (k + 1) (by omega) M q (by omega) hq w)
  clear hM hp hq
  by_cases h : p ≤ V
  · have d2 := decide_eq_true h
    go_enter Try.func17, Try.ntmps17
    go_wp2_with fail
    go_quiet ((go_at_call 18; first | with_reducible exact Calls.quiet_of_same (p1.out _) | with_reducible exact Calls.quiet_of_same (p2.out _)))
    go_wp2
    go_ret
    exact ⟨by simp [h], below_drewN ((Below.refl _ _).alloc (Nat.le_refl _) _) _⟩
  · have d2 := decide_eq_false h
    go_enter Try.func17, Try.ntmps17
    go_wp2_with fail
    go_quiet ((go_at_call 18; first | with_reducible exact Calls.quiet_of_same (p1.out _) | with_reducible exact Calls.quiet_of_same (p2.out _)))
    go_wp2
    go_ret
    exact ⟨by rw [d2]; rfl, below_drewN ((Below.refl _ _).alloc (Nat.le_refl _) _) _⟩
set_option maxHeartbeats 1000000 in
theorem rvalid_out (V M : Int) (h0 : M ≠ 0) (hM : M < 1 ∨ 4 < M) (w : World) :
    Calls Try.prog 17 #[.agg #[.int .i64 V, .int .i64 M]] w fun e w' => e = .returned (.bool false) ∧ Below w.heap.size w w' := by
  have d0 : (M == 0) = false := by simp; omega
  by_cases h1 : M < 1
  · have d1 : decide (1 ≤ M) = false := by simp; omega
    go_enter Try.func17, Try.ntmps17
    go_wp2_with fail
    go_quiet (fail)
    go_wp2
    go_ret
    exact ⟨rfl, below_drewN ((Below.refl _ _).alloc (Nat.le_refl _) _) _⟩
  · have d1 : decide (1 ≤ M) = true := by simp; omega
    have d4 : decide (M ≤ 4) = false := by simp; omega
    go_enter Try.func17, Try.ntmps17
    go_wp2_with fail
    go_quiet (fail)
    go_wp2
    go_ret
    exact ⟨rfl, below_drewN ((Below.refl _ _).alloc (Nat.le_refl _) _) _⟩
theorem rvalid_zero (V : Int) (w : World) :
    Calls Try.prog 17 #[.agg #[.int .i64 V, .int .i64 0]] w fun e w' => e = .returned (.bool (V == 0)) ∧ Below w.heap.size w w' := by
  go_enter Try.func17, Try.ntmps17
  go_wp2_with fail
  go_ret
  exact ⟨rfl, (Below.refl _ _).alloc (Nat.le_refl _) _⟩
theorem okV_at (V M : Int) (k : Nat) (hk : k < 4) (hM : M = (k : Int) + 1) : (decide (((128 ^ k : Nat) : Int) ≤ V) && decide (V < ((128 ^ (k + 1) : Nat) : Int))) = decide (okV V M) := by
  rw [← Bool.decide_and]
  refine decide_eq_decide.2 ?_
  have : k = 0 ∨ k = 1 ∨ k = 2 ∨ k = 3 := by omega
  subst hM
  rcases this with rfl | rfl | rfl | rfl <;> simp [okV]
theorem rvalid_call (V M : Int) (w : World) :
    Calls Try.prog 17 #[.agg #[.int .i64 V, .int .i64 M]] w fun e w' => e = .returned (.bool (decide (okV V M))) ∧ Below w.heap.size w w' := by
  by_cases h0 : M = 0
  · subst h0
    refine (rvalid_zero V w).mono ?_
    rintro e w' ⟨rfl, h⟩
    refine ⟨congrArg (fun b => Ending.returned (.bool b)) ?_, h⟩
    by_cases hv : V = 0
    · rw [decide_eq_true (show okV V 0 from .inl ⟨rfl, hv⟩)]
      simp [hv]
    · rw [decide_eq_false (show ¬ okV V 0 by unfold okV; omega)]
      simp [hv]
  · by_cases h1 : M < 1 ∨ 4 < M
    · refine (rvalid_out V M h0 h1 w).mono ?_
      rintro e w' ⟨rfl, h⟩
      rw [decide_eq_false (show ¬ okV V M by unfold okV; omega)]
      exact ⟨rfl, h⟩
    · rw [← okV_at V M (M - 1).toNat (by omega) (by omega)]
      exact rvalid_at V M _ _ (M - 1).toNat (by omega) (by omega) rfl rfl w
end Go.Proofs.Ytalkmbakglklbaa
