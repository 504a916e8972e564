/- begins. -/
import Derived.Test.YtdbpdnfniidfhaaCnC
set_option linter.unusedVariables false
set_option linter.unusedSimpArgs false
namespace Go.Proofs.Ytdbpdnfniidfhaa
open Go.RowKit

/-- A code begins another one. -/
def bgV (a m b n : Nat) : Bool := decide (m ≤ n) && decide (b / 2 ^ (n - m) = a)
set_option maxRecDepth 100000 in
set_option maxHeartbeats 1000000 in
theorem begins_call (a m b n : Nat) (ha : a ≤ 4294967295) (hb : b ≤ 4294967295) (hm : m ≤ 255) (hn : n ≤ 32) (w : World) :
    Calls Try.prog 9 #[.int .u32 a, .int .u8 m, .int .u32 b, .int .u8 n] w fun e w' => e = .returned (.bool (bgV a m b n)) ∧ w' = w := by
  by_cases h : m ≤ n
  · have HV := Lib.hid (show bgV a m b n = decide (b / 2 ^ (n - m) = a) by rw [bgV, decide_eq_true h, Bool.true_and])
    have hs : IntKind.u8.wrap ((n : Int) - (m : Int)) = ((n - m : Nat) : Int) := by rw [IntKind.wrap_u8]; omega
    obtain ⟨d, hd⟩ : ∃ d, d = n - m := ⟨_, rfl⟩
    rw [← hd] at hs HV
    have hd255 : d ≤ 32 := by omega
    have HM := Lib.hid (Nat.min_eq_left hd255)
    clear hd
    go_enter Try.func9, Try.ntmps9
    go_wp2_with fail
    go_ret
    refine ⟨?_, rfl⟩
    rw [HV.out]
    show Ending.returned (.bool ((b : Int) / 2 ^ d == (a : Int))) = _
    have e : ((b : Int) / 2 ^ d) = ((b / 2 ^ d : Nat) : Int) := by simp
    have e2 : ((b : Int) / 2 ^ d == (a : Int)) = decide (b / 2 ^ d = a) := by
      rw [e, Bool.eq_iff_iff, beq_iff_eq, decide_eq_true_eq]
      omega
    rw [e2]
  · have HV := Lib.hid (show bgV a m b n = false by rw [bgV, decide_eq_false h, Bool.false_and])
    go_enter Try.func9, Try.ntmps9
    go_wp2_with fail
    go_ret
    exact ⟨by rw [HV.out]; rfl, rfl⟩
end Go.Proofs.Ytdbpdnfniidfhaa
