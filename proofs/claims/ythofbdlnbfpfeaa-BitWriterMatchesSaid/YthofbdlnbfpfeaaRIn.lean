/- winepressref02.Ints on two equal slices. -/
import Derived.Test.YthofbdlnbfpfeaaProg
import Derived.Test.YthofbdlnbfpfeaaCh
import Derived.Deep.DeepMust
set_option linter.unusedVariables false
set_option linter.unusedSimpArgs false
namespace Go.Proofs.Ythofbdlnbfpfeaa
open Go.RowKit

set_option maxHeartbeats 1000000 in
theorem ints_same (w : World) (sa sb : Option Addr) (n ca cb : Nat) (l : List Int) (hl : l.length = n) (ha : Src w .i64 sa l) (hb : Src w .i64 sb l) (h63 : n ≤ 9223372036854775807) :
    Calls Try.prog 17 #[.slice sa n ca, .slice sb n cb] w fun e w' => e = .returned (.bool true) ∧ Below w.heap.size w w' := by
  have HL := Lib.hid hl
  have HA := Lib.hid ha
  have HB := Lib.hid hb
  clear hl ha hb
  go_enter Try.func17, Try.ntmps17
  go_wp2


  go_loopw [5] (fun x wr => ∃ k : Nat, k ≤ n ∧ x = .int .i64 k ∧ Below w.heap.size w wr) (fun x _ => n - (intOf x).toNat)
  case atStart => exact ⟨0, Nat.zero_le _, rfl, Below.refl _ _⟩
  case round =>
    obtain ⟨k, hk, rfl, hbw⟩ := hrel
    by_cases hlt : k < n
    · rcases HA.out with rfl | ⟨g, o, rfl, hc⟩
      · have := HL.out
        simp at this
        omega
      rcases HB.out with rfl | ⟨g2, o2, rfl, hc2⟩
      · have := HL.out
        simp at this
        omega
      have c1 := hc k (by rw [HL.out]; exact hlt)
      have c2 := hc2 k (by rw [HL.out]; exact hlt)
      have c1' := (hbw.cell (World.block_lt_of_cell? w _ c1)).trans c1
      have c2' := (hbw.cell (World.block_lt_of_cell? w _ c2)).trans c2
      have HBW := Lib.hid hbw
      obtain ⟨x, hx⟩ : ∃ x, x = l.getD k 0 := ⟨_, rfl⟩
      rw [← hx] at c1' c2'
      have dd : (x != x) = false := by simp
      clear hc hc2 c1 c2 hx hbw
      go_wp2
      go_quiet (fail)
      go_wp2
      go_roundw
      case rel => exact ⟨k + 1, by omega, by go_num, below_drewN HBW.out _⟩
      case measure => simp [intOf]; omega
    · obtain rfl : k = n := by omega
      go_wp2
      go_ret
      exact ⟨rfl, hbw⟩
end Go.Proofs.Ythofbdlnbfpfeaa
