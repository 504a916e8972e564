/- The walk over winepresslaw05.VarintBack. -/
import Derived.Test.YtalkmbakglklbaaVarK
set_option linter.unusedVariables false
set_option linter.unusedSimpArgs false
namespace Go.Proofs.Ytalkmbakglklbaa
open Go.RowKit

theorem back_out (N : Int) (a0 : Option Addr) (n cap0 : Nat) (w : World) (h : N < 0 ∨ 2147483647 < N ∨ 100 < n) (h63 : n ≤ 9223372036854775807) :
    Calls Try.prog 4 #[.int .i64 N, .slice a0 n cap0] w fun e w' => e = .returned (.bool true) ∧ Below w.heap.size w w' := by
  have hs : decide (N < 0) = true ∨ (decide (N < 0) = false ∧ decide (2147483647 < N) = true) ∨ (decide (N < 0) = false ∧ decide (2147483647 < N) = false ∧ decide ((100 : Int) < (n : Int)) = true) := by
    simp only [decide_eq_true_eq, decide_eq_false_iff_not]
    omega
  rcases hs with h0 | ⟨h0, h1⟩ | ⟨h0, h1, h2⟩
  all_goals
    go_enter Try.func4, Try.ntmps4
    go_wp2_with fail
    refine (wakes_call w).mono ?_
    rintro e w1 ⟨rfl, hb⟩
    go_wp2
    go_ret
    exact ⟨rfl, hb⟩

set_option maxRecDepth 100000 in
set_option maxHeartbeats 1000000 in
theorem back_in (N : Nat) (hN : N ≤ 2147483647) (a0 : Option Addr) (n cap0 : Nat) (w : World) (l : List Int) (hl : l.length = n) (hs : Src w .u8 a0 l) (hby : Byts l) (hn : n ≤ 100) (hlc : n ≤ cap0) (hcm : cap0 ≤ maxLen) :
    Calls Try.prog 4 #[.int .i64 N, .slice a0 n cap0] w fun e w' => e = .returned (.bool true) ∧ Below w.heap.size w w' := by
  have d0 : decide ((N : Int) < 0) = false := by simp
  have d1 : decide (2147483647 < (N : Int)) = false := by simp; omega
  have d2 : decide ((100 : Int) < (n : Int)) = false := by simp; omega
  have HL := Lib.hid hl
  have HS := Lib.hid hs
  have HY := Lib.hid hby
  clear hl hs hby
  go_enter Try.func4, Try.ntmps4
  go_wp2_with fail
  clear d0 d1 d2
  refine (put_yes N hN w).mono ?_
  rintro e w1 ⟨g1, k1, rfl, _, hw1, hb1⟩
  obtain ⟨m, hm⟩ : ∃ m, m = vsz N := ⟨_, rfl⟩
  have HM := Lib.hid hm
  have hm5 := vsz_bd N hN
  rw [← hm] at hm5 ⊢
  clear hm
  have W1 := Lib.hid hw1
  have B1 := Lib.hid hb1
  have hs1 := Lib.hid (HS.out.below B1.out)
  have HEL := Lib.hid (show (enc N).length = m by rw [enc_length, HM.out])
  clear hw1 hb1
  go_wp2_with (first
    | (at_builtin
       refine wpList_appendW rfl _ _ 22 rfl 5 .u8 1 sliceT byteI (some ⟨w1.heap.size, 0, none⟩) 0 [] 0 rfl rfl (WinS.empty w1 .u8 5) (some ⟨g1, 0, none⟩) m k1 rfl (enc N) HEL.out (W1.out.alloc _).src (by unfold maxLen; omega) (by omega) ?_
       intro a2 c2 w2 hwin hgr halt
       rw [List.nil_append] at hwin
       have HB2 := Lib.hid (((Below.refl w1.heap.size w1).alloc (Nat.le_refl _) (.cells #[] 5)).grown hgr (by simp) (by intro k e; injection e with e; subst e; exact Nat.le_refl _))
       have HA2 := Lib.hid (show ∀ g, blk a2 = some g → w1.heap.size ≤ g from fun g e => by
         rcases halt with h1 | h1 <;> rw [h1] at e <;> injection e with e <;> subst e <;> simp)
       have HW2 := Lib.hid hwin
       clear hwin hgr halt)
    | (at_builtin
       refine wpList_appendW rfl _ _ 22 rfl 5 .u8 1 sliceT byteI a2 c2 (enc N) m HEL.out rfl HW2.out a0 n cap0 rfl l HL.out (hs1.out.below HB2.out) (by unfold maxLen; omega) (by omega) ?_
       intro a3 c3 w3 hwin hgr halt
       have HB3 := Lib.hid (HB2.out.grown hgr HB2.out.size HA2.out)
       have HW3 := Lib.hid hwin
       clear hwin hgr halt))
  have HLL := Lib.hid (show (enc N ++ l).length = m + n by rw [List.length_append, HEL.out, HL.out])
  have hcap3 := HW3.out.cap
  refine (take_call w3 a3 (m + n) c3 (enc N ++ l) HLL.out HW3.out.src (Byts.app (enc_byts N) HY.out) (by omega) (by rw [← HLL.out]; exact hcap3.1) hcap3.2).mono ?_
  rintro e w4 ⟨a4, c4, rfl, hw4, _, hb4⟩
  rw [take_enc N hN l] at hw4 ⊢
  dsimp only at hw4 ⊢
  rw [HL.out]
  have t1 := hw4.str HL.out
  have B34 := Lib.hid (HB3.out.trans (hb4.mono HB3.out.size))
  have B4 := Lib.hid (B1.out.trans (B34.out.mono B1.out.size))
  have t2 : (convert 22 9 (.slice a0 n cap0)).run Try.prog w4 = .ok (.string (bstr l)) w4 := run_bstr Try.underlying22 Try.underlying5 Try.underlying9 w4 a0 n cap0 l HL.out (HS.out.below B4.out)
  have hwc1 := W1.out.cap
  rw [HEL.out] at hwc1
  have W4 := Lib.hid ((W1.out.below B34.out).take (m - 1))
  clear hw4 hb4 hcap3 HB3 HW3 HA2 HW2 HB2 hs1 W1
  have dz : ((m : Int) == 0) = false := by simp; omega
  have dz2 : (m == 0) = false := by simp; omega
  have hsz := Lib.hid (fun w => size_yes N hN w)
  rw [← HM.out] at hsz
  obtain ⟨s, hs⟩ : ∃ s, s = bstr l := ⟨_, rfl⟩
  rw [← hs] at t1 t2
  clear hs
  go_wp2_with fail
  refine (hsz.out w4).mono ?_
  rintro e w5 ⟨rfl, rfl⟩
  clear t1 t2
  have wm1 : IntKind.i64.wrap ((m : Int) - 1) = ((m - 1 : Nat) : Int) := by rw [IntWalk.i64_in _ (by omega)]; omega
  have hsl : 0 ≤ ((m - 1 : Nat) : Int) ∧ ((m - 1 : Nat) : Int) ≤ (k1 : Int) := by omega
  go_wp2_with fail
  have HTS := Lib.hid (take_short N hN)
  rw [← HM.out] at HTS
  refine (take_call w4 (some ⟨g1, 0, none⟩) (m - 1) k1 ((enc N).take (m - 1)) (by rw [List.length_take, HEL.out]; omega) W4.out.src (fun x hx => enc_byts N x (List.mem_of_mem_take hx)) (by omega) (by omega) hwc1.2).mono ?_
  rintro e w6 ⟨a6, c6, rfl, hw6, _, hb6⟩
  rw [HTS.out]
  dsimp only
  have B6 := Lib.hid (B4.out.trans (hb6.mono B4.out.size))
  have HV := Lib.hid (show m = sz (N / 128) + 1 by rw [HM.out]; rfl)
  clear hw6 hb6 W4 HTS hsl wm1 hsz dz dz2
  go_wp2_with fail
  go_loop [13, 14] (fun v i => ∃ k r : Nat, r ≤ 16777215 ∧ i = .int .i64 r ∧ v = .int .i64 (k : Nat) ∧ k ≤ 5 ∧ k + sz r = sz (N / 128) + 1) (fun _ i => (intOf i).toNat)
  case atStart => exact ⟨1, N / 128, by omega, by simp, rfl, by omega, by omega⟩
  case round =>
    obtain ⟨k, r, hr, rfl, rfl, hk, hs⟩ := hrel
    by_cases h0 : 0 < r
    · have d1 : decide (0 < (r : Int)) = true := by simp; omega
      have hsz := sz_pos r h0 (by omega)
      have hk4 := sz_lt5 (N / 128) (by omega)
      have hh := Lib.hid (show k + 1 + sz (r / 128) = sz (N / 128) + 1 by omega)
      have hk5 : k + 1 ≤ 5 := by omega
      clear hs hsz
      go_wp2_with fail
      go_round
      case rel => exact ⟨k + 1, r / 128, by omega, by simp, by go_num, hk5, hh.out⟩
      case measure => simp [intOf]; omega
    · obtain rfl : r = 0 := by omega
      have d1 : decide (0 < ((0 : Nat) : Int)) = false := rfl
      obtain rfl : k = m := by rw [HV.out, ← hs, sz_zero]; rfl
      clear hs
      go_wp2_with fail
      refine (wakes_call w6).mono ?_
      rintro e w7 ⟨rfl, hb⟩
      go_wp2
      go_ret
      exact ⟨rfl, B6.out.trans (hb.mono B6.out.size)⟩

theorem back_call (N : Int) (wN : (Lit.int .i64 N).wf = true) (a0 : Option Addr) (len0 cap0 : Nat) (z0 : List Int) (w : World) (h0 : IsRow .u8 w a0 len0 cap0 z0) :
    Calls Try.prog 4 #[.int .i64 N, .slice a0 len0 cap0] w fun e w' => e = .returned (.bool true) ∧ Below w.heap.size w w' := by
  have hcm := h0.capMax
  obtain ⟨hl, hs, hwf, h63, hlc⟩ := h0.src
  by_cases h : N < 0 ∨ 2147483647 < N ∨ 100 < len0
  · exact back_out N a0 len0 cap0 w h h63
  · obtain ⟨n, rfl⟩ := Int.eq_ofNat_of_zero_le (show 0 ≤ N by omega)
    exact back_in n (by omega) a0 len0 cap0 w (z0.take len0) hl hs (Byts.of_wf hwf) (by omega) hlc hcm
end Go.Proofs.Ytalkmbakglklbaa
