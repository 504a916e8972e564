/- The walk over winepresslaw03.BitReaderAlign. -/
import Derived.Test.YtjbbbojbjholfaaWkR
import Derived.Test.YtjbbbojbjholfaaRf3
import Derived.Deep.DeepCutAuto
set_option linter.unusedVariables false
set_option linter.unusedSimpArgs false
namespace Go.Proofs.Ytjbbbojbjholfaa
open Go.RowKit

set_option maxRecDepth 100000 in
set_option maxHeartbeats 1000000 in
theorem allaw_out (a0 : Option Addr) (n cap0 : Nat) (bits : Int) (w : World) (h : 100 < n ∨ bits < 0 ∨ 8 * (n : Int) < bits) (h63 : n ≤ 9223372036854775807) :
    Calls Try.prog 5 #[.slice a0 n cap0, .int .i64 bits] w fun e w' => e = .returned (.bool true) ∧ Below w.heap.size w w' := by
  by_cases h1 : 100 < n
  · have d1 : decide ((100 : Int) < (n : Int)) = true := by simp; omega
    clear h
    go_enter Try.func5, Try.ntmps5
    go_wp2_with fail
    refine (wakes_call w).mono ?_
    rintro e w1 ⟨rfl, hb⟩
    go_wp2
    go_ret
    exact ⟨rfl, hb⟩
  · have d1 : decide ((100 : Int) < (n : Int)) = false := by simp; omega
    by_cases h2 : bits < 0
    · have d2 : decide (bits < 0) = true := by simpa using h2
      clear h
      go_enter Try.func5, Try.ntmps5
      go_wp2_with fail
      refine (wakes_call w).mono ?_
      rintro e w1 ⟨rfl, hb⟩
      go_wp2
      go_ret
      exact ⟨rfl, hb⟩
    · have d2 : decide (bits < 0) = false := by simpa using h2
      have d3 : decide (8 * (n : Int) < bits) = true := by simp; omega
      clear h
      go_enter Try.func5, Try.ntmps5
      go_wp2_with fail
      refine (wakes_call w).mono ?_
      rintro e w1 ⟨rfl, hb⟩
      go_wp2
      go_ret
      exact ⟨rfl, hb⟩

set_option maxRecDepth 100000 in
set_option maxHeartbeats 4000000 in
theorem allaw_in (a0 : Option Addr) (n cap0 m : Nat) (w : World) (l : List Int) (hl : l.length = n) (hs : Src w .u8 a0 l) (hby : Byts l) (hn : n ≤ 100) (hlc : n ≤ cap0) (hcm : cap0 ≤ maxLen) (hm : m ≤ 8 * n) :
    Calls Try.prog 5 #[.slice a0 n cap0, .int .i64 m] w fun e w' => e = .returned (.bool true) ∧ Below w.heap.size w w' := by
  have d1 : decide ((100 : Int) < (n : Int)) = false := by simp; omega
  have d3 : decide (8 * (n : Int) < (m : Int)) = false := by simp; omega
  obtain ⟨B, hB⟩ : ∃ B, B = w.heap.size := ⟨_, rfl⟩
  rw [← hB]
  have hlt : 0 < l.length → ∀ x, a0 = some x → x.block < B := fun h0 => by rw [hB]; exact hs.lt h0
  have hB' := Lib.hid hB
  have HL := Lib.hid hl
  have HS := Lib.hid hs
  have HY := Lib.hid hby
  have HLT := Lib.hid hlt
  clear hB hl hs hby hlt
  go_enter Try.func5, Try.ntmps5
  go_wp2_with fail
  refine (newB B w (by rw [hB'.out]; exact Nat.le_refl _)).mono ?_
  rintro e w1 ⟨rfl, hw, hb⟩
  rw [← hB'.out] at hw hb ⊢
  have b1 := Lib.hid hb
  clear hb
  go_wp2_with fail
  have hs1 := (HS.out.below (hB'.out ▸ b1.out)).below ((Below.refl _ w1).alloc (Nat.le_refl _) (.cells #[.slice a0 n cap0] 28))
  refine (feedOne (hw.alloc _) w1.heap.size ⟨a0, n, cap0, l⟩ 28 (heap_alloc_new _ _) ⟨HL.out, hs1, HY.out, hlc, hcm⟩ (hw.new (Nat.le_refl _)) (fun h0 x e => hw.lt (HLT.out h0 x e)) (by have := HL.out; simp; omega)).mono ?_
  rintro e w2 ⟨rfl, a2, c2, hw2, hb⟩
  have b2 := Lib.hid ((b1.out.alloc hw.sz _).trans hb)
  rw [List.nil_append] at hw2
  dsimp only at hw2
  clear hw hb b1 hs1
  have HW2 := Lib.hid hw2
  clear hw2
  go_wp2_with fail
  go_loopw [6] (fun i wr => ∃ j : Nat, j ≤ m ∧ i = .int .i64 j ∧ NowB B w B l j false wr) (fun i _ => m - (intOf i).toNat)
  case atStart => exact ⟨0, Nat.zero_le _, rfl, a2, c2, HW2.out, b2.out⟩
  case round =>
    obtain ⟨j, hj, rfl, aj, cj, hwj, hbj⟩ := hrel
    have HJ := Lib.hid hwj
    have BJ := Lib.hid hbj
    clear hwj hbj
    by_cases hlt : j < m
    · go_wp2_with fail
      refine (takeB HJ.out 1 (by omega) (by have := HL.out; omega) _ rfl (j + 1) rfl).mono ?_
      rintro e w3 ⟨rfl, a3, c3, hw3, hb⟩
      have HN := Lib.hid (show NowB B w B l (j + 1) false w3 from ⟨a3, c3, hw3, BJ.out.trans hb⟩)
      clear hw3 hb
      go_wp2
      go_roundw
      case rel => exact ⟨j + 1, by omega, by go_num, HN.out⟩
      case measure => simp [intOf]; omega
    · obtain rfl : j = m := by omega
      obtain ⟨k, hk⟩ : ∃ k, (8 - j % 8) % 8 = k := ⟨_, rfl⟩
      have hk7 : k ≤ 7 := by omega
      have hjk : j + k ≤ 8 * n := by omega
      have ek : (8 - (j : Int) % 8) % 8 = (k : Int) := by omega
      obtain ⟨L, hL⟩ : ∃ L, j + k + L = 8 * n := ⟨8 * n - (j + k), by omega⟩
      have dL : ((L : Int) != 8 * (n : Int) - (j : Int) - (k : Int)) = false := by simp; omega
      obtain ⟨V, hV⟩ : ∃ V, V = valV (((bitsB l).drop j).take k) := ⟨_, rfl⟩
      have hmid := mid_length (bitsB l) j k (by rw [bitsB_length, HL.out]; exact hjk)
      have hVb := valV_bd _ ((bitsB_bin l).mid j k)
      rw [← hV, hmid] at hVb
      obtain ⟨hV0, hV1⟩ := hVb
      have hp7 : 2 ^ k ≤ 2 ^ 7 := Nat.pow_le_pow_right (by omega) hk7
      have hV2 : V ≤ 4294967295 := by omega
      have hV3 : ¬ 0 < k → V = 0 := fun h0 => by
        obtain rfl : k = 0 := by omega
        rw [hV]
        rfl
      have HK := Lib.hid hk
      have HV := Lib.hid hV
      have HV3 := Lib.hid hV3
      have HLL := Lib.hid hL
      have hk8 : (8 - (j + k) % 8) % 8 = 0 := by omega
      have HK8 := Lib.hid hk8
      clear hk hV hmid hV1 hp7 hL hV3 hk8
      go_wp2_with fail
      refine (alignB HJ.out k HK.out V HV.out.symm (j + k) rfl).mono ?_
      rintro e w3 ⟨rfl, a3, c3, hw3, hb⟩
      have HW3 := Lib.hid hw3
      have b3 := Lib.hid (BJ.out.trans hb)
      clear hw3 hb HJ BJ
      go_wp2_with fail
      refine (used_call HW3.out.rd).mono ?_
      rintro e w4 ⟨rfl, rfl⟩
      go_wp2_with fail
      refine (leftB HW3.out L (by rw [HL.out]; exact HLL.out)).mono ?_
      rintro e w4 ⟨rfl, hw4, hb⟩
      have b4 := Lib.hid (b3.out.trans (hb.mono HW3.out.sz))
      have HW4 := Lib.hid hw4
      have hS4 := Lib.hid (HS.out.below (hB'.out ▸ b4.out))
      clear hw4 hb HW3 b3
      go_wp2_with fail
      go_loopw [12] (fun i wr => ∃ q : Nat, q ≤ k ∧ i = .int .i64 q ∧ wr = w4) (fun i _ => k - (intOf i).toNat)
      case atStart => exact ⟨0, Nat.zero_le _, rfl, rfl⟩
      case round =>
        obtain ⟨q, hq, rfl, rfl⟩ := hrel
        by_cases hlt2 : q < k
        · have hbit := valV_getD _ ((bitsB_bin l).mid j k) q k (mid_length _ _ _ (by rw [bitsB_length, HL.out]; exact hjk)) hlt2
          rw [getD_mid _ _ _ _ hlt2, ← HV.out] at hbit
          have HBIT := Lib.hid hbit
          have dB := bit_differs V (k - 1 - q) _ hV0 hV2 hbit
          simp only [List.getD_eq_getElem?_getD] at dB
          have hbc := bit_call wr a0 n cap0 l HL.out hS4.out HY.out (j + q) (by omega) (by omega)
          rw [Int.natCast_add] at hbc
          have HC := Lib.hid hbc
          clear hbit hbc
          go_wp2_with fail
          refine HC.out.mono ?_
          rintro e w5 ⟨rfl, rfl⟩
          go_wp2_with fail
          exact ⟨⟨q + 1, by omega, by go_num, trivial⟩, by simp [intOf]; omega⟩
        · obtain rfl : q = k := by omega
          have HW5 := HW4.out
          go_wp2_with fail
          refine (alignB HW4.out 0 HK8.out 0 (by rfl) (j + q) rfl).mono ?_
          rintro e w5 ⟨rfl, a5, c5, hw5, hb⟩
          have b5 := Lib.hid (b4.out.trans hb)
          have hsz := hw5.sz
          clear hw5 hb HW5
          by_cases h0 : 0 < q
          · have d0 : decide ((0 : Int) < (q : Int)) = true := by simp; omega
            go_wp2_with fail
            refine (wakes_call w5).mono ?_
            rintro e w6 ⟨rfl, hb⟩
            go_wp2
            go_ret
            exact ⟨rfl, b5.out.trans (hb.mono hsz)⟩
          · have hz := HV3.out h0
            have d0 : decide ((0 : Int) < (q : Int)) = false := by simp; omega
            have dV : (V == 0) = true := by rw [hz]; rfl
            go_wp2_with fail
            refine (wakes_call w5).mono ?_
            rintro e w6 ⟨rfl, hb⟩
            go_wp2
            go_ret
            exact ⟨rfl, b5.out.trans (hb.mono hsz)⟩

theorem allaw_call (a0 : Option Addr) (len0 cap0 : Nat) (z0 : List Int) (bits : Int) (w : World) (h0 : IsRow .u8 w a0 len0 cap0 z0) :
    Calls Try.prog 5 #[.slice a0 len0 cap0, .int .i64 bits] w fun e w' => e = .returned (.bool true) ∧ Below w.heap.size w w' := by
  have hcm := h0.capMax
  obtain ⟨hl, hs, hwf, h63, hlc⟩ := h0.src
  by_cases h : 100 < len0 ∨ bits < 0 ∨ 8 * (len0 : Int) < bits
  · exact allaw_out a0 len0 cap0 bits w h h63
  · obtain ⟨m, rfl⟩ := Int.eq_ofNat_of_zero_le (show 0 ≤ bits by omega)
    exact allaw_in a0 len0 cap0 m w (z0.take len0) hl hs (Byts.of_wf hwf) (by omega) hlc hcm (by omega)
end Go.Proofs.Ytjbbbojbjholfaa
