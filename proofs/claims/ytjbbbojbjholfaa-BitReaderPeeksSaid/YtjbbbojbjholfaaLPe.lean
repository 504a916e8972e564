/- The walk over winepresslaw03.BitReaderPeeks. -/
import Derived.Test.YtjbbbojbjholfaaWkR
import Derived.Test.YtjbbbojbjholfaaRf3
import Derived.Deep.DeepCutAuto
set_option linter.unusedVariables false
set_option linter.unusedSimpArgs false
namespace Go.Proofs.Ytjbbbojbjholfaa
open Go.RowKit

/-- What the law compares: two parts of a value. -/
theorem or_parts (V1 Y V2 : Int) (s r : Nat) (h1 : 0 ≤ V1 ∧ V1 < ((2 ^ s : Nat) : Int)) (hY : 0 ≤ Y ∧ Y < ((2 ^ r : Nat) : Int)) (h2 : V2 = V1 * ((2 ^ r : Nat) : Int) + Y) (hs : s + r ≤ 32) :
    bits .or .u64 (IntKind.u64.wrap (V1 * 2 ^ r)) Y = V2 := by
  have e : ((2 : Int) ^ r) = ((2 ^ r : Nat) : Int) := by simp
  obtain ⟨A, rfl⟩ := Int.eq_ofNat_of_zero_le h1.1
  obtain ⟨C, rfl⟩ := Int.eq_ofNat_of_zero_le hY.1
  have hA : A < 2 ^ s := by omega
  have hC : C < 2 ^ r := by omega
  have hm : A * 2 ^ r < 2 ^ 32 := by
    have h3 : A * 2 ^ r < 2 ^ s * 2 ^ r := Nat.mul_lt_mul_of_pos_right hA (Nat.two_pow_pos r)
    rw [← Nat.pow_add] at h3
    exact Nat.lt_of_lt_of_le h3 (Nat.pow_le_pow_right (by omega) hs)
  have hr : 2 ^ r ≤ 2 ^ 32 := Nat.pow_le_pow_right (by omega) (by omega)
  have h3 := Nat.two_pow_add_eq_or_of_lt hC A
  rw [e, h2, ← Int.natCast_mul, IntKind.wrap_u64, Int.emod_eq_of_lt (by omega) (by omega), u64_or_nat (A * 2 ^ r) C (by omega) (by omega), Nat.mul_comm, ← h3]
  omega
/-- Peek, whatever the width from 0 to 32. -/
def peekV (f : List Int) (u wd : Nat) : Int := if u + wd ≤ 8 * f.length then valV (((bitsB f).drop u).take wd) else 0
theorem peekAny {B : Nat} {w : World} {p : Nat} {a : Option Addr} {c : Nat} {f : List Int} {u : Nat} {e : Bool} (h : RdB B w p a c f u e) (wd : Nat) (hw : wd ≤ 32) :
    Calls Try.prog 13 #[.pointer (some ⟨p, 0, none⟩), .int .i64 wd] w fun x w' => x = .returned (.tuple #[.int .u32 (peekV f u wd), .bool (decide (u + wd ≤ 8 * f.length))]) ∧ RdB B w' p a c f u e ∧ Below w.heap.size w w' := by
  unfold peekV
  by_cases hu : u + wd ≤ 8 * f.length
  · rw [if_pos hu, decide_eq_true hu]
    exact peekB h wd hw hu _ rfl
  · rw [if_neg hu, decide_eq_false hu]
    exact (peek_no h.rd wd (by omega)).mono fun x w' ⟨h1, h2⟩ => ⟨h1, h.below h2, h2⟩

set_option maxRecDepth 100000 in
set_option maxHeartbeats 1000000 in
theorem pelaw_out (a0 : Option Addr) (n cap0 : Nat) (ah one two : Int) (w : World) (h : 100 < n ∨ ah < 0 ∨ 8 * (n : Int) < ah ∨ one < 0 ∨ two < one ∨ 32 < two) (h63 : n ≤ 9223372036854775807) :
    Calls Try.prog 7 #[.slice a0 n cap0, .int .i64 ah, .int .i64 one, .int .i64 two] w fun e w' => e = .returned (.bool true) ∧ Below w.heap.size w w' := by
  have hk := wakes_call w
  by_cases h1 : 100 < n
  · have d1 : decide ((100 : Int) < (n : Int)) = true := by simp; omega
    clear h
    go_enter Try.func7, Try.ntmps7
    go_wp2_with fail
    refine hk.mono ?_
    rintro e w1 ⟨rfl, hb⟩
    go_wp2
    go_ret
    exact ⟨rfl, hb⟩
  · have d1 : decide ((100 : Int) < (n : Int)) = false := by simp; omega
    by_cases h2 : ah < 0
    · have d2 : decide (ah < 0) = true := by simpa using h2
      clear h
      go_enter Try.func7, Try.ntmps7
      go_wp2_with fail
      refine hk.mono ?_
      rintro e w1 ⟨rfl, hb⟩
      go_wp2
      go_ret
      exact ⟨rfl, hb⟩
    · have d2 : decide (ah < 0) = false := by simpa using h2
      by_cases h3 : 8 * (n : Int) < ah
      · have d3 : decide (8 * (n : Int) < ah) = true := by simpa using h3
        have hn : n ≤ 100 := by omega
        clear h
        go_enter Try.func7, Try.ntmps7
        go_wp2_with fail
        refine hk.mono ?_
        rintro e w1 ⟨rfl, hb⟩
        go_wp2
        go_ret
        exact ⟨rfl, hb⟩
      · have d3 : decide (8 * (n : Int) < ah) = false := by simpa using h3
        have hn : n ≤ 100 := by omega
        by_cases h4 : one < 0
        · have d4 : decide (one < 0) = true := by simpa using h4
          clear h
          go_enter Try.func7, Try.ntmps7
          go_wp2_with fail
          refine hk.mono ?_
          rintro e w1 ⟨rfl, hb⟩
          go_wp2
          go_ret
          exact ⟨rfl, hb⟩
        · have d4 : decide (one < 0) = false := by simpa using h4
          by_cases h5 : two < one
          · have d5 : decide (two < one) = true := by simpa using h5
            clear h
            go_enter Try.func7, Try.ntmps7
            go_wp2_with fail
            refine hk.mono ?_
            rintro e w1 ⟨rfl, hb⟩
            go_wp2
            go_ret
            exact ⟨rfl, hb⟩
          · have d5 : decide (two < one) = false := by simpa using h5
            have d6 : decide (32 < two) = true := by simp; omega
            clear h
            go_enter Try.func7, Try.ntmps7
            go_wp2_with fail
            refine hk.mono ?_
            rintro e w1 ⟨rfl, hb⟩
            go_wp2
            go_ret
            exact ⟨rfl, hb⟩

set_option maxRecDepth 100000 in
set_option maxHeartbeats 4000000 in
theorem pelaw_in (a0 : Option Addr) (n cap0 m s t : Nat) (w : World) (l : List Int) (hl : l.length = n) (hs : Src w .u8 a0 l) (hby : Byts l) (hn : n ≤ 100) (hlc : n ≤ cap0) (hcm : cap0 ≤ maxLen) (hm : m ≤ 8 * n) (hst : s ≤ t) (ht : t ≤ 32) :
    Calls Try.prog 7 #[.slice a0 n cap0, .int .i64 m, .int .i64 s, .int .i64 t] w fun e w' => e = .returned (.bool true) ∧ Below w.heap.size w w' := by
  have d1 : decide ((100 : Int) < (n : Int)) = false := by simp; omega
  have d3 : decide (8 * (n : Int) < (m : Int)) = false := by simp; omega
  have d5 : ¬ t < s := by omega
  have d6 : decide ((32 : Int) < (t : Int)) = false := by simp; omega
  obtain ⟨B, hB⟩ : ∃ B, B = w.heap.size := ⟨_, rfl⟩
  rw [← hB]
  have hlt : 0 < l.length → ∀ x, a0 = some x → x.block < B := fun h0 => by rw [hB]; exact hs.lt h0
  have hB' := Lib.hid hB
  have HL := Lib.hid hl
  have HS := Lib.hid hs
  have HY := Lib.hid hby
  have HLT := Lib.hid hlt
  clear hB hl hs hby hlt
  go_enter Try.func7, Try.ntmps7
  go_wp2_with fail
  refine (newB B w (by rw [hB'.out]; exact Nat.le_refl _)).mono ?_
  rintro e w1 ⟨rfl, hw, hb⟩
  rw [← hB'.out] at hw hb ⊢
  have b1 := Lib.hid hb
  clear hb
  go_wp2_with fail
  have hs1 := (HS.out.below (hB'.out ▸ b1.out)).below ((Below.refl _ w1).alloc (Nat.le_refl _) (.cells #[.slice a0 n cap0] 28))
  refine (feedOne (hw.alloc _) w1.heap.size ⟨a0, n, cap0, l⟩ 28 (heap_alloc_new _ _) ⟨HL.out, hs1, HY.out, hlc, hcm⟩ (hw.new (Nat.le_refl _)) (fun h0 x e => hw.lt (HLT.out h0 x e)) (by have := HL.out; simp; omega)).mono ?_
  rintro e w2 ⟨rfl, a2, c2, hw2, hb⟩
  have b2 := Lib.hid ((b1.out.alloc hw.sz _).trans hb)
  rw [List.nil_append] at hw2
  dsimp only at hw2
  clear hw hb b1 hs1
  have HW2 := Lib.hid hw2
  clear hw2
  go_wp2_with fail
  go_loopw [10] (fun i wr => ∃ j : Nat, j ≤ m ∧ i = .int .i64 j ∧ NowB B w B l j false wr) (fun i _ => m - (intOf i).toNat)
  case atStart => exact ⟨0, Nat.zero_le _, rfl, a2, c2, HW2.out, b2.out⟩
  case round =>
    obtain ⟨j, hj, rfl, aj, cj, hwj, hbj⟩ := hrel
    have HJ := Lib.hid hwj
    have BJ := Lib.hid hbj
    clear hwj hbj
    by_cases hlt : j < m
    · go_wp2_with fail
      refine (takeB HJ.out 1 (by omega) (by have := HL.out; omega) _ rfl (j + 1) rfl).mono ?_
      rintro e w3 ⟨rfl, a3, c3, hw3, hb⟩
      have HN := Lib.hid (show NowB B w B l (j + 1) false w3 from ⟨a3, c3, hw3, BJ.out.trans hb⟩)
      clear hw3 hb
      go_wp2
      go_roundw
      case rel => exact ⟨j + 1, by omega, by go_num, HN.out⟩
      case measure => simp [intOf]; omega
    · obtain rfl : j = m := by omega
      obtain ⟨L, hL⟩ : ∃ L, j + L = 8 * n := ⟨8 * n - j, by omega⟩
      have HLL := Lib.hid hL
      have HV2 := Lib.hid (show peekV l j t = if t ≤ L then valV (((bitsB l).drop j).take t) else 0 by
        unfold peekV
        have : (j + t ≤ 8 * l.length) ↔ t ≤ L := by rw [HL.out]; omega
        simp only [this])
      have HV1 := Lib.hid (show peekV l j s = if s ≤ L then valV (((bitsB l).drop j).take s) else 0 by
        unfold peekV
        have : (j + s ≤ 8 * l.length) ↔ s ≤ L := by rw [HL.out]; omega
        simp only [this])
      have eD2 := Lib.hid (show decide (j + t ≤ 8 * l.length) = decide (t ≤ L) by rw [HL.out, decide_eq_decide]; omega)
      have eD1 := Lib.hid (show decide (j + s ≤ 8 * l.length) = decide (s ≤ L) by rw [HL.out, decide_eq_decide]; omega)
      obtain ⟨V2, hV2⟩ : ∃ V, V = peekV l j t := ⟨_, rfl⟩
      obtain ⟨V1, hV1⟩ : ∃ V, V = peekV l j s := ⟨_, rfl⟩
      have hp2 := peekAny HJ.out t ht
      rw [eD2.out, ← hV2] at hp2
      have HE2 := Lib.hid hV2
      have HE1 := Lib.hid hV1
      clear hV1 hV2 hL hp2
      go_wp2_with fail
      refine (leftB HJ.out L (by rw [HL.out]; exact HLL.out)).mono ?_
      rintro e w3 ⟨rfl, hw3, hb⟩
      have b3 := Lib.hid (BJ.out.trans (hb.mono HJ.out.sz))
      clear hb HJ BJ
      go_wp2_with fail
      refine (used_call hw3.rd).mono ?_
      rintro e w4 ⟨rfl, rfl⟩
      have hp2 := peekAny hw3 t ht
      rw [eD2.out, ← HE2.out] at hp2
      have HP2 := Lib.hid hp2
      clear hp2
      have hz3 := hw3.sz
      go_wp2_with fail
      refine HP2.out.mono ?_
      rintro e w4 ⟨rfl, hw4, hb⟩
      have b4 := Lib.hid (b3.out.trans (hb.mono hz3))
      clear hb hw3 b3 HP2
      have hp1 := peekAny hw4 s (by omega)
      rw [eD1.out, ← HE1.out] at hp1
      have HP1 := Lib.hid hp1
      clear hp1
      have hz4 := hw4.sz
      go_wp2_with fail
      refine HP1.out.mono ?_
      rintro e w5 ⟨rfl, hw5, hb⟩
      have b5 := Lib.hid (b4.out.trans (hb.mono hz4))
      clear hb hw4 b4 HP1
      go_wp2_with fail
      refine (leftB hw5 L (by rw [HL.out]; exact HLL.out)).mono ?_
      rintro e w6 ⟨rfl, hw6, hb⟩
      have b6 := Lib.hid (b5.out.trans (hb.mono hw5.sz))
      clear hb hw5 b5
      go_wp2_with fail
      refine (used_call hw6.rd).mono ?_
      rintro e w7 ⟨rfl, rfl⟩
      have HW6 := Lib.hid hw6
      clear hw6
      have hz6 := HW6.out.sz
      by_cases hT : t ≤ L
      · have hS : s ≤ L := by omega
        obtain ⟨r, hr⟩ : ∃ r, s + r = t := ⟨t - s, by omega⟩
        have er : (t : Int) - (s : Int) = (r : Int) := by omega
        have hLL := HLL.out
        have hV1 : V1 = valV (((bitsB l).drop j).take s) := by rw [HE1.out, HV1.out, if_pos hS]
        have hV2 : V2 = valV (((bitsB l).drop j).take t) := by rw [HE2.out, HV2.out, if_pos hT]
        have hY : V2 = V1 * ((2 ^ r : Nat) : Int) + valV (((bitsB l).drop (j + s)).take r) := by
          rw [hV2, hV1, ← hr, List.take_add, valV_append, List.drop_drop]
          rw [mid_length _ _ _ (by rw [bitsB_length, HL.out]; omega)]
        obtain ⟨Y, hYY⟩ : ∃ Y, Y = valV (((bitsB l).drop (j + s)).take r) := ⟨_, rfl⟩
        rw [← hYY] at hY
        have hb1 := valV_bd _ ((bitsB_bin l).mid j s)
        have hb2 := valV_bd _ ((bitsB_bin l).mid j t)
        have hbY := valV_bd _ ((bitsB_bin l).mid (j + s) r)
        rw [mid_length _ _ _ (by rw [bitsB_length, HL.out]; omega)] at hb1 hb2 hbY
        rw [← hV1] at hb1
        rw [← hV2] at hb2
        rw [← hYY] at hbY
        have hp := Nat.pow_le_pow_right (show 0 < 2 by omega) ht
        have dV := or_parts V1 Y V2 s r hb1 hbY hY (by omega)
        have HVV1 := Lib.hid hV1
        have HYY := Lib.hid hYY
        have HR := Lib.hid hr
        obtain ⟨hb1a, hb1b⟩ := hb1
        obtain ⟨hb2a, hb2b⟩ := hb2
        obtain ⟨hbYa, hbYb⟩ := hbY
        have q1 : V1 ≤ 4294967295 := by
          have := Nat.pow_le_pow_right (show 0 < 2 by omega) (show s ≤ 32 by omega)
          omega
        have q2 : V2 ≤ 4294967295 := by omega
        have qY : Y ≤ 4294967295 := by
          have := Nat.pow_le_pow_right (show 0 < 2 by omega) (show r ≤ 32 by omega)
          omega
        clear hV1 hV2 hY hYY hb1b hb2b hbYb hr hp
        go_wp2_with fail
        refine (takeB HW6.out s (by omega) (by have := HL.out; omega) V1 HVV1.out.symm (j + s) rfl).mono ?_
        rintro e w7 ⟨rfl, a7, c7, hw7, hb⟩
        have HW7 := Lib.hid hw7
        have b7 := Lib.hid (b6.out.trans hb)
        clear hw7 hb HW6 b6
        go_wp2_with fail
        refine (takeB HW7.out r (by omega) (by have := HL.out; have := HR.out; omega) Y HYY.out.symm (j + t) (by have := HR.out; omega)).mono ?_
        rintro e w8 ⟨rfl, a8, c8, hw8, hb⟩
        have HW8 := Lib.hid hw8
        have b8 := Lib.hid (b7.out.trans hb)
        clear hw8 hb HW7 b7
        go_wp2_with fail
        refine (used_call HW8.out.rd).mono ?_
        rintro e w9 ⟨rfl, rfl⟩
        have hz8 := HW8.out.sz
        go_wp2_with fail
        refine (wakes_call w8).mono ?_
        rintro e w9 ⟨rfl, hb⟩
        go_wp2
        go_ret
        exact ⟨rfl, b8.out.trans (hb.mono hz8)⟩
      · by_cases hS : s ≤ L
        · go_wp2_with fail
          refine (wakes_call w6).mono ?_
          rintro e w8 ⟨rfl, hb⟩
          go_wp2
          go_ret
          exact ⟨rfl, b6.out.trans (hb.mono hz6)⟩
        · go_wp2_with fail
          refine (wakes_call w6).mono ?_
          rintro e w8 ⟨rfl, hb⟩
          go_wp2
          go_ret
          exact ⟨rfl, b6.out.trans (hb.mono hz6)⟩

theorem pelaw_call (a0 : Option Addr) (len0 cap0 : Nat) (z0 : List Int) (ah one two : Int) (w : World) (h0 : IsRow .u8 w a0 len0 cap0 z0) :
    Calls Try.prog 7 #[.slice a0 len0 cap0, .int .i64 ah, .int .i64 one, .int .i64 two] w fun e w' => e = .returned (.bool true) ∧ Below w.heap.size w w' := by
  have hcm := h0.capMax
  obtain ⟨hl, hs, hwf, h63, hlc⟩ := h0.src
  by_cases h : 100 < len0 ∨ ah < 0 ∨ 8 * (len0 : Int) < ah ∨ one < 0 ∨ two < one ∨ 32 < two
  · exact pelaw_out a0 len0 cap0 ah one two w h h63
  · obtain ⟨m, rfl⟩ := Int.eq_ofNat_of_zero_le (show 0 ≤ ah by omega)
    obtain ⟨s, rfl⟩ := Int.eq_ofNat_of_zero_le (show 0 ≤ one by omega)
    obtain ⟨t, rfl⟩ := Int.eq_ofNat_of_zero_le (show 0 ≤ two by omega)
    exact pelaw_in a0 len0 cap0 m s t w (z0.take len0) hl hs (Byts.of_wf hwf) (by omega) hlc hcm (by omega) (by omega) (by omega)
end Go.Proofs.Ytjbbbojbjholfaa
