/- The reference of layer 4: Feed, Of, Great. -/
import Derived.Test.YtpodepplfhjdfaaCrcF
set_option linter.unusedVariables false
set_option linter.unusedSimpArgs false
namespace Go.Proofs.Ytpodepplfhjdfaa
open Go.RowKit

set_option maxRecDepth 100000 in
set_option maxHeartbeats 1000000 in
theorem rfeed_call (c : Nat) (hc : c < 4294967296) (w : World) (sp : Option Addr) (n cc : Nat) (C : List Chk) (hl : C.length = n) (hs : CSrc w sp C) (hok : ∀ d ∈ C, OkC w d) (hn : n ≤ 9223372036854775807) :
    Calls Try.prog 19 #[.int .u32 c, .slice sp n cc] w fun e w' => e = .returned (.int .u32 (crcFeed c (joinC C))) ∧ w = w' := by
  have HL := Lib.hid hl
  have HS2 := Lib.hid hs
  have HK2 := Lib.hid hok
  have hx0 := Lib.hid (xor32_row c 4294967295 hc (by omega))
  have HF := Lib.hid (show ∀ l, crcFeed c l = crcFold (c ^^^ 4294967295) l ^^^ 4294967295 from fun l => rfl)
  have hr0 := xor_lt32 hc (show 4294967295 < 4294967296 by omega)
  obtain ⟨r0, hr0e⟩ : ∃ r, r = c ^^^ 4294967295 := ⟨_, rfl⟩
  rw [← hr0e] at HF hr0 hx0
  clear hl hs hok hr0e
  go_enter Try.func19, Try.ntmps19
  go_wp2_with fail
  go_loop [0, 5] (fun v i => ∃ k : Nat, k ≤ n ∧ i = .int .i64 k ∧ v = .int .u32 (crcFold r0 (joinC (C.take k)) : Nat)) (fun _ i => n - (intOf i).toNat)
  case atStart => exact ⟨0, by omega, rfl, by rw [show (4294967295 : Int) = ((4294967295 : Nat) : Int) from rfl, hx0.out]; rfl⟩
  case round =>
    obtain ⟨k, hk, rfl, rfl⟩ := hrel
    have hrb := crcFold_lt hr0 (joinC (C.take k)) (joinC_byts (w := w) (fun d hd => HK2.out d (List.mem_of_mem_take hd)))
    by_cases hlt : k < n
    · obtain ⟨d, hd⟩ : ∃ d, C[k]? = some d := ⟨C[k]'(by rw [HL.out]; exact hlt), List.getElem?_eq_getElem _⟩
      have HJ := Lib.hid (joinC_succ C k d hd)
      have hok := HK2.out d (List.mem_of_getElem? hd)
      have HD := Lib.hid hok
      rcases HS2.out with rfl | ⟨q, o, rfl, hcs⟩
      · simp at hd
      have hcd := hcs k d hd
      obtain ⟨r1, hr1⟩ : ∃ r, r = crcFold r0 (joinC (C.take k)) := ⟨_, rfl⟩
      rw [← hr1] at hrb ⊢
      have HR1 := Lib.hid hr1
      have hdl : d.len ≤ 9223372036854775807 := by have := hok.lc; have := hok.cm; unfold maxLen at this; omega
      clear hcs hok hd hr1
      go_wp2_with fail
      go_loop [0, 6] (fun v i => ∃ j : Nat, j ≤ d.len ∧ i = .int .i64 j ∧ v = .int .u32 (crcFold r1 (d.bs.take j) : Nat)) (fun _ i => d.len - (intOf i).toNat)
      case atStart => exact ⟨0, by omega, rfl, rfl⟩
      case round =>
        obtain ⟨j, hj, rfl, rfl⟩ := hrel
        have hrj := crcFold_lt hrb (d.bs.take j) (HD.out.byts.take j)
        by_cases hjl : j < d.len
        · have hjb : j < d.bs.length := by rw [HD.out.len]; exact hjl
          have hxb := HD.out.byts _ (List.getElem_mem hjb)
          have hsn : crcFold r1 (d.bs.take (j + 1)) = crcStep (crcFold r1 (d.bs.take j)) (d.bs[j]).toNat := by
            rw [List.take_succ_eq_append_getElem hjb, crcFold_snoc]
          rcases HD.out.src with hnil | ⟨q2, o2, hqa, hc2⟩
          · rw [hnil] at hjb
            simp at hjb
          have hcx := hc2 j hjb
          have hxe : d.bs.getD j 0 = ((d.bs[j].toNat : Nat) : Int) := by
            simp only [List.getD_eq_getElem?_getD, List.getElem?_eq_getElem hjb, Option.getD_some]
            omega
          rw [hxe] at hcx
          obtain ⟨x, hx⟩ : ∃ x, x = d.bs[j].toNat := ⟨_, rfl⟩
          rw [← hx] at hcx hsn
          have hx8 : x < 256 := by omega
          obtain ⟨r, hr⟩ : ∃ r, r = crcFold r1 (d.bs.take j) := ⟨_, rfl⟩
          rw [← hr] at hrj hsn ⊢
          have HSN := Lib.hid hsn
          have hda : d.a = some ⟨q2, o2, none⟩ := hqa
          clear hc2 hxe hx hr hsn hqa hxb
          go_wp2_with fail
          refine (rstep_call r x hrj hx8 _).mono ?_
          rintro e w' ⟨rfl, rfl⟩
          go_wp2_with fail
          go_round
          case rel => exact ⟨j + 1, by omega, by go_num, by rw [HSN.out]⟩
          case measure => simp [intOf]; omega
        · obtain rfl : j = d.len := by omega
          go_wp2_with fail
          go_round
          case rel => exact ⟨k + 1, by omega, by go_num, by rw [HJ.out, crcFold_append, ← HR1.out, List.take_of_length_le (by rw [HD.out.len]; exact Nat.le_refl _)]⟩
          case measure => simp [intOf]; omega
    · obtain rfl : k = n := by omega
      have HX := Lib.hid (xor32_row _ 4294967295 hrb (by omega))
      have HT := Lib.hid (List.take_of_length_le (l := C) (i := k) (by rw [HL.out]; exact Nat.le_refl _))
      go_wp2_with fail
      go_ret
      exact ⟨by rw [HF.out]; simp only [Array.getD_eq_getD_getElem?]; refine ret_u32 ?_; rw [show (4294967295 : Int) = ((4294967295 : Nat) : Int) from rfl, HX.out, HT.out], rfl⟩

theorem rof_call (w : World) (sp : Option Addr) (n cc : Nat) (C : List Chk) (hl : C.length = n) (hs : CSrc w sp C) (hok : ∀ d ∈ C, OkC w d) (hn : n ≤ 9223372036854775807) :
    Calls Try.prog 17 #[.slice sp n cc] w fun e w' => e = .returned (.int .u32 (crcFeed 0 (joinC C))) ∧ w = w' := by
  have HF := Lib.hid (rfeed_call 0 (by omega) w sp n cc C hl hs hok hn)
  clear hl hs hok
  go_enter Try.func17, Try.ntmps17
  go_wp2_with fail
  refine HF.out.mono ?_
  rintro e w1 ⟨rfl, rfl⟩
  go_wp2
  go_ret
  exact ⟨rfl, rfl⟩

def SomeBool (e : Ending) : Prop := ∃ b, e = .returned (.bool b)
set_option maxHeartbeats 1000000 in
theorem great_call (w : World) (sp : Option Addr) (n c : Nat) (D : List Chk) (hl : D.length = n) (hs : CSrc w sp D) (hok : ∀ d ∈ D, OkC w d) (hn : n ≤ 9223372036854775807) :
    Calls Try.prog 8 #[.slice sp n c] w fun e w' => SomeBool e ∧ w = w' := by
  have HL := Lib.hid hl
  have HS := Lib.hid hs
  have HK := Lib.hid hok
  clear hl hs hok
  go_enter Try.func8, Try.ntmps8
  go_wp2_with fail
  go_loop [3, 4] (fun v x => ∃ k s : Nat, k ≤ n ∧ x = .int .i64 k ∧ v = .int .i64 s ∧ s ≤ 7000) (fun _ x => n - (intOf x).toNat)
  case atStart => exact ⟨0, 0, Nat.zero_le _, rfl, rfl, by omega⟩
  case round =>
    obtain ⟨k, s, hk, rfl, rfl, hs7⟩ := hrel
    by_cases hgo : k < n ∧ k ≤ 60 ∧ s ≤ 3000
    · obtain ⟨hlt, h80, h30⟩ := hgo
      have e1 : decide ((k : Int) ≤ 60) = true := by simp; omega
      have e2 : decide ((s : Int) ≤ 3000) = true := by simp; omega
      obtain ⟨d, hd⟩ : ∃ d, D[k]? = some d := ⟨D[k]'(by rw [HL.out]; exact hlt), List.getElem?_eq_getElem _⟩
      rcases HS.out with rfl | ⟨g, o, rfl, hc⟩
      · simp at hd
      have hcd := hc k d hd
      have hok := HK.out d (List.mem_of_getElem? hd)
      have hlc := hok.lc
      have hcm := hok.cm
      unfold maxLen at hcm
      clear hc hd hok
      by_cases hsm : d.len ≤ 4000
      · have em : min (d.len : Int) 4000 = (d.len : Int) := by omega
        go_wp2_with fail
        go_round
        case rel => exact ⟨k + 1, s + d.len, by omega, by go_num, by go_num, by omega⟩
        case measure => simp [intOf]; omega
      · have em : min (d.len : Int) 4000 = 4000 := by omega
        go_wp2_with fail
        go_round
        case rel => exact ⟨k + 1, s + 4000, by omega, by go_num, by go_num, by omega⟩
        case measure => simp [intOf]; omega
    · by_cases hlt : k < n
      · by_cases h80 : k ≤ 60
        · have e1 : decide ((k : Int) ≤ 60) = true := by simp; omega
          have e2 : decide ((s : Int) ≤ 3000) = false := by simp; omega
          have e3 : decide (3000 < (s : Int)) = true := by simp; omega
          clear hgo
          go_wp2_with fail
          all_goals go_ret
          all_goals exact ⟨⟨_, rfl⟩, rfl⟩
        · have e1 : decide ((k : Int) ≤ 60) = false := by simp; omega
          have e3 : decide (60 < (n : Int)) = true := by simp; omega
          clear hgo
          go_wp2_with fail
          go_ret
          exact ⟨⟨_, rfl⟩, rfl⟩
      · obtain rfl : k = n := by omega
        clear hgo
        go_wp2_with fail
        all_goals go_ret
        all_goals exact ⟨⟨_, rfl⟩, rfl⟩
end Go.Proofs.Ytpodepplfhjdfaa
