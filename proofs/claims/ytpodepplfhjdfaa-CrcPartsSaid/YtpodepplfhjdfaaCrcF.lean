/- Package crc: Feed, Of. -/
import Derived.Test.YtpodepplfhjdfaaCrcT
set_option linter.unusedVariables false
set_option linter.unusedSimpArgs false
namespace Go.Proofs.Ytpodepplfhjdfaa
open Go.RowKit

theorem xor32_row (r c : Nat) (hr : r < 4294967296) (hc : c < 4294967296) : bits .xor .u32 (r : Int) (c : Int) = ((r ^^^ c : Nat) : Int) := u32_xor_nat r c hr hc

theorem ret_u32 {a b : Int} (h : a = b) : Ending.returned (.int .u32 a) = .returned (.int .u32 b) := by rw [h]
theorem inv_u32 (c : Nat) (hc : c < 4294967296) : bits .xor .u32 IntKind.u32.max (c : Int) = ((c ^^^ 4294967295 : Nat) : Int) := by
  rw [Nat.xor_comm, ← u32_xor_nat 4294967295 c (by omega) hc]
  rfl

set_option maxRecDepth 100000 in
set_option maxHeartbeats 1000000 in
theorem feed_call (c : Nat) (hc : c < 4294967296) (w : World) (sp : Option Addr) (n cc : Nat) (C : List Chk) (hl : C.length = n) (hs : CSrc w sp C) (hok : ∀ d ∈ C, OkC w d) (hn : n ≤ 9223372036854775807) :
    Calls Try.prog 18 #[.int .u32 c, .slice sp n cc] w fun e w' => e = .returned (.int .u32 (crcFeed c (joinC C))) ∧ Below w.heap.size w w' := by
  have HL := Lib.hid hl
  have HS := Lib.hid hs
  have HK := Lib.hid hok
  clear hl hs hok
  have hz := tabZ
  go_enter Try.func18, Try.ntmps18
  go_wp2_with fail
  refine (table_call w).mono ?_
  rintro e w1 ⟨rfl, hb1⟩
  have HB1 := Lib.hid hb1
  clear hb1
  go_wp2_with (refine wpList_store_row rfl 27 _ _ rfl w1.heap.size tabR rfl rfl 27 (tabRow 0) (heap_alloc_last w1 _) (by rw [tabR_size]; exact tabI) (by rw [tabRow_size, tabR_size]) (tabRow_all 256) ?_)
  clear h
  rw [World.setRow_alloc_new, inv_u32 c hc]
  have HF := Lib.hid (show ∀ l, crcFeed c l = crcFold (c ^^^ 4294967295) l ^^^ 4294967295 from fun l => rfl)
  have hr0 := xor_lt32 hc (show 4294967295 < 4294967296 by omega)
  obtain ⟨r0, hr0e⟩ : ∃ r, r = c ^^^ 4294967295 := ⟨_, rfl⟩
  rw [← hr0e] at HF hr0 ⊢
  have hlast := heap_alloc_last w1 (.cells tabR 27)
  have HCel := Lib.hid (fun i (hi : i < 256) => tabRow_cell hlast i hi)
  have HFz := Lib.hid (fun i => frozen_of_row (w1.alloc (.cells tabR 27)) w1.heap.size i _ _ hlast)
  have HB2 := Lib.hid (HB1.out.alloc HB1.out.size (.cells tabR 27))
  obtain ⟨g, hg⟩ : ∃ g, g = w1.heap.size := ⟨_, rfl⟩
  rw [← hg] at HCel HFz ⊢
  clear hlast
  generalize w1.alloc (.cells tabR 27) = w2 at *
  clear HB1 hg hr0e hz
  have hs2 := HS.out.below HB2.out
  have hk2 := fun d hd => (HK.out d hd).below HB2.out
  have HS2 := Lib.hid hs2
  have HK2 := Lib.hid hk2
  clear hs2 hk2 HS HK
  go_loop [6, 16] (fun v i => ∃ k : Nat, k ≤ n ∧ i = .int .i64 k ∧ v = .int .u32 (crcFold r0 (joinC (C.take k)) : Nat)) (fun _ i => n - (intOf i).toNat)
  case atStart => exact ⟨0, by omega, rfl, rfl⟩
  case round =>
    obtain ⟨k, hk, rfl, rfl⟩ := hrel
    have hrb := crcFold_lt hr0 (joinC (C.take k)) (joinC_byts (w := w2) (fun d hd => HK2.out d (List.mem_of_mem_take hd)))
    by_cases hlt : k < n
    · obtain ⟨d, hd⟩ : ∃ d, C[k]? = some d := ⟨C[k]'(by rw [HL.out]; exact hlt), List.getElem?_eq_getElem _⟩
      have HJ := Lib.hid (joinC_succ C k d hd)
      have hok := HK2.out d (List.mem_of_getElem? hd)
      have HD := Lib.hid hok
      rcases HS2.out with rfl | ⟨q, o, rfl, hcs⟩
      · simp at hd
      have hcd := hcs k d hd
      obtain ⟨r1, hr1⟩ : ∃ r, r = crcFold r0 (joinC (C.take k)) := ⟨_, rfl⟩
      rw [← hr1] at hrb ⊢
      have HR1 := Lib.hid hr1
      have hdl : d.len ≤ 9223372036854775807 := by have := hok.lc; have := hok.cm; unfold maxLen at this; omega
      clear hcs hok hd hr1
      go_wp2_with fail
      go_loop [6, 22] (fun v i => ∃ j : Nat, j ≤ d.len ∧ i = .int .i64 j ∧ v = .int .u32 (crcFold r1 (d.bs.take j) : Nat)) (fun _ i => d.len - (intOf i).toNat)
      case atStart => exact ⟨0, by omega, rfl, rfl⟩
      case round =>
        obtain ⟨j, hj, rfl, rfl⟩ := hrel
        have hrj := crcFold_lt hrb (d.bs.take j) (HD.out.byts.take j)
        by_cases hjl : j < d.len
        · have hjb : j < d.bs.length := by rw [HD.out.len]; exact hjl
          have hxb := HD.out.byts _ (List.getElem_mem hjb)
          have hsn : crcFold r1 (d.bs.take (j + 1)) = crcStep (crcFold r1 (d.bs.take j)) (d.bs[j]).toNat := by
            rw [List.take_succ_eq_append_getElem hjb, crcFold_snoc]
          rcases HD.out.src with hnil | ⟨q2, o2, hqa, hc2⟩
          · rw [hnil] at hjb
            simp at hjb
          have hcx := hc2 j hjb
          have hxe : d.bs.getD j 0 = ((d.bs[j].toNat : Nat) : Int) := by
            simp only [List.getD_eq_getElem?_getD, List.getElem?_eq_getElem hjb, Option.getD_some]
            omega
          rw [hxe] at hcx
          obtain ⟨x, hx⟩ : ∃ x, x = d.bs[j].toNat := ⟨_, rfl⟩
          rw [← hx] at hcx hsn
          have hx8 : x < 256 := by omega
          obtain ⟨r, hr⟩ : ∃ r, r = crcFold r1 (d.bs.take j) := ⟨_, rfl⟩
          rw [← hr] at hrj hsn ⊢
          have hm := xor8_low r x hx8
          have hm8 := xor_lt8 (show r % 256 < 256 by omega) hx8
          have hv := xor32_step (crcRow (r % 256 ^^^ x)) r (crcRow_lt hm8) hrj
          have HSN := Lib.hid (show crcFold r1 (d.bs.take (j + 1)) = crcRow (r % 256 ^^^ x) ^^^ r / 256 from hsn)
          have HQ := Lib.hid hqa
          have HV := Lib.hid hv
          obtain ⟨m, hme⟩ : ∃ m, m = r % 256 ^^^ x := ⟨_, rfl⟩
          rw [← hme] at hm hm8 HSN HV
          have hct := HCel.out m hm8
          rw [if_pos hm8] at hct
          have hda : d.a = some ⟨q2, o2, none⟩ := hqa
          clear hc2 hxe hx hr hsn hv hqa hme hxb
          go_wp2_with fail
          go_round
          case rel => exact ⟨j + 1, by omega, by go_num, by rw [HV.out, HSN.out]⟩
          case measure => simp [intOf]; omega
        · obtain rfl : j = d.len := by omega
          go_wp2_with fail
          go_round
          case rel => exact ⟨k + 1, by omega, by go_num, by rw [HJ.out, crcFold_append, ← HR1.out, List.take_of_length_le (by rw [HD.out.len]; exact Nat.le_refl _)]⟩
          case measure => simp [intOf]; omega
    · obtain rfl : k = n := by omega
      have HX := Lib.hid (inv_u32 _ hrb)
      have HT := Lib.hid (List.take_of_length_le (l := C) (i := k) (by rw [HL.out]; exact Nat.le_refl _))
      go_wp2_with fail
      go_ret
      exact ⟨by rw [HF.out]; simp only [Array.getD_eq_getD_getElem?]; refine ret_u32 ?_; rw [HX.out, HT.out], HB2.out⟩

theorem of_call (w : World) (sp : Option Addr) (n cc : Nat) (C : List Chk) (hl : C.length = n) (hs : CSrc w sp C) (hok : ∀ d ∈ C, OkC w d) (hn : n ≤ 9223372036854775807) :
    Calls Try.prog 16 #[.slice sp n cc] w fun e w' => e = .returned (.int .u32 (crcFeed 0 (joinC C))) ∧ Below w.heap.size w w' := by
  have HF := Lib.hid (feed_call 0 (by omega) w sp n cc C hl hs hok hn)
  clear hl hs hok
  go_enter Try.func16, Try.ntmps16
  go_wp2_with fail
  refine HF.out.mono ?_
  rintro e w1 ⟨rfl, hb⟩
  go_wp2
  go_ret
  exact ⟨rfl, hb⟩
end Go.Proofs.Ytpodepplfhjdfaa
