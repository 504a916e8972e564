/- The walk over winepresslaw04.CrcBack. -/
import Derived.Test.YtpodepplfhjdfaaCrcK
set_option linter.unusedVariables false
set_option linter.unusedSimpArgs false
namespace Go.Proofs.Ytpodepplfhjdfaa
open Go.RowKit

theorem WinS.empty (w : World) (k : IntKind) (E : TypeId) : WinS (w.alloc (.cells #[] E)) k E (some ⟨w.heap.size, 0, none⟩) 0 [] :=
  .inr ⟨w.heap.size, 0, #[], rfl, heap_alloc_new w _, Nat.le_refl _, by unfold maxLen; omega, by simp, fun j hj => by simp at hj⟩
theorem WinS.lit {w : World} {k : IntKind} {E : TypeId} {g : Nat} {l : List Int} (h : w.heap[g]? = some (.cells (icells k l) E (0, 0))) (hm : l.length ≤ 1000000) : WinS w k E (some ⟨g, 0, none⟩) l.length l :=
  .inr ⟨g, 0, icells k l, rfl, h, Nat.le_refl _, by unfold maxLen; omega, by rw [icells_size]; omega, fun j hj => by
    rw [Nat.zero_add, icells_get]
    simp [List.getD_eq_getElem?_getD, hj]⟩

theorem back_out (c : Nat) (a0 : Option Addr) (n cap0 : Nat) (w : World) (h : 300 < n) (h63 : n ≤ 9223372036854775807) :
    Calls Try.prog 7 #[.int .u32 c, .slice a0 n cap0] w fun e w' => e = .returned (.bool true) ∧ Below w.heap.size w w' := by
  have d1 : decide ((300 : Int) < (n : Int)) = true := by simp; omega
  go_enter Try.func7, Try.ntmps7
  go_wp2_with fail
  refine (wakes_call w).mono ?_
  rintro e w1 ⟨rfl, hb⟩
  go_wp2
  go_ret
  exact ⟨rfl, hb⟩

set_option maxRecDepth 100000 in
set_option maxHeartbeats 4000000 in
theorem back_in (c : Nat) (hc : c < 4294967296) (a0 : Option Addr) (n cap0 : Nat) (w : World) (l : List Int) (hl : l.length = n) (hs : Src w .u8 a0 l) (hby : Byts l) (hn : n ≤ 300) (hlc : n ≤ cap0) (hcm : cap0 ≤ maxLen) :
    Calls Try.prog 7 #[.int .u32 c, .slice a0 n cap0] w fun e w' => e = .returned (.bool true) ∧ Below w.heap.size w w' := by
  have d1 : decide ((300 : Int) < (n : Int)) = false := by simp; omega
  have HL := Lib.hid hl
  have HS := Lib.hid hs
  have HY := Lib.hid hby
  clear hl hs hby
  go_enter Try.func7, Try.ntmps7
  go_wp2_with fail
  refine (put_call c hc w).mono ?_
  rintro e w1' ⟨rfl, rfl⟩
  have HP := Lib.hid (heap_alloc_last w (.cells (icells .u8 (be4 c)) 5))
  have HB1 := Lib.hid ((Below.refl _ w).alloc (Nat.le_refl _) (.cells (icells .u8 (be4 c)) 5))
  obtain ⟨p, hp⟩ : ∃ p, p = w.heap.size := ⟨_, rfl⟩
  have HPE := Lib.hid hp
  rw [← hp] at HP ⊢
  generalize w.alloc (.cells (icells .u8 (be4 c)) 5) = w1 at *
  clear hp
  have hs1 := Lib.hid (HS.out.below HB1.out)
  go_wp2_with (first
    | (at_builtin
       refine wpList_appendW rfl _ _ 24 rfl 5 .u8 1 sliceT byteI (some ⟨w1.heap.size, 0, none⟩) 0 [] 0 rfl rfl (WinS.empty w1 .u8 5) (some ⟨p, 0, none⟩) 4 4 rfl (be4 c) rfl ((Src.whole HP.out).below ((Below.refl _ w1).alloc (Nat.le_refl _) _)) (by unfold maxLen; omega) (by omega) ?_
       intro a2 c2 w2 hwin hgr halt
       rw [List.nil_append] at hwin
       have HB2 := Lib.hid (((Below.refl w1.heap.size w1).alloc (Nat.le_refl _) (.cells #[] 5)).grown hgr (by simp) (by intro k e; injection e with e; subst e; exact Nat.le_refl _))
       have HA2 := Lib.hid (show ∀ g, blk a2 = some g → w1.heap.size ≤ g from fun g e => by
         rcases halt with h1 | h1 <;> rw [h1] at e <;> injection e with e <;> subst e <;> simp)
       have HW2 := Lib.hid hwin
       clear hwin hgr halt)
    | (at_builtin
       refine wpList_appendW rfl _ _ 24 rfl 5 .u8 1 sliceT byteI a2 c2 (be4 c) 4 rfl rfl HW2.out a0 n cap0 rfl l HL.out (hs1.out.below HB2.out) (by unfold maxLen; omega) (by omega) ?_
       intro a3 c3 w3 hwin hgr halt
       have HB3 := Lib.hid (HB2.out.grown hgr HB2.out.size HA2.out)
       have HW3 := Lib.hid hwin
       clear hwin hgr halt))
  have HV := Lib.hid (word4b_be4 c l)
  refine (take_yes w3 a3 (4 + n) c3 (be4 c ++ l) (by rw [List.length_append, HL.out]; rfl) HW3.out.src (fun x hx => by
    rcases List.mem_append.1 hx with h | h
    · exact be4_byts c hc x h
    · exact HY.out x h) (by omega) (by omega)).mono ?_
  rintro e w4 ⟨rfl, hb⟩
  rw [HV.out]
  have HB4 := Lib.hid ((HB1.out.trans (HB3.out.mono HB1.out.size)).trans (hb.mono (Nat.le_trans HB1.out.size HB3.out.size)))
  clear hb HB3 HW3 HA2 HW2 HB2 hs1 HP HB1
  go_wp2_with fail
  refine (take_no w4 _ 3 4 (by omega)).mono ?_
  rintro e w5 ⟨rfl, rfl⟩
  have dc : ((c : Int) == (c : Int)) = true := by simp
  go_wp2_with fail
  refine (wakes_call w4).mono ?_
  rintro e w5 ⟨rfl, hb⟩
  go_wp2
  go_ret
  exact ⟨rfl, HB4.out.trans (hb.mono HB4.out.size)⟩

theorem back_call (c : Int) (wc : (Lit.int .u32 c).wf = true) (a0 : Option Addr) (len0 cap0 : Nat) (z0 : List Int) (w : World) (h0 : IsRow .u8 w a0 len0 cap0 z0) :
    Calls Try.prog 7 #[.int .u32 c, .slice a0 len0 cap0] w fun e w' => e = .returned (.bool true) ∧ Below w.heap.size w w' := by
  have hcm := h0.capMax
  obtain ⟨hl, hs, hwf, h63, hlc⟩ := h0.src
  have hcb := bounds_u32 wc
  obtain ⟨C, rfl⟩ := Int.eq_ofNat_of_zero_le hcb.1
  by_cases h : 300 < len0
  · exact back_out C a0 len0 cap0 w h h63
  · exact back_in C (by omega) a0 len0 cap0 w (z0.take len0) hl hs (Byts.of_wf hwf) (by omega) hlc hcm
end Go.Proofs.Ytpodepplfhjdfaa
