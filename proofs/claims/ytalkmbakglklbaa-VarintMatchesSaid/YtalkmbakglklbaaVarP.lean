/- Package varint and its reference: Put. -/
import Derived.Test.YtalkmbakglklbaaVarS
import Derived.Test.YtalkmbakglklbaaAny
set_option linter.unusedVariables false
set_option linter.unusedSimpArgs false
namespace Go.Proofs.Ytalkmbakglklbaa
open Go.RowKit

/-- What Put returns: new bytes. -/
def PutP (w : World) (n : Nat) (e : Ending) (w' : World) : Prop :=
  ∃ g cap, e = .returned (.tuple #[.slice (some ⟨g, 0, none⟩) (vsz n) cap, .int .i64 0]) ∧ w.heap.size ≤ g ∧ WinS w' .u8 5 (some ⟨g, 0, none⟩) cap (enc n) ∧ Below w.heap.size w w'

theorem put_no (n : Int) (h : n < 0 ∨ 2147483647 < n) (w : World) :
    Calls Try.prog 9 #[.int .i64 n] w fun e w' => e = .returned (.tuple #[.slice none 0 0, .int .i64 2]) ∧ w = w' := by
  go_enter Try.func9, Try.ntmps9
  go_wp2_with fail
  refine (size_no n _ h).mono ?_
  rintro e w1 ⟨rfl, rfl⟩
  go_wp2_with fail
  go_ret2
  exact ⟨rfl, rfl⟩
theorem rput_no (n : Int) (h : n < 0 ∨ 2147483647 < n) (w : World) :
    Calls Try.prog 10 #[.int .i64 n] w fun e w' => e = .returned (.tuple #[.slice none 0 0, .int .i64 2]) ∧ w = w' := by
  go_enter Try.func10, Try.ntmps10
  by_cases h1 : n < 0
  · have d1 : decide (n < 0) = true := by simp; omega
    go_wp2_with fail
    go_ret2
    exact ⟨rfl, rfl⟩
  · have d1 : decide (n < 0) = false := by simp; omega
    have d2 : decide (2147483647 < n) = true := by simp; omega
    go_wp2_with fail
    go_ret2
    exact ⟨rfl, rfl⟩

theorem setCell_icells {w : World} {k : IntKind} {g : Nat} {l : List Int} {t : TypeId} {fr : Nat × Nat} (h : w.heap[g]? = some (.cells (icells k l) t fr)) (i : Nat) (x : Int) :
    (w.setCell ⟨g, i, none⟩ (.int k x)).heap[g]? = some (.cells (icells k (l.set i x)) t fr) := by
  have e : (icells k l).setIfInBounds i (.int k x) = icells k (l.set i x) := by
    apply Array.ext_getElem?
    intro j
    rw [icells_get, Array.getElem?_setIfInBounds, icells_get, icells_size, List.getElem?_set]
    by_cases e : i = j
    · subst e
      by_cases hl : i < l.length <;> simp [hl]
    · simp [e]
  simp [World.setCell, Array.getElem?_modify, h, e]
theorem shr_pow (n d : Nat) : ((n : Int) / 2 ^ (7 * d)) = ((n / 128 ^ d : Nat) : Int) := by
  rw [Int.pow_mul]
  simp

set_option maxHeartbeats 1000000 in
theorem put_yes (n : Nat) (h : n ≤ 2147483647) (w : World) :
    Calls Try.prog 9 #[.int .i64 n] w (PutP w n) := by
  have hm := vsz_bd n h
  obtain ⟨m, hme⟩ : ∃ m, m = vsz n := ⟨_, rfl⟩
  have HM := Lib.hid hme
  rw [← hme] at hm
  have kmk := fun w => run_makeI (P := Try.prog) sliceT byteI .i64 .i64 m (by omega) (by omega) w
  have hsz := Lib.hid (fun w => size_yes n h w)
  rw [← hme] at hsz
  have dz : ((m : Int) == 0) = false := by simp; omega
  go_enter Try.func9, Try.ntmps9
  go_wp2_with fail
  refine (hsz.out _).mono ?_
  rintro e w1 ⟨rfl, rfl⟩
  clear hme hsz
  go_wp2_with fail
  have hrow : (w.alloc (.cells (icells .u8 (List.replicate m 0)) 5)).heap[w.heap.size]? = some (.cells (icells .u8 (putAt n m 0)) 5 (0, 0)) := by
    rw [putAt_zero]
    exact heap_alloc_new _ _
  have hbel := (Below.refl _ w).alloc (Nat.le_refl _) (.cells (icells .u8 (List.replicate m 0)) 5)
  clear kmk
  go_loopw [16] (fun x wr => ∃ i : Nat, i ≤ m ∧ x = .int .i64 i ∧ wr.heap[w.heap.size]? = some (.cells (icells .u8 (putAt n m i)) 5 (0, 0)) ∧ Below w.heap.size w wr) (fun x _ => m - (intOf x).toNat)
  case atStart => exact ⟨0, by omega, rfl, hrow, hbel⟩
  case round =>
    obtain ⟨i, hi, rfl, hr, hb⟩ := hrel
    by_cases hlt : i < m
    · have wd1 : IntKind.i64.wrap ((m : Int) - 1) = ((m - 1 : Nat) : Int) := by rw [IntWalk.i64_in _ (by omega)]; omega
      have wd2 : IntKind.i64.wrap (((m - 1 : Nat) : Int) - (i : Int)) = ((m - 1 - i : Nat) : Int) := by rw [IntWalk.i64_in _ (by omega)]; omega
      have c0 := cell_icells hr i (by rw [putAt_length]; exact hlt)
      have f0 := frozen_icells hr i
      go_wp2_with fail
      have hq := or128_u8 (n / 128 ^ (m - 1 - i) % 256) (by omega)
      have hx : bits .or .u8 ((n : Int) / 2 ^ (7 * (m - 1 - i)) % 256) 128 = ((128 + n / 128 ^ (m - 1 - i) % 128 : Nat) : Int) := by
        rw [shr_pow, show ((n / 128 ^ (m - 1 - i) : Nat) : Int) % 256 = ((n / 128 ^ (m - 1 - i) % 256 : Nat) : Int) from rfl, hq]
        omega
      rw [hx]
      refine ⟨⟨i + 1, by omega, by go_num, ?_, hb.setCell (Nat.le_refl _) _⟩, by simp [intOf]; omega⟩
      rw [setCell_icells hr, putAt_set n m i hlt]
    · obtain rfl : i = m := by omega
      have wd1 : IntKind.i64.wrap ((i : Int) - 1) = ((i - 1 : Nat) : Int) := by rw [IntWalk.i64_in _ (by omega)]; omega
      have hlast := putAt_last n i (by omega)
      have c0 := cell_icells hr (i - 1) (by rw [putAt_length]; omega)
      have f0 := frozen_icells hr (i - 1)
      rw [hlast] at c0
      have e127 := and127_u8 (128 + n % 128) (by omega)
      rw [show ((128 + n % 128 : Nat) : Int) % 128 = (n : Int) % 128 by omega, show ((128 + n % 128 : Nat) : Int) = 128 + (n : Int) % 128 by omega] at e127
      have HR := Lib.hid (setCell_icells hr (i - 1) ((n % 128 : Nat) : Int))
      have HB := Lib.hid hb
      clear hlast hr hb
      go_wp2_with fail
      go_ret2
      have hr := HR.out
      have hm' := HM.out
      rw [hm', putAt_enc n h, ← hm', show ((n % 128 : Nat) : Int) = (n : Int) % 128 by omega] at hr
      have hl : (enc n).length = i := by rw [enc_length, ← hm']
      refine ⟨w.heap.size, i, by rw [← hm']; rfl, Nat.le_refl _, ?_, HB.out.setCell (Nat.le_refl _) _⟩
      have := WinS.lit hr (by rw [hl]; omega)
      rwa [hl] at this

/-- What the reference's Put returns. -/
def RPutP (w : World) (n : Nat) (e : Ending) (w' : World) : Prop :=
  ∃ a cap, e = .returned (.tuple #[.slice a (vsz n) cap, .int .i64 0]) ∧ WinS w' .u8 5 a cap (enc n) ∧ Below w.heap.size w w'
theorem hi_snoc (r : Nat) (h0 : 0 < r) (h : r ≤ 2147483647) (L : List Int) : hi (sz (r / 128)) (r / 128) ++ ((128 + (r : Int) % 128) :: L) = hi (sz r) r ++ L := by
  rw [sz_pos r h0 h, show hi (sz (r / 128) + 1) r = hi (sz (r / 128)) (r / 128) ++ [((128 + r % 128 : Nat) : Int)] from rfl, List.append_assoc]
  rfl
set_option maxHeartbeats 1000000 in
theorem rput_yes (n : Nat) (h : n ≤ 2147483647) (w : World) :
    Calls Try.prog 10 #[.int .i64 n] w (RPutP w n) := by
  have d1 : decide ((n : Int) < 0) = false := by simp
  have d2 : decide (2147483647 < (n : Int)) = false := by simp; omega
  have wn : (n : Int) % 128 % 256 = (n : Int) % 128 := by omega
  go_enter Try.func10, Try.ntmps10
  go_wp2_with fail
  clear d1 d2
  have hw0 : WinS (w.alloc (.cells #[.int .u8 ((n : Int) % 128)] 5)) .u8 5 (some ⟨w.heap.size, 0, none⟩) 1 [(n : Int) % 128] := WinS.lit (l := [(n : Int) % 128]) (heap_alloc_new w _) (by simp)
  have hb0 := (Below.refl _ w).alloc (Nat.le_refl _) (.cells #[.int .u8 ((n : Int) % 128)] 5)
  have HV := Lib.hid (vsz_bd n h)
  have HL := Lib.hid (enc_length n)
  go_loopw [0, 4] (fun x y wr => ∃ (r : Nat) (L : List Int) (a : Option Addr) (m c : Nat), r ≤ 16777215 ∧ x = .int .i64 r ∧ y = .slice a m c ∧ L.length = m ∧ WinS wr .u8 5 a c L ∧ hi (sz r) r ++ L = enc n ∧ Below w.heap.size w wr ∧ (∀ g, blk a = some g → w.heap.size ≤ g)) (fun x _ _ => (intOf x).toNat)
  case atStart => exact ⟨n / 128, [(n : Int) % 128], _, 1, 1, by omega, by simp, rfl, rfl, hw0, rfl, hb0, fun g e => by injection e with e; subst e; exact Nat.le_refl _⟩
  case round =>
    obtain ⟨r, L, a, m, c, hr, rfl, rfl, hm, hw, he, hb, hbl⟩ := hrel
    have HM := Lib.hid hm
    have HW := Lib.hid hw
    have HE := Lib.hid he
    have HB := Lib.hid hb
    clear hm hw he hb
    by_cases h0 : 0 < r
    · have d0 : decide (0 < (r : Int)) = true := by simp; omega
      have hm5 : m ≤ 5 := by
        have h1 := congrArg List.length HE.out
        rw [List.length_append, hi_length, HM.out, HL.out] at h1
        have := HV.out
        omega
      have wr1 : (128 + (r : Int) % 128) % 256 = 128 + (r : Int) % 128 := by omega
      have HH := Lib.hid (hi_snoc r h0 (by omega) L)
      go_wp2_with (at_builtin
                   refine wpList_appendW rfl _ _ 22 rfl 5 .u8 1 sliceT byteI (some ⟨wr.heap.size, 0, none⟩) 1 [128 + (r : Int) % 128] 1 rfl rfl (WinS.lit (l := [128 + (r : Int) % 128]) (heap_alloc_new wr _) (by simp)) a m c rfl L HM.out (HW.out.alloc _).src (by unfold maxLen; omega) (by omega) ?_
                   intro a2 c2 w2 hwin hgr halt
                   have HW2 := Lib.hid hwin
                   have HB2 := Lib.hid ((HB.out.alloc HB.out.size (.cells #[.int .u8 (128 + (r : Int) % 128)] 5)).grown hgr (by simp; exact Nat.le_succ_of_le HB.out.size) (by intro k e; injection e with e; subst e; exact HB.out.size))
                   have HA2 := Lib.hid (show ∀ g, blk a2 = some g → w.heap.size ≤ g from fun g e => by
                     rcases halt with h1 | h1 <;> rw [h1] at e <;> injection e with e <;> subst e <;> simp
                     · exact HB.out.size
                     · exact Nat.le_succ_of_le HB.out.size)
                   clear hwin hgr halt)
      go_roundw
      case rel => exact ⟨r / 128, _, _, _, _, by omega, by simp, rfl, by rw [List.length_append, HM.out]; rfl, HW2.out, by rw [← HE.out, ← HH.out]; rfl, HB2.out, HA2.out⟩
      case measure => simp [intOf]; omega
    · obtain rfl : r = 0 := by omega
      have d1 : decide (0 < ((0 : Nat) : Int)) = false := rfl
      have hL : L = enc n := HE.out
      have HMM := Lib.hid (show m = vsz n by rw [← HM.out, hL, HL.out])
      go_wp2
      go_ret2
      exact ⟨a, c, by rw [← HMM.out]; rfl, by rw [← hL]; exact HW.out, HB.out⟩
end Go.Proofs.Ytalkmbakglklbaa
