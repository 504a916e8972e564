/- winepresslaw11.wakes. -/
import Derived.Test.YtnpohkaicfcidaaPfK
import Derived.Test.YtnpohkaicfcidaaPeR
set_option linter.unusedVariables false
set_option linter.unusedSimpArgs false
namespace Go.Proofs.Ytnpohkaicfcidaa
open Go.RowKit

set_option maxRecDepth 100000 in
set_option maxHeartbeats 4000000 in
theorem wakes_call : WakesC := by
  intro w
  obtain ⟨L, hL, eL, cS, cR1, cR2, cR3, cZ1, cZ2, cP1, cP2, cPn⟩ := wk_all
  have eA := Lib.hid eL
  have HS := Lib.hid cS
  have HR1 := Lib.hid cR1
  have HR2 := Lib.hid cR2
  have HR3 := Lib.hid cR3
  have HZ1 := Lib.hid cZ1
  have HZ2 := Lib.hid cZ2
  have HP1 := Lib.hid cP1
  have HP2 := Lib.hid cP2
  have HPN := Lib.hid cPn
  have HIA := Lib.hid (fun (a b : Option Addr) (c e : Nat) (w : World) (h1 : Src w .i64 a [2, 3, 0]) (h2 : Src w .i64 b [2, 3, 0]) => show Calls Try.prog 14 #[.slice a 3 c, .slice b 3 e] w fun r w' => r = .returned (.bool true) ∧ Below w.heap.size w w' from ints_call a b 3 3 c e [2, 3, 0] [2, 3, 0] w rfl rfl h1 h2 (by decide) (by decide))
  have HSL := Lib.hid (show ∀ W : World, Src (W.alloc (.cells #[.int .i64 2, .int .i64 3, .int .i64 0] 3)) .i64 (some ⟨W.heap.size, 0, none⟩) [2, 3, 0] from fun W => Src.whole (l := [2, 3, 0]) (heap_alloc_last W _))
  clear eL cS cR1 cR2 cR3 cZ1 cZ2 cP1 cP2 cPn
  have hzL := lngZ
  have hzs := lg_size zL_lng
  have hne2 : ¬ lg zL = #[] := fun e => by have := lg_size zL_lng; rw [e] at this; simp at this
  go_enter Try.func7, Try.ntmps7
  go_upto_region 2 with (refine wpList_store_row rfl 23 _ _ rfl w.heap.size (((((lg zL).setIfInBounds 0 (.int .u8 3)).setIfInBounds 1 (.int .u8 3)).setIfInBounds 2 (.int .u8 2)).setIfInBounds 3 (.int .u8 1)) rfl rfl 23 (lg zL) (heap_alloc_last w _) (by rw [eA.out]; exact lngIk hL) (by rw [eA.out, lg_size hL, hzs]) (by rw [eA.out]; exact lg_all _) ?_)
  rw [World.setRow_alloc_new]
  try simp only [Act.put]
  rw [eA.out]
  have HG := Lib.hid (heap_alloc_last w (.cells (lg L) 23))
  have HB := Lib.hid ((Below.refl w.heap.size w).alloc (Nat.le_refl _) (.cells (lg L) 23))
  generalize w.alloc (.cells (lg L) 23) = w1 at HG HB ⊢
  clear hzL hzs hne2 eA
  go_upto_region 3 with (first
    | (refine wpList_load_row rfl 23 _ rfl w.heap.size rfl 23 (lg L) (0, 0) _ HG.out Try.underlying23 rfl (lngIk hL) ?_)
    | (with_reducible refine (HS.out _).mono ?_; rintro e x ⟨a2, c2, rfl, hs, hbx⟩))
  replace HG := Lib.hid (heap_on hbx HG.out)
  have H2 := Lib.hid hs
  clear hs
  replace HB := Lib.hid (HB.out.trans (hbx.mono HB.out.size))
  clear hbx
  go_upto_region 4 with (first
    | (refine wpList_load_row rfl 23 _ rfl w.heap.size rfl 23 (lg L) (0, 0) _ HG.out Try.underlying23 rfl (lngIk hL) ?_)
    | (with_reducible refine (HR1.out _).mono ?_; rintro e x ⟨A5, c5, rfl, hs, hbx⟩))
  replace HG := Lib.hid (heap_on hbx HG.out)
  replace H2 := Lib.hid (H2.out.below hbx)
  have H5 := Lib.hid hs
  clear hs
  replace HB := Lib.hid (HB.out.trans (hbx.mono HB.out.size))
  clear hbx
  go_upto_region 5 with (first
    | (refine wpList_load_row rfl 23 _ rfl w.heap.size rfl 23 (lg L) (0, 0) _ HG.out Try.underlying23 rfl (lngIk hL) ?_)
    | (with_reducible refine (HR2.out _).mono ?_; rintro e x ⟨A7, c7, rfl, hbx⟩))
  replace HG := Lib.hid (heap_on hbx HG.out)
  replace H2 := Lib.hid (H2.out.below hbx)
  replace H5 := Lib.hid (H5.out.below hbx)
  replace HB := Lib.hid (HB.out.trans (hbx.mono HB.out.size))
  clear hbx
  go_upto_region 6 with (first
    | (refine wpList_load_row rfl 23 _ rfl w.heap.size rfl 23 (lg L) (0, 0) _ HG.out Try.underlying23 rfl (lngIk hL) ?_)
    | (with_reducible refine (HR3.out _).mono ?_; rintro e x ⟨A9, c9, rfl, hbx⟩))
  replace HG := Lib.hid (heap_on hbx HG.out)
  replace H2 := Lib.hid (H2.out.below hbx)
  replace H5 := Lib.hid (H5.out.below hbx)
  replace HB := Lib.hid (HB.out.trans (hbx.mono HB.out.size))
  clear hbx
  go_upto_region 7 with (first
    | (refine wpList_load_row rfl 23 _ rfl w.heap.size rfl 23 (lg L) (0, 0) _ HG.out Try.underlying23 rfl (lngIk hL) ?_)
    | (with_reducible refine (HZ1.out _).mono ?_; rintro e x ⟨rfl, hbx⟩))
  replace HG := Lib.hid (heap_on hbx HG.out)
  replace H2 := Lib.hid (H2.out.below hbx)
  replace H5 := Lib.hid (H5.out.below hbx)
  replace HB := Lib.hid (HB.out.trans (hbx.mono HB.out.size))
  clear hbx
  go_upto_region 8 with (first
    | (refine wpList_load_row rfl 23 _ rfl w.heap.size rfl 23 (lg L) (0, 0) _ HG.out Try.underlying23 rfl (lngIk hL) ?_)
    | (with_reducible refine (HZ2.out _).mono ?_; rintro e x ⟨rfl, hbx⟩))
  replace HG := Lib.hid (heap_on hbx HG.out)
  replace H2 := Lib.hid (H2.out.below hbx)
  replace H5 := Lib.hid (H5.out.below hbx)
  replace HB := Lib.hid (HB.out.trans (hbx.mono HB.out.size))
  clear hbx
  obtain ⟨wb, hwb⟩ : ∃ wb, wb = x := ⟨_, rfl⟩
  subst hwb
  clear HS HR1 HR2 HR3 HZ1 HZ2
  go_upto_region 11 with (with_reducible refine (newB wb.heap.size wb (Nat.le_refl _)).mono ?_; rintro e x ⟨rfl, hw, hbx⟩)
  have HW := Lib.hid hw
  have HN := Lib.hid hbx
  clear hw hbx
  have HP0 := Lib.hid (fun _ : Unit => show Calls Try.prog 17 #[.pointer (some ⟨wb.heap.size, 0, none⟩), .int .u32 1, .int .i64 1] x fun e w' => e = .returned (.bool true) ∧ ∃ A' c', WrB wb.heap.size w' wb.heap.size A' c' [1] ∧ Below wb.heap.size x w' from putB HW.out 1 (by decide) (by decide) 1 (by decide) (by decide) (by decide) [1] (by decide))
  go_upto_region 12 with (with_reducible refine (HP0.out ()).mono ?_; rintro e y ⟨rfl, A3, c3, hw, hbx⟩)
  replace HW := Lib.hid hw
  replace HN := Lib.hid (HN.out.trans hbx)
  clear hw hbx HP0
  go_upto_region 13 with (first
    | (refine wpList_load_row rfl 23 _ rfl w.heap.size rfl 23 (lg L) (0, 0) _ (heap_on HN.out HG.out) Try.underlying23 rfl (lngIk hL) ?_)
    | (with_reducible refine (HP1.out _ _ _ _ _ HW.out).mono ?_; rintro e y ⟨rfl, A3, c3, hw, hbx⟩))
  replace HW := Lib.hid hw
  replace HN := Lib.hid (HN.out.trans hbx)
  clear hw hbx
  go_upto_region 14 with (first
    | (refine wpList_load_row rfl 23 _ rfl w.heap.size rfl 23 (lg L) (0, 0) _ (heap_on HN.out HG.out) Try.underlying23 rfl (lngIk hL) ?_)
    | (with_reducible refine (HP2.out _ _ _ _ _ HW.out).mono ?_; rintro e y ⟨rfl, A3, c3, hw, hbx⟩))
  replace HW := Lib.hid hw
  replace HN := Lib.hid (HN.out.trans hbx)
  clear hw hbx
  go_upto_region 15 with (first
    | (refine wpList_load_row rfl 23 _ rfl w.heap.size rfl 23 (lg L) (0, 0) _ (heap_on HN.out HG.out) Try.underlying23 rfl (lngIk hL) ?_)
    | (with_reducible refine (HPN.out _ _ _ _).mono ?_; rintro e z ⟨rfl, hbx⟩))
  replace HW := Lib.hid ((HW.out.alloc _).below hbx)
  replace HN := Lib.hid ((HN.out.alloc HN.out.size _).trans (hbx.mono (Nat.le_trans HN.out.size (by simp))))
  clear hbx
  have HBS := Lib.hid (show bstr [152] = ⟨#[152]⟩ ∧ bstr [192] = ⟨#[192]⟩ from ⟨rfl, rfl⟩)
  go_wp2_with (first
    | (refine wpList_load_row rfl 23 _ rfl w.heap.size rfl 23 (lg L) (0, 0) _ (heap_on HN.out HG.out) Try.underlying23 rfl (lngIk hL) ?_)
    | (with_reducible refine (HPN.out _ _ _ _).mono ?_; rintro e z2 ⟨rfl, hbx⟩
       have HW2 := Lib.hid (HW.out.below hbx)
       have HN2 := Lib.hid (HN.out.trans (hbx.mono HN.out.size))
       have hcv := run_bstr (P := Try.prog) sliceT byteT strT z2 a2 1 c2 [152] rfl (H2.out.below HN2.out)
       rw [HBS.out.1] at hcv
       clear hbx)
    | (with_reducible refine (HIA.out _ _ _ _ _ (H5.out.below (HN2.out.alloc HN2.out.size _)) (HSL.out z2)).mono ?_; rintro e z3 ⟨rfl, hbx⟩
       have HW3 := Lib.hid ((HW2.out.alloc _).below hbx)
       have HN3 := Lib.hid ((HN2.out.alloc HN2.out.size _).trans (hbx.mono (Nat.le_trans HN2.out.size (by simp))))
       clear hbx)
    | (with_reducible refine (bytesB HW3.out 1 (by decide) [192] kA_pk.2).mono ?_; rintro e z4 ⟨g4, rfl, hg4, hcv4, hbx⟩
       rw [HBS.out.2] at hcv4
       have HW4 := Lib.hid (HW3.out.below hbx)
       have HL4 := Lib.hid (show Calls Try.prog 20 #[.pointer (some ⟨wb.heap.size, 0, none⟩)] z4 fun e w' => e = .returned (.int .i64 4) ∧ z4 = w' from wlen_call HW4.out.wr)
       have HN4 := Lib.hid (HN3.out.trans (hbx.mono HN3.out.size))
       clear hbx hg4)
    | (with_reducible refine HL4.out.mono ?_; rintro e z5 ⟨rfl, rfl⟩))
  go_ret
  exact ⟨rfl, HB.out.trans (HN4.out.mono HB.out.size)⟩
end Go.Proofs.Ytnpohkaicfcidaa
