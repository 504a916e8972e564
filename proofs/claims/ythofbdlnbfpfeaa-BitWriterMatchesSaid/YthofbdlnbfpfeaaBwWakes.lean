/- The walk over winepresslaw02.wakes. -/
import Derived.Test.YthofbdlnbfpfeaaBwPut
import Derived.Test.YthofbdlnbfpfeaaRIn
import Derived.Deep.RegionWith
set_option linter.unusedVariables false
set_option linter.unusedSimpArgs false
namespace Go.Proofs.Ythofbdlnbfpfeaa
open Go.RowKit

theorem e168 : bstr [168] = ⟨#[168]⟩ := rfl
theorem byts168 : ∀ x ∈ [(168 : Int)], 0 ≤ x ∧ x ≤ 255 := by simp

/-- Get on one byte, told. -/
theorem get168 (w : World) (g : Nat) (hg : w.cell? ⟨g, 0, none⟩ = some (.int .u8 168)) (at_ wd : Nat) (v : Int) (h : wd ≤ 32) (h8 : at_ + wd ≤ 8) (hv : valV (((bitsB [168]).drop at_).take wd) = v) :
    Calls Try.prog 15 #[.slice (some ⟨g, 0, none⟩) 1 1, .int .i64 at_, .int .i64 wd] w fun e w' => e = .returned (.tuple #[.int .u32 v, .bool true]) ∧ Below w.heap.size w w' := by
  rw [← hv]
  exact get_yes w _ 1 1 [168] rfl (Src.one hg) byts168 at_ wd h (by omega) (by omega)

set_option maxRecDepth 100000 in
set_option maxHeartbeats 4000000 in
theorem wakes_call (w : World) :
    Calls Try.prog 7 #[] w fun e w' => e = .returned (.bool true) ∧ Below w.heap.size w w' := by
  obtain ⟨B, hB⟩ : ∃ B, B = w.heap.size := ⟨_, rfl⟩
  rw [← hB]
  have hB' := Lib.hid hB
  clear hB
  go_enter Try.func7, Try.ntmps7
  go_wp2_with fail
  refine (newB B w (by rw [hB'.out]; exact Nat.le_refl _)).mono ?_
  rintro e w1 ⟨rfl, hw, hb⟩
  rw [← hB'.out] at hw hb ⊢
  have b1 := Lib.hid hb
  clear hb
  go_wp2_with fail
  refine (putB hw 5 (by omega) (by omega) 3 (by omega) (by decide) (by simp) [1, 0, 1] (by decide)).mono ?_
  rintro e w2 ⟨rfl, A2, c2, hw2, hb⟩
  have b2 := Lib.hid (b1.out.trans hb)
  clear hw hb b1
  go_wp2_with fail
  refine (putB hw2 1 (by omega) (by omega) 2 (by omega) (by decide) (by simp) [1, 0, 1, 0, 1] (by decide)).mono ?_
  rintro e w3 ⟨rfl, A3, c3, hw3, hb⟩
  have b3 := Lib.hid (b2.out.trans hb)
  clear hw2 hb b2
  go_wp2_with fail
  refine (put_no w3 B 4 2 (by omega) (by omega) (by decide)).mono ?_
  rintro e w4 ⟨rfl, hb⟩
  have hw4 := hw3.below hb
  have b4 := Lib.hid (b3.out.trans (hb.mono hw3.sz))
  clear hw3 hb b3
  go_wp2_with fail
  go_region_with (first
    | (go_at_call 12; go_must (refine (wlen_call (A := A3) (c := c3) (bs := [1, 0, 1, 0, 1]) ?_).mono ?_; (first | exact hw4.wr | exact hw4.drew.wr | exact hw5.wr | exact hw5.drew.wr); rintro e w' ⟨rfl, rfl⟩))
    | (go_at_call 13; go_must (refine (bytesB (B := B) (A := A3) (c := c3) (bs := [1, 0, 1, 0, 1]) ?_ 1 (by decide) [168] (by decide)).mono ?_; (first | exact hw4 | exact hw4.drew); rintro e w5 ⟨g, rfl, hg, hs, hb⟩; have hw5 := hw4.drew.below hb; have b5 := Lib.hid (b4.out.drew.trans (hb.mono hw4.sz)))))
  rw [e168] at hs ⊢
  clear hw4 b4 hb hg hs
  go_wp2_with fail
  refine (padB hw5 3 (by decide) [1, 0, 1, 0, 1, 0, 0, 0] (by decide)).mono ?_
  rintro e w6 ⟨rfl, hw6, hb⟩
  have b6 := Lib.hid (b5.out.trans hb)
  clear hw5 b5 hb
  go_wp2_with fail
  refine (padB hw6 0 (by decide) [1, 0, 1, 0, 1, 0, 0, 0] (by decide)).mono ?_
  rintro e w7 ⟨rfl, hw7, hb⟩
  have b7 := Lib.hid (b6.out.trans hb)
  clear hw6 b6 hb
  go_wp2_with fail
  refine (get168 _ _ (Boxed.new w7 _ _).cell 0 3 5 (by omega) (by omega) (by decide)).mono ?_
  rintro e w8 ⟨rfl, hb⟩
  have b8 := Lib.hid ((b7.out.alloc hw7.sz _).trans (hb.mono (Nat.le_trans hw7.sz (by simp))))
  have hw8 := (hw7.alloc _).below hb
  clear hw7 b7 hb
  go_wp2_with fail
  refine (get168 _ _ (Boxed.new w8 _ _).cell 3 2 1 (by omega) (by omega) (by decide)).mono ?_
  rintro e w9 ⟨rfl, hb⟩
  have b9 := Lib.hid ((b8.out.alloc hw8.sz _).trans (hb.mono (Nat.le_trans hw8.sz (by simp))))
  have hw9 := (hw8.alloc _).below hb
  clear hw8 b8 hb
  go_wp2_with fail
  refine (get_no _ _ 1 1 7 2 (by omega) (by omega) (by decide)).mono ?_
  rintro e w10 ⟨rfl, rfl⟩
  have hw10 := hw9.alloc (.cells #[.int .u8 168] 5)
  have b10 := Lib.hid (b9.out.alloc hw9.sz (.cells #[.int .u8 168] 5))
  clear hw9 b9
  go_wp2_with fail
  refine (wlen_call hw10.wr).mono ?_
  rintro e w11 ⟨rfl, rfl⟩
  go_wp2_with fail
  refine (bytesB hw10 1 (by decide) [168] (by decide)).mono ?_
  rintro e w12 ⟨g, rfl, hg, hs, hb⟩
  rw [e168] at hs
  have hw12 := hw10.below hb
  have b12 := Lib.hid (b10.out.trans (hb.mono hw10.sz))
  clear hw10 b10 hb hg
  go_wp2_with fail
  refine (of_call _ _ 1 1 [168] rfl (Src.one (Boxed.new w12 _ _).cell) byts168 (by omega)).mono ?_
  rintro e w13 ⟨A, c, rfl, hO, hA, hb⟩
  have hw13 := (hw12.alloc _).below hb
  have b13 := Lib.hid ((b12.out.alloc hw12.sz _).trans (hb.mono (Nat.le_trans hw12.sz (by simp))))
  rw [show bitsB [168] = [1, 0, 1, 0, 1, 0, 0, 0] by decide] at hO
  have hO' := Lib.hid (hO.alloc (.cells #[.int .i64 1, .int .i64 0, .int .i64 1, .int .i64 0, .int .i64 1, .int .i64 0, .int .i64 0, .int .i64 0] 3))
  clear hw12 b12 hb hs hO hA
  go_wp2_with fail
  refine (ints_same _ _ _ 8 _ _ [1, 0, 1, 0, 1, 0, 0, 0] rfl hO'.out.src (Src.whole (heap_alloc_new w13 _)) (by omega)).mono ?_
  rintro e w14 ⟨rfl, hb⟩
  have hw14 := (hw13.alloc _).below hb
  have b14 := Lib.hid ((b13.out.alloc hw13.sz _).trans (hb.mono (Nat.le_trans hw13.sz (by simp))))
  clear hw13 b13 hb hO'
  go_wp2_with fail
  refine (put_nil _ 0 0).mono ?_
  rintro e w15 ⟨rfl, hb⟩
  have hw15 := hw14.below hb
  have b15 := Lib.hid (b14.out.trans (hb.mono hw14.sz))
  clear hw14 b14 hb
  go_wp2_with fail
  refine (wlen_nil _).mono ?_
  rintro e w16 ⟨rfl, rfl⟩
  go_wp2_with fail
  refine (putB hw15 4294967295 (by omega) (by omega) 32 (by omega) (by decide) (by simp) _ rfl).mono ?_
  rintro e w17 ⟨rfl, A17, c17, hw17, hb⟩
  have b17 := Lib.hid (b15.out.trans hb)
  clear hw15 b15 hb
  go_wp2_with fail
  refine (put_no _ _ 0 33 (by omega) (by omega) (by decide)).mono ?_
  rintro e w18 ⟨rfl, hb⟩
  have b18 := Lib.hid (b17.out.trans (hb.mono hw17.sz))
  clear hw17 b17 hb
  go_wp2
  go_ret
  exact ⟨rfl, b18.out⟩
end Go.Proofs.Ythofbdlnbfpfeaa
