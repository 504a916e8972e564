/- The walk over winepresslaw01.wakes: the chapter's examples. -/
import Derived.Test.YtipliponbcjgdaaAr2
import Derived.Test.YtipliponbcjgdaaAr5
set_option linter.unusedVariables false
set_option linter.unusedSimpArgs false
namespace Go.Proofs.Ytipliponbcjgdaa
open Go.RowKit
theorem strT : Try.prog.underlying 9 = some .string := by kernel_rfl
theorem byteT : Try.prog.underlying 5 = some (.int .u8) := by kernel_rfl
theorem Kp.belowAll {p q : Nat} {B : Nat} {w w' w1 : World} (h : Below B w w') (k : Kp p q w' w1) (hB : B ≤ w'.heap.size) (hp : B ≤ p) (hq : B ≤ q) : Below B w w1 := h.trans (k.below hB hp hq)
set_option maxRecDepth 100000 in
set_option maxHeartbeats 4000000 in
theorem wakes_call (w : World) :
    Calls Try.prog 5 #[] w fun e w' => e = .returned (.bool true) ∧ Below w.heap.size w w' := by
  go_enter Try.func5, Try.ntmps5
  go_wp2_with fail
  refine (new_yes w 10 (by omega) (by omega)).mono ?_
  rintro e w1 ⟨p, q, rfl, hp, hq, hA, hb⟩
  have a1 : Ar w1 p q [0, 0, 0, 0, 0, 0, 0, 0, 0, 0] 0 0 := hA
  clear hA
  have b1 := Lib.hid hb
  clear hb
  go_wp2_with fail
  refine (new_no w1 0 (by omega)).mono ?_
  rintro e w2 ⟨rfl, hb⟩
  have k2 : Kp p q _ _ := Kp.of_below hb
  have a2 := a1.below hb
  clear hb
  have b2 := Lib.hid (Kp.belowAll b1.out k2 b1.out.size hp hq)
  clear k2 a1 b1
  go_wp2_with fail
  refine (new_no w2 1048577 (by omega)).mono ?_
  rintro e w3 ⟨rfl, hb⟩
  have k3 : Kp p q _ _ := Kp.of_below hb
  have a3 := a2.below hb
  clear hb
  have b3 := Lib.hid (Kp.belowAll b2.out k3 b2.out.size hp hq)
  clear k3 a2 b2
  go_wp2_with fail
  refine (take_yes a3 8 (by simp)).mono ?_
  rintro e w4 ⟨rfl, k4, a4⟩
  replace a4 : Ar w4 p q [0, 0, 0, 0, 0, 0, 0, 0, 0, 0] 8 8 := a4
  have b4 := Lib.hid (Kp.belowAll b3.out k4 b3.out.size hp hq)
  clear k4 a3 b3
  have hp4 := Nat.ne_of_gt a4.plt
  have hq4 := Nat.ne_of_gt a4.qlt
  go_wp2_with fail
  have s0 : (w4.alloc (.cells #[Value.int IntKind.i64 0, Value.int IntKind.i64 8] 34)).cell? ⟨w4.heap.size, 0, none⟩ = some (.int .i64 0) := by simp
  have s1 : (w4.alloc (.cells #[Value.int IntKind.i64 0, Value.int IntKind.i64 8] 34)).cell? ⟨w4.heap.size, 1, none⟩ = some (.int .i64 8) := by simp
  refine (setWord_call (a4.alloc _) 0 8 1 258 (by omega) (by omega) (by omega)).mono ?_
  rintro e w5 ⟨rfl, k5, a5⟩
  replace a5 : Ar w5 p q [0, 0, 0, 0, 2, 1, 0, 0, 0, 0] 8 8 := a5
  rw [show wordOk 8 0 8 1 = true from by decide]
  have s0_5 := k5.cell s0 hp4 hq4
  have s1_5 := k5.cell s1 hp4 hq4
  have b5 := Lib.hid (Kp.belowAll b4.out ((Kp.alloc p q _ _).trans k5) b4.out.size hp hq)
  clear s0 s1 k5 a4 b4
  go_wp2_with fail
  have a5p := a5.plt
  have a5q := a5.qlt
  refine (load_yes a5 0 8 (by decide) (by simp)).mono ?_
  rintro e w6 ⟨g, rfl, hg, hr, hb⟩
  have k6 : Kp p q _ _ := Kp.of_below hb
  have a6 := a5.below hb
  clear hb
  rw [show (seg [0, 0, 0, 0, 2, 1, 0, 0, 0, 0] 0 8).length = 8 from by decide]
  have s0_6 := k6.cell s0_5 hp4 hq4
  clear s0_5
  have s1_6 := k6.cell s1_5 hp4 hq4
  clear s1_5
  have z_6 : w4.heap.size < w6.heap.size := World.block_lt_of_cell? _ _ s0_6
  have b6 := Lib.hid (Kp.belowAll b5.out k6 b5.out.size hp hq)
  clear k6 a5 b5
  have hgp : g ≠ p := Nat.ne_of_gt (Nat.lt_of_lt_of_le a5p hg)
  have hgq : g ≠ q := Nat.ne_of_gt (Nat.lt_of_lt_of_le a5q hg)
  have r_6 : w6.heap[g]? = some (.cells (icells .u8 [0, 0, 0, 0, 2, 1, 0, 0]) 5 (0, 0)) := hr
  clear hr hg
  go_wp2_with fail
  refine (take_full a6 3 (by omega) (by simp)).mono ?_
  rintro e w7 ⟨rfl, hb⟩
  have k7 : Kp p q _ _ := Kp.of_below hb
  have a7 := a6.below hb
  clear hb
  have s0_7 := k7.cell s0_6 hp4 hq4
  clear s0_6
  have s1_7 := k7.cell s1_6 hp4 hq4
  clear s1_6
  have r_7 := k7.row r_6 hgp hgq
  clear r_6
  have z_7 : w4.heap.size < w7.heap.size := World.block_lt_of_cell? _ _ s0_7
  clear z_6
  have b7 := Lib.hid (Kp.belowAll b6.out k7 b6.out.size hp hq)
  clear k7 a6 b6
  go_wp2_with fail
  refine (take_neg _ p (-1) (by omega)).mono ?_
  rintro e w8 ⟨rfl, hb⟩
  have k8 : Kp p q _ _ := Kp.of_below hb
  have a8 := (a7.alloc _).below hb
  clear hb
  have j8 : Kp p q w7 w8 := (Kp.alloc p q _ _).trans k8
  clear k8
  have s0_8 := j8.cell s0_7 hp4 hq4
  clear s0_7
  have s1_8 := j8.cell s1_7 hp4 hq4
  clear s1_7
  have r_8 := j8.row r_7 hgp hgq
  clear r_7
  have z_8 : w4.heap.size < w8.heap.size := World.block_lt_of_cell? _ _ s0_8
  clear z_7
  have b8 := Lib.hid (Kp.belowAll b7.out j8 b7.out.size hp hq)
  clear j8 a7 b7
  go_wp2_with fail
  refine (word_call (a8.alloc _) 0 8 1 (by omega)).mono ?_
  rintro e w9 ⟨rfl, hb⟩
  have k9 : Kp p q _ _ := Kp.of_below hb
  have a9 := (a8.alloc _).below hb
  clear hb
  rw [show wordV [0, 0, 0, 0, 2, 1, 0, 0, 0, 0] 8 0 8 1 = 258 from by decide]
  rw [show wordOk 8 0 8 1 = true from by decide]
  have j9 : Kp p q w8 w9 := (Kp.alloc p q _ _).trans k9
  clear k9
  have s0_9 := j9.cell s0_8 hp4 hq4
  clear s0_8
  have s1_9 := j9.cell s1_8 hp4 hq4
  clear s1_8
  have r_9 := j9.row r_8 hgp hgq
  clear r_8
  have z_9 : w4.heap.size < w9.heap.size := World.block_lt_of_cell? _ _ s0_9
  clear z_8
  have b9 := Lib.hid (Kp.belowAll b8.out j9 b8.out.size hp hq)
  clear j9 a8 b8
  go_wp2_with fail
  refine (word_call a9 0 8 2 (by omega)).mono ?_
  rintro e w10 ⟨rfl, hb⟩
  have k10 : Kp p q _ _ := Kp.of_below hb
  have a10 := a9.below hb
  clear hb
  rw [show wordV [0, 0, 0, 0, 2, 1, 0, 0, 0, 0] 8 0 8 2 = 0 from by decide]
  rw [show wordOk 8 0 8 2 = false from by decide]
  have s0_10 := k10.cell s0_9 hp4 hq4
  clear s0_9
  have s1_10 := k10.cell s1_9 hp4 hq4
  clear s1_9
  have r_10 := k10.row r_9 hgp hgq
  clear r_9
  have z_10 : w4.heap.size < w10.heap.size := World.block_lt_of_cell? _ _ s0_10
  clear z_9
  have b10 := Lib.hid (Kp.belowAll b9.out k10 b9.out.size hp hq)
  clear k10 a9 b9
  go_wp2_with fail
  refine (byte_call a10 0 8 4 (by omega)).mono ?_
  rintro e w11 ⟨rfl, hb⟩
  have k11 : Kp p q _ _ := Kp.of_below hb
  have a11 := a10.below hb
  clear hb
  rw [show byteV [0, 0, 0, 0, 2, 1, 0, 0, 0, 0] 8 0 8 4 = 2 from by decide]
  rw [show byteOk 8 0 8 4 = true from by decide]
  have s0_11 := k11.cell s0_10 hp4 hq4
  clear s0_10
  have s1_11 := k11.cell s1_10 hp4 hq4
  clear s1_10
  have r_11 := k11.row r_10 hgp hgq
  clear r_10
  have z_11 : w4.heap.size < w11.heap.size := World.block_lt_of_cell? _ _ s0_11
  clear z_10
  have b11 := Lib.hid (Kp.belowAll b10.out k11 b10.out.size hp hq)
  clear k11 a10 b10
  go_wp2_with fail
  refine (byte_call a11 0 8 8 (by omega)).mono ?_
  rintro e w12 ⟨rfl, hb⟩
  have k12 : Kp p q _ _ := Kp.of_below hb
  have a12 := a11.below hb
  clear hb
  rw [show byteV [0, 0, 0, 0, 2, 1, 0, 0, 0, 0] 8 0 8 8 = 0 from by decide]
  rw [show byteOk 8 0 8 8 = false from by decide]
  have s0_12 := k12.cell s0_11 hp4 hq4
  clear s0_11
  have s1_12 := k12.cell s1_11 hp4 hq4
  clear s1_11
  have r_12 := k12.row r_11 hgp hgq
  clear r_11
  have z_12 : w4.heap.size < w12.heap.size := World.block_lt_of_cell? _ _ s0_12
  clear z_11
  have b12 := Lib.hid (Kp.belowAll b11.out k12 b11.out.size hp hq)
  clear k12 a11 b11
  go_wp2_with fail
  refine (store_yes (a12.alloc _) 0 8 6 _ 2 2 [7, 9] rfl (Src.whole (heap_alloc_new _ _)) (by intro x hx; simp at hx; omega) (by decide) (by omega) (by omega)).mono ?_
  rintro e w13 ⟨rfl, k13, a13⟩
  replace a13 : Ar w13 p q [0, 0, 0, 0, 2, 1, 7, 9, 0, 0] 8 8 := a13
  have j13 : Kp p q w12 w13 := (Kp.alloc p q _ _).trans k13
  clear k13
  have s0_13 := j13.cell s0_12 hp4 hq4
  clear s0_12
  have s1_13 := j13.cell s1_12 hp4 hq4
  clear s1_12
  have r_13 := j13.row r_12 hgp hgq
  clear r_12
  have z_13 : w4.heap.size < w13.heap.size := World.block_lt_of_cell? _ _ s0_13
  clear z_12
  have b13 := Lib.hid (Kp.belowAll b12.out j13 b12.out.size hp hq)
  clear j13 a12 b12
  go_wp2_with fail
  refine (store_no (a13.alloc _) 0 8 7 _ 2 2 (by omega) (by decide)).mono ?_
  rintro e w14 ⟨rfl, k14, a14⟩
  have j14 : Kp p q w13 w14 := (Kp.alloc p q _ _).trans k14
  clear k14
  have s0_14 := j14.cell s0_13 hp4 hq4
  clear s0_13
  have s1_14 := j14.cell s1_13 hp4 hq4
  clear s1_13
  have r_14 := j14.row r_13 hgp hgq
  clear r_13
  have z_14 : w4.heap.size < w14.heap.size := World.block_lt_of_cell? _ _ s0_14
  clear z_13
  have b14 := Lib.hid (Kp.belowAll b13.out j14 b13.out.size hp hq)
  clear j14 a13 b13
  go_wp2_with fail
  refine (release_yes a14 4 (by omega)).mono ?_
  rintro e w15 ⟨rfl, k15, a15⟩
  have s0_15 := k15.cell s0_14 hp4 hq4
  clear s0_14
  have s1_15 := k15.cell s1_14 hp4 hq4
  clear s1_14
  have r_15 := k15.row r_14 hgp hgq
  clear r_14
  have z_15 : w4.heap.size < w15.heap.size := World.block_lt_of_cell? _ _ s0_15
  clear z_14
  have b15 := Lib.hid (Kp.belowAll b14.out k15 b14.out.size hp hq)
  clear k15 a14 b14
  go_wp2_with fail
  refine (release_no a15 5 (by omega)).mono ?_
  rintro e w16 ⟨rfl, k16, a16⟩
  have s0_16 := k16.cell s0_15 hp4 hq4
  clear s0_15
  have s1_16 := k16.cell s1_15 hp4 hq4
  clear s1_15
  have r_16 := k16.row r_15 hgp hgq
  clear r_15
  have z_16 : w4.heap.size < w16.heap.size := World.block_lt_of_cell? _ _ s0_16
  clear z_15
  have b16 := Lib.hid (Kp.belowAll b15.out k16 b15.out.size hp hq)
  clear k16 a15 b15
  go_wp2_with fail
  refine (has_call a16 0 8 (by omega)).mono ?_
  rintro e w17 ⟨rfl, hb⟩
  have k17 : Kp p q _ _ := Kp.of_below hb
  have a17 := a16.below hb
  clear hb
  rw [show hasB 4 0 8 = false from by decide]
  have s0_17 := k17.cell s0_16 hp4 hq4
  clear s0_16
  have s1_17 := k17.cell s1_16 hp4 hq4
  clear s1_16
  have r_17 := k17.row r_16 hgp hgq
  clear r_16
  have z_17 : w4.heap.size < w17.heap.size := World.block_lt_of_cell? _ _ s0_17
  clear z_16
  have b17 := Lib.hid (Kp.belowAll b16.out k17 b16.out.size hp hq)
  clear k17 a16 b16
  go_wp2_with fail
  refine (take_yes a17 6 (by simp)).mono ?_
  rintro e w18 ⟨rfl, k18, a18⟩
  replace a18 : Ar w18 p q [0, 0, 0, 0, 0, 0, 0, 0, 0, 0] 10 10 := a18
  have s0_18 := k18.cell s0_17 hp4 hq4
  clear s0_17
  have s1_18 := k18.cell s1_17 hp4 hq4
  clear s1_17
  have r_18 := k18.row r_17 hgp hgq
  clear r_17
  have z_18 : w4.heap.size < w18.heap.size := World.block_lt_of_cell? _ _ s0_18
  clear z_17
  have b18 := Lib.hid (Kp.belowAll b17.out k18 b17.out.size hp hq)
  clear k18 a17 b17
  have t0 : (w18.alloc (.cells #[Value.int IntKind.i64 4, Value.int IntKind.i64 6] 34)).cell? ⟨w18.heap.size, 0, none⟩ = some (.int .i64 4) := by simp
  have t1 : (w18.alloc (.cells #[Value.int IntKind.i64 4, Value.int IntKind.i64 6] 34)).cell? ⟨w18.heap.size, 1, none⟩ = some (.int .i64 6) := by simp
  have hp5 := Nat.ne_of_gt a18.plt
  have hq5 := Nat.ne_of_gt a18.qlt
  go_wp2_with fail
  refine (take_nil _ 1).mono ?_
  rintro e w19 ⟨rfl, hb⟩
  have k : Kp p q _ _ := Kp.of_below hb
  have a19 := (a18.alloc (.cells #[Value.int IntKind.i64 4, Value.int IntKind.i64 6] 34)).below hb
  have t0' := k.cell t0 hp5 hq5
  have t1' := k.cell t1 hp5 hq5
  have k' := (Kp.alloc p q _ _).trans k
  have r' := k'.row r_18 hgp hgq
  have bb := Lib.hid (Kp.belowAll b18.out k' b18.out.size hp hq)
  have hz : w18.heap.size < w19.heap.size := World.block_lt_of_cell? _ _ t0'
  have hc := run_bstr (P := Try.prog) sliceT byteT strT (w19.alloc (.cells #[Value.int IntKind.i64 0, Value.int IntKind.i64 0] 34)) _ 8 8 _ rfl (Src.whole ((Below.heap_alloc _ _ _ (Array.getElem?_eq_some_iff.1 r').1).trans r'))
  clear hb k k' t0 t1 a18 s0_18 s1_18 z_18 r_18 b18
  have hq1 : (bstr [0, 0, 0, 0, 2, 1, 0, 0]).toList = [0, 0, 0, 0, 2, 1, 0, 0] := by rw [bstr_toList]; rfl
  go_wp2_with fail
  refine (load_yes (a19.alloc _) 4 6 (by decide) (by simp)).mono ?_
  rintro e w20 ⟨g2, rfl, hg2, hr2, hb2⟩
  rw [show (seg [0, 0, 0, 0, 0, 0, 0, 0, 0, 0] 4 6).length = 6 from by decide]
  have a20 := (a19.alloc (.cells #[Value.int IntKind.i64 0, Value.int IntKind.i64 0] 34)).below hb2
  have hc2 := run_bstr (P := Try.prog) sliceT byteT strT w20 _ 6 6 _ (by decide) (Src.whole hr2)
  have hq2 : (bstr (seg [0, 0, 0, 0, 0, 0, 0, 0, 0, 0] 4 6)).toList = [0, 0, 0, 0, 0, 0] := by rw [bstr_toList]; rfl
  have b20 := Lib.hid ((bb.out.alloc bb.out.size (.cells #[Value.int IntKind.i64 0, Value.int IntKind.i64 0] 34)).trans (hb2.mono (by have := bb.out.size; simp; omega)))
  clear hc hq1 a19 t0' t1' r' hz hr2 hg2 hb2
  generalize bstr (seg [0, 0, 0, 0, 0, 0, 0, 0, 0, 0] 4 6) = st at hc2 hq2
  go_wp2_with fail
  refine (peak_call a20).mono ?_
  rintro e w21 ⟨rfl, hb⟩
  have a21 := a20.below hb
  have b21 := Lib.hid (b20.out.trans (hb.mono b20.out.size))
  clear hb hc2 hq2 a20
  go_wp2_with fail
  refine (left_call a21).mono ?_
  rintro e w22 ⟨rfl, hb⟩
  have a22 := a21.below hb
  have b22 := Lib.hid (b21.out.trans (hb.mono b21.out.size))
  clear hb a21
  go_wp2_with fail
  refine (mark_call a22).mono ?_
  rintro e w23 ⟨rfl, hb⟩
  have b23 := Lib.hid (b22.out.trans (hb.mono b22.out.size))
  clear hb a22
  go_wp2_with fail
  refine (peak_nil w23).mono ?_
  rintro e w24 ⟨rfl, hb⟩
  have b24 := Lib.hid (b23.out.trans (hb.mono b23.out.size))
  clear hb
  go_wp2_with fail
  refine (has_nil w24 0 0).mono ?_
  rintro e w25 ⟨rfl, hb⟩
  have b25 := Lib.hid (b24.out.trans (hb.mono b24.out.size))
  clear hb
  go_wp2_with fail
  refine (release_nil w25 0).mono ?_
  rintro e w26 ⟨rfl, hb⟩
  have b26 := Lib.hid (b25.out.trans (hb.mono b25.out.size))
  clear hb
  go_wp2
  go_ret
  exact ⟨rfl, b26.out⟩
end Go.Proofs.Ytipliponbcjgdaa
