/- winepresslaw12.wakes out of the contracts (genwk12.py). -/
import Derived.Test.YtbegpakjojiblabPdV
import Derived.Deep.MidRow
import Derived.Test.YtbegpakjojiblabFrm2
set_option linter.unusedVariables false
set_option linter.unusedSimpArgs false
namespace Go.Proofs.Ytbegpakjojiblab
open Go.RowKit

theorem wanted_build {P : Program} {ops : Array Oper} {o : Oper} {a : Act} {w : World} {K : Act → World → Prop} {Q : Exit → Act → World → Prop} (j : Nat) (b : Bool) (hgd : o.guard = some (j, b)) (s : Nat) (hs : (ops[j]?).bind (·.dst) = some s) (hv : a.tmps[s]? = some (.bool b))
    (t : TypeId) (parts : Array (Nat × Operand)) (ho : o.op = .build t parts)
    (vals : Array (Nat × Value)) (u : Value) (hr : ∀ W, (Instr.build t vals).run P W = .ok u W) (hval : (parts.toList.map fun (i, x) => (i, a.eval x)) = vals.toList) (h : K (a.put o.dst u) w) : if Region.wanted o (yielded ops a.tmps) = true then Oper.wp P o a w K Q else K (a.put o.dst undef) w := by
  rw [if_pos (by unfold Region.wanted; rw [hgd]; simp [yielded, hs, hv])]
  unfold Oper.wp execOp
  simp only [ho, Sem.run_bind]
  have hv2 : (parts.map fun (i, x) => (i, a.eval x)) = vals := by
    apply Array.toList_inj.1
    rw [Array.toList_map]
    exact hval
  rw [hv2, hr w]
  exact h

set_option maxRecDepth 100000 in
set_option maxHeartbeats 8000000 in
theorem wakes_law (CN : NewC) (CV : ValC) (CS : StpC) (CQ : QckC) (CA : AllC) : WkC := by
  intro w
  obtain ⟨L, Z, F, Y, hL, hZ, ⟨e0, e255, e256, e383, e384, e511⟩, c3, bz, cA1, cA2, cA3, cA4, cQ1, cQ2, cN1, cN2, cS1, cS2, cV1, cV2, zt, zq⟩ := wk_all CN CV CS CQ CA
  have H3 := Lib.hid c3
  have HBZ := Lib.hid bz
  have HA1 := Lib.hid cA1
  have HA2 := Lib.hid cA2
  have HA3 := Lib.hid cA3
  have HA4 := Lib.hid cA4
  have HQ1 := Lib.hid cQ1
  have HQ2 := Lib.hid cQ2
  have HN1 := Lib.hid cN1
  have HN2 := Lib.hid cN2
  have HS1 := Lib.hid cS1
  have HS2 := Lib.hid cS2
  have HV1 := Lib.hid cV1
  have HV2 := Lib.hid cV2
  have HF := Lib.hid (And.intro e0 (And.intro e255 (And.intro e256 (And.intro e383 (And.intro e384 e511)))))
  have HIN := Lib.hid (fun (a1 a2 : Option Addr) (k1 k2 : Nat) (W : World) (h1 : Src W .i64 a1 [1, 0, 257]) (h2 : Src W .i64 a2 [1, 0, 257]) => show Calls Try.prog 12 #[.slice a1 3 k1, .slice a2 3 k2] W fun r w' => r = .returned (.bool true) ∧ Below W.heap.size W w' from ints2_call a1 a2 3 3 k1 k2 [1, 0, 257] [1, 0, 257] W rfl rfl h1 h2 (by decide) (by decide))
  have HSL := Lib.hid (show ∀ W : World, Src (W.alloc (.cells #[.int .i64 1, .int .i64 0, .int .i64 257] 3)) .i64 (some ⟨W.heap.size, 0, none⟩) [1, 0, 257] from fun W => Src.whole (l := [1, 0, 257]) (heap_alloc_last W _))
  have HB1 := Lib.hid (fun W => build_lcn W hL 1 1)
  have HB2 := Lib.hid (fun W => build_ln W hL 1)
  have HE1 := Lib.hid (fun W => show (Op.equalIn 10000 34 (.agg (sg L 1 1)) (.agg (sg L 1 1))).run Try.prog W = .ok true W from by
    have := run_eqi_st W hL hL (c := 1) (n := 1) (d := 1) (k := 1) (by decide) (by decide) (by decide) (by decide)
    rw [decide_eq_true ⟨rfl, rfl, rfl⟩] at this
    exact this)
  have HE0 := Lib.hid (fun W => show (Op.equalIn 10000 34 (.agg (sg L 0 0)) (.agg (sg L 0 0))).run Try.prog W = .ok true W from by
    have := run_eqi_st W hL hL (c := 0) (n := 0) (d := 0) (k := 0) (by decide) (by decide) (by decide) (by decide)
    rw [decide_eq_true ⟨rfl, rfl, rfl⟩] at this
    exact this)
  have hs00 := sg_size hL 0 0
  have hs11 := sg_size hL 1 1
  have hz00 := sg_size hZ 0 0
  have hqF := qg_size F
  have hqY := qg_size Y
  have hzt := zt
  have hzq := zq
  clear e0 e255 e256 e383 e384 e511 c3 bz cA1 cA2 cA3 cA4 cQ1 cQ2 cN1 cN2 cS1 cS2 cV1 cV2 zt zq CN CV CS CQ CA
  go_enter Try.func5, Try.ntmps5
  have HB := Lib.hid (Below.refl w.heap.size w)
  go_upto_region 2 with (first
    | ((with_reducible refine (H3.out _).mono ?_); rintro e t1 ⟨rfl, hb0⟩)
    | ((with_reducible refine (HA1.out _).mono ?_); rintro e x1 ⟨A1, c1, rfl, hs1, hb1⟩))
  have hbx := hb0.trans (hb1.mono hb0.size)
  replace HB := Lib.hid (HB.out.trans (hbx.mono HB.out.size))
  clear hb0 hb1 hbx
  have HS := Lib.hid hs1
  clear hs1
  go_upto_region 3 with (first
    | ((with_reducible refine (H3.out _).mono ?_); rintro e t2 ⟨rfl, hb0⟩)
    | ((with_reducible refine (HA2.out _).mono ?_); rintro e x2 ⟨A2, c2, rfl, hb1⟩))
  have hbx := hb0.trans (hb1.mono hb0.size)
  replace HS := Lib.hid (HS.out.below hbx)
  replace HB := Lib.hid (HB.out.trans (hbx.mono HB.out.size))
  clear hb0 hb1 hbx
  go_upto_region 4 with (first
    | (refine wpList_build_is rfl 23 _ rfl _ _ HBZ.out rfl ?_)
    | ((with_reducible refine (HA3.out _).mono ?_); rintro e x3 ⟨A3, c3, rfl, hb1⟩))
  replace HS := Lib.hid (HS.out.below hb1)
  replace HB := Lib.hid (HB.out.trans (hb1.mono HB.out.size))
  clear hb1
  go_upto_region 5 with (first
    | ((with_reducible refine (H3.out _).mono ?_); rintro e t4 ⟨rfl, hb0⟩)
    | ((with_reducible refine (HA4.out _).mono ?_); rintro e x4 ⟨A4, c4, rfl, hb1⟩))
  have hbx := hb0.trans (hb1.mono hb0.size)
  replace HS := Lib.hid (HS.out.below hbx)
  replace HB := Lib.hid (HB.out.trans (hbx.mono HB.out.size))
  clear hb0 hb1 hbx
  go_upto_region 6 with (first
    | ((with_reducible refine (H3.out _).mono ?_); rintro e t5 ⟨rfl, hb0⟩)
    | ((with_reducible refine (HQ1.out _).mono ?_); rintro e x5 ⟨rfl, hb1⟩)
    | (refine wpList_store_row rfl 29 _ _ rfl x5.heap.size (qg F) rfl rfl 29 (qg Y) (heap_alloc_last x5 _) (qgIk F) (by rw [hqY, hqF]) (qg_all _) ?_))
  rw [World.setRow_alloc_new]
  try simp only [Act.put]
  have hbx := (hb0.trans (hb1.mono hb0.size)).alloc (o := .cells (qg F) 29) (Nat.le_trans hb0.size hb1.size)
  have h5 := heap_alloc_last x5 (.cells (qg F) 29)
  replace HS := Lib.hid (HS.out.below hbx)
  replace HB := Lib.hid (HB.out.trans (hbx.mono HB.out.size))
  obtain ⟨gq, hgqe⟩ : ∃ g, g = x5.heap.size := ⟨_, rfl⟩
  rw [← hgqe] at h5 ⊢
  have H5 := Lib.hid h5
  clear hgqe
  clear hbx hb1 h5 hb0
  generalize x5.alloc (.cells (qg F) 29) = y5 at HS H5 HB ⊢
  go_upto_region 7 with (first
    | (refine wpList_build_is rfl 23 _ rfl _ _ HBZ.out rfl ?_)
    | ((with_reducible refine (HQ2.out _).mono ?_); rintro e x6 ⟨rfl, hb1⟩)
    | (refine wpList_store_row rfl 29 _ _ rfl x6.heap.size (qg Y) rfl rfl 29 (qg Y) (heap_alloc_last x6 _) (qgIk Y) rfl (qg_all _) ?_))
  rw [World.setRow_alloc_new]
  try simp only [Act.put]
  have hbx := hb1.alloc (o := .cells (qg Y) 29) hb1.size
  have h6 := heap_alloc_last x6 (.cells (qg Y) 29)
  replace HS := Lib.hid (HS.out.below hbx)
  replace H5 := Lib.hid (heap_on hbx H5.out)
  replace HB := Lib.hid (HB.out.trans (hbx.mono HB.out.size))
  clear hbx hb1 h6
  generalize x6.alloc (.cells (qg Y) 29) = y6 at HS H5 HB ⊢
  go_upto_region 8 with (first
    | ((with_reducible refine (H3.out _).mono ?_); rintro e t7 ⟨rfl, hb0⟩)
    | ((with_reducible refine (HN1.out _).mono ?_); rintro e x7 ⟨rfl, hb1⟩)
    | (refine wpList_store_row rfl 34 _ _ rfl x7.heap.size (sg L 0 0) rfl rfl 34 (sg Z 0 0) (heap_alloc_last x7 _) (stIk hL 0 0) (by rw [hz00, hs00]) (sg_all _ _ _) ?_))
  rw [World.setRow_alloc_new]
  try simp only [Act.put]
  have hbx := (hb0.trans (hb1.mono hb0.size)).alloc (o := .cells (sg L 0 0) 34) (Nat.le_trans hb0.size hb1.size)
  have h7 := heap_alloc_last x7 (.cells (sg L 0 0) 34)
  replace HS := Lib.hid (HS.out.below hbx)
  replace H5 := Lib.hid (heap_on hbx H5.out)
  replace HB := Lib.hid (HB.out.trans (hbx.mono HB.out.size))
  obtain ⟨g17, hg17e⟩ : ∃ g, g = x7.heap.size := ⟨_, rfl⟩
  rw [← hg17e] at h7 ⊢
  have H7 := Lib.hid h7
  clear hg17e
  clear hbx hb1 h7 hb0
  generalize x7.alloc (.cells (sg L 0 0) 34) = y7 at HS H5 H7 HB ⊢
  go_upto_region 9 with (first
    | (refine wpList_build_is rfl 23 _ rfl _ _ HBZ.out rfl ?_)
    | ((with_reducible refine (HN2.out _).mono ?_); rintro e x8 ⟨rfl, hb1⟩)
    | (refine wpList_store_row rfl 34 _ _ rfl x8.heap.size (sg Z 0 0) rfl rfl 34 (sg Z 0 0) (heap_alloc_last x8 _) (stIk hZ 0 0) rfl (sg_all _ _ _) ?_))
  rw [World.setRow_alloc_new]
  try simp only [Act.put]
  have hbx := hb1.alloc (o := .cells (sg Z 0 0) 34) hb1.size
  have h8 := heap_alloc_last x8 (.cells (sg Z 0 0) 34)
  replace HS := Lib.hid (HS.out.below hbx)
  replace H5 := Lib.hid (heap_on hbx H5.out)
  replace H7 := Lib.hid (heap_on hbx H7.out)
  replace HB := Lib.hid (HB.out.trans (hbx.mono HB.out.size))
  clear hbx hb1 h8
  generalize x8.alloc (.cells (sg Z 0 0) 34) = y8 at HS H5 H7 HB ⊢
  go_upto_region 10 with (first
    | (refine wpList_load_row rfl 34 _ rfl g17 rfl 34 (sg L 0 0) (0, 0) _ H7.out Try.underlying34 rfl (stIk hL 0 0) ?_)
    | ((with_reducible refine (HS1.out _).mono ?_); rintro e x9 ⟨rfl, hb1⟩)
    | (refine wpList_store_row rfl 34 _ _ rfl x9.heap.size (sg L 1 1) rfl rfl 34 (sg Z 0 0) (heap_alloc_last x9 _) (stIk hL 1 1) (by rw [hz00, hs11]) (sg_all _ _ _) ?_))
  rw [World.setRow_alloc_new]
  try simp only [Act.put]
  have hbx := hb1.alloc (o := .cells (sg L 1 1) 34) hb1.size
  have h9 := heap_alloc_last x9 (.cells (sg L 1 1) 34)
  replace HS := Lib.hid (HS.out.below hbx)
  replace H5 := Lib.hid (heap_on hbx H5.out)
  replace H7 := Lib.hid (heap_on hbx H7.out)
  replace HB := Lib.hid (HB.out.trans (hbx.mono HB.out.size))
  obtain ⟨g21, hg21e⟩ : ∃ g, g = x9.heap.size := ⟨_, rfl⟩
  rw [← hg21e] at h9 ⊢
  have H9 := Lib.hid h9
  clear hg21e
  clear hbx hb1 h9
  generalize x9.alloc (.cells (sg L 1 1) 34) = y9 at HS H5 H7 H9 HB ⊢
  go_upto_region 11 with (first
    | (refine wpList_load_row rfl 34 _ rfl g21 rfl 34 (sg L 1 1) (0, 0) _ H9.out Try.underlying34 rfl (stIk hL 1 1) ?_)
    | ((with_reducible refine (HS2.out _).mono ?_); rintro e x10 ⟨rfl, hb1⟩)
    | (refine wpList_store_row rfl 34 _ _ rfl x10.heap.size (sg L 0 0) rfl rfl 34 (sg Z 0 0) (heap_alloc_last x10 _) (stIk hL 0 0) (by rw [hz00, hs00]) (sg_all _ _ _) ?_))
  rw [World.setRow_alloc_new]
  try simp only [Act.put]
  have hbx := hb1.alloc (o := .cells (sg L 0 0) 34) hb1.size
  have h10 := heap_alloc_last x10 (.cells (sg L 0 0) 34)
  replace HS := Lib.hid (HS.out.below hbx)
  replace H5 := Lib.hid (heap_on hbx H5.out)
  replace H7 := Lib.hid (heap_on hbx H7.out)
  replace H9 := Lib.hid (heap_on hbx H9.out)
  replace HB := Lib.hid (HB.out.trans (hbx.mono HB.out.size))
  obtain ⟨g24, hg24e⟩ : ∃ g, g = x10.heap.size := ⟨_, rfl⟩
  rw [← hg24e] at h10 ⊢
  have H10 := Lib.hid h10
  clear hg24e
  clear hbx hb1 h10
  generalize x10.alloc (.cells (sg L 0 0) 34) = y10 at HS H5 H7 H9 H10 HB ⊢
  clear HA1 HA2 HA3 HA4 HQ1 HQ2 HN1 HN2 HS1 HS2
  go_upto_region 13 with ((with_reducible refine (HIN.out _ _ _ _ _ (HS.out.below ((Below.refl _ _).alloc (Nat.le_refl _) _)) (HSL.out y10)).mono ?_); rintro e x11 ⟨rfl, hb1⟩)
  have hbx := (below_al y10 (.cells #[.int .i64 1, .int .i64 0, .int .i64 257] 3)).trans (hb1.mono (by simp))
  replace HS := Lib.hid (HS.out.below hbx)
  replace H5 := Lib.hid (heap_on hbx H5.out)
  replace H7 := Lib.hid (heap_on hbx H7.out)
  replace H9 := Lib.hid (heap_on hbx H9.out)
  replace H10 := Lib.hid (heap_on hbx H10.out)
  replace HB := Lib.hid (HB.out.trans (hbx.mono HB.out.size))
  clear hbx hb1 HIN HSL HS
  obtain ⟨e0, e255, e256, e383, e384, e511⟩ := HF.out
  have p0 : x11.cell? ⟨gq, 0, none⟩ = some (.int .i64 0) := by have := (qg_cells H5.out 0 (by decide)).1; rw [e0] at this; exact this
  have r0 : x11.cell? ⟨gq, 1, none⟩ = some (.int .i64 1) := by have := (qg_cells H5.out 0 (by decide)).2; rw [e0] at this; exact this
  have p255 : x11.cell? ⟨gq, 510, none⟩ = some (.int .i64 0) := by have := (qg_cells H5.out 255 (by decide)).1; rw [e255] at this; exact this
  have r255 : x11.cell? ⟨gq, 511, none⟩ = some (.int .i64 1) := by have := (qg_cells H5.out 255 (by decide)).2; rw [e255] at this; exact this
  have p256 : x11.cell? ⟨gq, 512, none⟩ = some (.int .i64 1) := by have := (qg_cells H5.out 256 (by decide)).1; rw [e256] at this; exact this
  have r256 : x11.cell? ⟨gq, 513, none⟩ = some (.int .i64 2) := by have := (qg_cells H5.out 256 (by decide)).2; rw [e256] at this; exact this
  have p383 : x11.cell? ⟨gq, 766, none⟩ = some (.int .i64 1) := by have := (qg_cells H5.out 383 (by decide)).1; rw [e383] at this; exact this
  have r383 : x11.cell? ⟨gq, 767, none⟩ = some (.int .i64 2) := by have := (qg_cells H5.out 383 (by decide)).2; rw [e383] at this; exact this
  have p384 : x11.cell? ⟨gq, 768, none⟩ = some (.int .i64 257) := by have := (qg_cells H5.out 384 (by decide)).1; rw [e384] at this; exact this
  have r384 : x11.cell? ⟨gq, 769, none⟩ = some (.int .i64 2) := by have := (qg_cells H5.out 384 (by decide)).2; rw [e384] at this; exact this
  have p511 : x11.cell? ⟨gq, 1022, none⟩ = some (.int .i64 257) := by have := (qg_cells H5.out 511 (by decide)).1; rw [e511] at this; exact this
  have r511 : x11.cell? ⟨gq, 1023, none⟩ = some (.int .i64 2) := by have := (qg_cells H5.out 511 (by decide)).2; rw [e511] at this; exact this
  clear e0 e255 e256 e383 e384 e511
  go_upto_region 14 with fail
  clear p0 r0
  clear p255 r255
  clear p256 r256
  clear p383 r383
  clear p384 r384
  clear p511 r511
  clear H5 HF
  dsimp only [List.append]
  refine wp_region_inv (J := Js [eqv (.int .i64 50), eqv (.bool true), eqv (.bool true), eqv (.int .i64 2), eqv (.bool true), eqv (.bool true), eqv (.bool true), eqv (.int .i64 2), eqv (.bool true), eqv (.bool true), eqv (.bool true), eqv (.int .i64 0), eqv (.bool true), eqv (.bool true), eqv (.bool true), eqv (.bool true), eqv (.bool true), eqv (.bool true), eqv (.int .i64 2), eqv (.bool true), eqv (.bool true), eqv (.bool true), eqv (.int .i64 0), eqv (.bool true), eqv (.bool true), eqv (.bool true), eqv (.int .i64 2), eqv (.bool true), eqv (.bool true), eqv (.bool true), eqv (.bool false), eqv (.bool true), eqv (.bool true), eqv (.bool true), eqv (.int .i64 0), eqv (.bool true), eqv (.bool true), eqv (.bool true), eqv (.agg (sg L 1 1)), eqv (.agg (lg L)), eqv (.agg (sg L 1 1)), eqv (.bool true), eqv (.bool true), eqv (.bool true), eqv (.bool true), eqv (.bool true), eqv (.bool true), eqv (.int .i64 257), eqv (.bool true), eqv (.bool true), eqv (.bool true), eqv (.agg (sg L 0 0)), eqv (.agg (sg L 0 0)), eqv (.bool true), eqv (.bool true), eqv (.bool true), eqv (.agg (sg L 1 1)), eqv (.bool true), eqv (.bool true), eqv (.bool true), eqv (.agg (lg L)), eqv (.agg (sg L 0 1)), eqv (.bool false), eqv (.bool true), eqv (.bool true), eqv (.bool true)]) (ds := [136, 137, 138, 139, 140, 141, 142, 143, 144, 145, 146, 147, 148, 149, 150, 151, 152, 153, 154, 155, 156, 157, 158, 159, 160, 161, 162, 163, 164, 165, 166, 167, 168, 169, 170, 171, 172, 173, 174, 175, 176, 177, 178, 179, 180, 181, 182, 183, 184, 185, 186, 187, 188, 189, 190, 191, 192, 193, 194, 195, 196, 197, 198, 199, 200, 0]) (N := 201)
    (B := [(6, .int .i64 50), (9, .int .i64 2), (12, .int .i64 2), (14, .int .i64 0), (27, .bool true), (16, .int .i64 2), (18, .int .i64 0), (20, .int .i64 2), (23, .bool false), (22, .int .i64 0), (21, .pointer (some ⟨g21, 0, none⟩)), (26, .bool true), (25, .int .i64 257), (24, .pointer (some ⟨g24, 0, none⟩)), (17, .pointer (some ⟨g17, 0, none⟩))]) (by kernel_rfl) (by kernel_rfl) (Js_mono ⟨eqv_mono _, eqv_mono _, eqv_mono _, eqv_mono _, eqv_mono _, eqv_mono _, eqv_mono _, eqv_mono _, eqv_mono _, eqv_mono _, eqv_mono _, eqv_mono _, eqv_mono _, eqv_mono _, eqv_mono _, eqv_mono _, eqv_mono _, eqv_mono _, eqv_mono _, eqv_mono _, eqv_mono _, eqv_mono _, eqv_mono _, eqv_mono _, eqv_mono _, eqv_mono _, eqv_mono _, eqv_mono _, eqv_mono _, eqv_mono _, eqv_mono _, eqv_mono _, eqv_mono _, eqv_mono _, eqv_mono _, eqv_mono _, eqv_mono _, eqv_mono _, eqv_mono _, eqv_mono _, eqv_mono _, eqv_mono _, eqv_mono _, eqv_mono _, eqv_mono _, eqv_mono _, eqv_mono _, eqv_mono _, eqv_mono _, eqv_mono _, eqv_mono _, eqv_mono _, eqv_mono _, eqv_mono _, eqv_mono _, eqv_mono _, eqv_mono _, eqv_mono _, eqv_mono _, eqv_mono _, eqv_mono _, eqv_mono _, eqv_mono _, eqv_mono _, eqv_mono _, eqv_mono _, trivial⟩) rfl rfl (by simp) ?_ ?_
  · refine ⟨?_, ?_, ?_, ?_, ?_, ?_, ?_, ?_, ?_, ?_, ?_, ?_, ?_, ?_, ?_, ?_, ?_, ?_, ?_, ?_, ?_, ?_, ?_, ?_, ?_, ?_, ?_, ?_, ?_, ?_, ?_, ?_, ?_, ?_, ?_, ?_, ?_, ?_, ?_, ?_, ?_, ?_, ?_, ?_, ?_, ?_, ?_, ?_, ?_, ?_, ?_, ?_, ?_, ?_, ?_, ?_, ?_, ?_, ?_, ?_, ?_, ?_, ?_, ?_, ?_, ?_, trivial⟩
    · intro a w' hb hdep K hK
      have c6 := hb.at 0 6 _ rfl
      clear hdep
      go_simp
      exact hK _ _ rfl (Below.refl _ _)
    · intro a w' hb hdep K hK
      obtain ⟨v0, e0, j0⟩ := hdep 0 (by kernel_rfl)
      replace e0 : a.tmps[136]? = some v0 := e0
      obtain rfl : v0 = _ := j0
      clear hdep
      go_simp
      exact hK _ _ rfl (Below.refl _ _)
    · intro a w' hb hdep K hK
      obtain ⟨v1, e1, j1⟩ := hdep 1 (by kernel_rfl)
      replace e1 : a.tmps[137]? = some v1 := e1
      obtain rfl : v1 = _ := j1
      clear hdep
      go_simp
      exact hK _ _ rfl (Below.refl _ _)
    · intro a w' hb hdep K hK
      have c9 := hb.at 1 9 _ rfl
      obtain ⟨v2, e2, j2⟩ := hdep 2 (by kernel_rfl)
      replace e2 : a.tmps[138]? = some v2 := e2
      obtain rfl : v2 = _ := j2
      clear hdep
      go_simp
      exact hK _ _ rfl (Below.refl _ _)
    · intro a w' hb hdep K hK
      obtain ⟨v3, e3, j3⟩ := hdep 3 (by kernel_rfl)
      replace e3 : a.tmps[139]? = some v3 := e3
      obtain rfl : v3 = _ := j3
      obtain ⟨v2, e2, j2⟩ := hdep 2 (by kernel_rfl)
      replace e2 : a.tmps[138]? = some v2 := e2
      obtain rfl : v2 = _ := j2
      clear hdep
      go_simp
      exact hK _ _ rfl (Below.refl _ _)
    · intro a w' hb hdep K hK
      obtain ⟨v2, e2, j2⟩ := hdep 2 (by kernel_rfl)
      replace e2 : a.tmps[138]? = some v2 := e2
      obtain rfl : v2 = _ := j2
      obtain ⟨v4, e4, j4⟩ := hdep 4 (by kernel_rfl)
      replace e4 : a.tmps[140]? = some v4 := e4
      obtain rfl : v4 = _ := j4
      clear hdep
      go_simp
      exact hK _ _ rfl (Below.refl _ _)
    · intro a w' hb hdep K hK
      obtain ⟨v5, e5, j5⟩ := hdep 5 (by kernel_rfl)
      replace e5 : a.tmps[141]? = some v5 := e5
      obtain rfl : v5 = _ := j5
      clear hdep
      go_simp
      exact hK _ _ rfl (Below.refl _ _)
    · intro a w' hb hdep K hK
      have c12 := hb.at 2 12 _ rfl
      obtain ⟨v6, e6, j6⟩ := hdep 6 (by kernel_rfl)
      replace e6 : a.tmps[142]? = some v6 := e6
      obtain rfl : v6 = _ := j6
      clear hdep
      go_simp
      exact hK _ _ rfl (Below.refl _ _)
    · intro a w' hb hdep K hK
      obtain ⟨v7, e7, j7⟩ := hdep 7 (by kernel_rfl)
      replace e7 : a.tmps[143]? = some v7 := e7
      obtain rfl : v7 = _ := j7
      obtain ⟨v6, e6, j6⟩ := hdep 6 (by kernel_rfl)
      replace e6 : a.tmps[142]? = some v6 := e6
      obtain rfl : v6 = _ := j6
      clear hdep
      go_simp
      exact hK _ _ rfl (Below.refl _ _)
    · intro a w' hb hdep K hK
      obtain ⟨v6, e6, j6⟩ := hdep 6 (by kernel_rfl)
      replace e6 : a.tmps[142]? = some v6 := e6
      obtain rfl : v6 = _ := j6
      obtain ⟨v8, e8, j8⟩ := hdep 8 (by kernel_rfl)
      replace e8 : a.tmps[144]? = some v8 := e8
      obtain rfl : v8 = _ := j8
      clear hdep
      go_simp
      exact hK _ _ rfl (Below.refl _ _)
    · intro a w' hb hdep K hK
      obtain ⟨v9, e9, j9⟩ := hdep 9 (by kernel_rfl)
      replace e9 : a.tmps[145]? = some v9 := e9
      obtain rfl : v9 = _ := j9
      clear hdep
      go_simp
      exact hK _ _ rfl (Below.refl _ _)
    · intro a w' hb hdep K hK
      have c14 := hb.at 3 14 _ rfl
      obtain ⟨v10, e10, j10⟩ := hdep 10 (by kernel_rfl)
      replace e10 : a.tmps[146]? = some v10 := e10
      obtain rfl : v10 = _ := j10
      clear hdep
      go_simp
      exact hK _ _ rfl (Below.refl _ _)
    · intro a w' hb hdep K hK
      obtain ⟨v11, e11, j11⟩ := hdep 11 (by kernel_rfl)
      replace e11 : a.tmps[147]? = some v11 := e11
      obtain rfl : v11 = _ := j11
      obtain ⟨v10, e10, j10⟩ := hdep 10 (by kernel_rfl)
      replace e10 : a.tmps[146]? = some v10 := e10
      obtain rfl : v10 = _ := j10
      clear hdep
      go_simp
      exact hK _ _ rfl (Below.refl _ _)
    · intro a w' hb hdep K hK
      obtain ⟨v10, e10, j10⟩ := hdep 10 (by kernel_rfl)
      replace e10 : a.tmps[146]? = some v10 := e10
      obtain rfl : v10 = _ := j10
      obtain ⟨v12, e12, j12⟩ := hdep 12 (by kernel_rfl)
      replace e12 : a.tmps[148]? = some v12 := e12
      obtain rfl : v12 = _ := j12
      clear hdep
      go_simp
      exact hK _ _ rfl (Below.refl _ _)
    · intro a w' hb hdep K hK
      obtain ⟨v13, e13, j13⟩ := hdep 13 (by kernel_rfl)
      replace e13 : a.tmps[149]? = some v13 := e13
      obtain rfl : v13 = _ := j13
      clear hdep
      go_simp
      exact hK _ _ rfl (Below.refl _ _)
    · intro a w' hb hdep K hK
      have c27 := hb.at 4 27 _ rfl
      obtain ⟨v14, e14, j14⟩ := hdep 14 (by kernel_rfl)
      replace e14 : a.tmps[150]? = some v14 := e14
      obtain rfl : v14 = _ := j14
      clear hdep
      go_simp
      exact hK _ _ rfl (Below.refl _ _)
    · intro a w' hb hdep K hK
      obtain ⟨v14, e14, j14⟩ := hdep 14 (by kernel_rfl)
      replace e14 : a.tmps[150]? = some v14 := e14
      obtain rfl : v14 = _ := j14
      obtain ⟨v15, e15, j15⟩ := hdep 15 (by kernel_rfl)
      replace e15 : a.tmps[151]? = some v15 := e15
      obtain rfl : v15 = _ := j15
      clear hdep
      go_simp
      exact hK _ _ rfl (Below.refl _ _)
    · intro a w' hb hdep K hK
      obtain ⟨v16, e16, j16⟩ := hdep 16 (by kernel_rfl)
      replace e16 : a.tmps[152]? = some v16 := e16
      obtain rfl : v16 = _ := j16
      clear hdep
      go_simp
      exact hK _ _ rfl (Below.refl _ _)
    · intro a w' hb hdep K hK
      have c16 := hb.at 5 16 _ rfl
      obtain ⟨v17, e17, j17⟩ := hdep 17 (by kernel_rfl)
      replace e17 : a.tmps[153]? = some v17 := e17
      obtain rfl : v17 = _ := j17
      clear hdep
      go_simp
      exact hK _ _ rfl (Below.refl _ _)
    · intro a w' hb hdep K hK
      obtain ⟨v18, e18, j18⟩ := hdep 18 (by kernel_rfl)
      replace e18 : a.tmps[154]? = some v18 := e18
      obtain rfl : v18 = _ := j18
      obtain ⟨v17, e17, j17⟩ := hdep 17 (by kernel_rfl)
      replace e17 : a.tmps[153]? = some v17 := e17
      obtain rfl : v17 = _ := j17
      clear hdep
      go_simp
      exact hK _ _ rfl (Below.refl _ _)
    · intro a w' hb hdep K hK
      obtain ⟨v17, e17, j17⟩ := hdep 17 (by kernel_rfl)
      replace e17 : a.tmps[153]? = some v17 := e17
      obtain rfl : v17 = _ := j17
      obtain ⟨v19, e19, j19⟩ := hdep 19 (by kernel_rfl)
      replace e19 : a.tmps[155]? = some v19 := e19
      obtain rfl : v19 = _ := j19
      clear hdep
      go_simp
      exact hK _ _ rfl (Below.refl _ _)
    · intro a w' hb hdep K hK
      obtain ⟨v20, e20, j20⟩ := hdep 20 (by kernel_rfl)
      replace e20 : a.tmps[156]? = some v20 := e20
      obtain rfl : v20 = _ := j20
      clear hdep
      go_simp
      exact hK _ _ rfl (Below.refl _ _)
    · intro a w' hb hdep K hK
      have c18 := hb.at 6 18 _ rfl
      obtain ⟨v21, e21, j21⟩ := hdep 21 (by kernel_rfl)
      replace e21 : a.tmps[157]? = some v21 := e21
      obtain rfl : v21 = _ := j21
      clear hdep
      go_simp
      exact hK _ _ rfl (Below.refl _ _)
    · intro a w' hb hdep K hK
      obtain ⟨v22, e22, j22⟩ := hdep 22 (by kernel_rfl)
      replace e22 : a.tmps[158]? = some v22 := e22
      obtain rfl : v22 = _ := j22
      obtain ⟨v21, e21, j21⟩ := hdep 21 (by kernel_rfl)
      replace e21 : a.tmps[157]? = some v21 := e21
      obtain rfl : v21 = _ := j21
      clear hdep
      go_simp
      exact hK _ _ rfl (Below.refl _ _)
    · intro a w' hb hdep K hK
      obtain ⟨v21, e21, j21⟩ := hdep 21 (by kernel_rfl)
      replace e21 : a.tmps[157]? = some v21 := e21
      obtain rfl : v21 = _ := j21
      obtain ⟨v23, e23, j23⟩ := hdep 23 (by kernel_rfl)
      replace e23 : a.tmps[159]? = some v23 := e23
      obtain rfl : v23 = _ := j23
      clear hdep
      go_simp
      exact hK _ _ rfl (Below.refl _ _)
    · intro a w' hb hdep K hK
      obtain ⟨v24, e24, j24⟩ := hdep 24 (by kernel_rfl)
      replace e24 : a.tmps[160]? = some v24 := e24
      obtain rfl : v24 = _ := j24
      clear hdep
      go_simp
      exact hK _ _ rfl (Below.refl _ _)
    · intro a w' hb hdep K hK
      have c20 := hb.at 7 20 _ rfl
      obtain ⟨v25, e25, j25⟩ := hdep 25 (by kernel_rfl)
      replace e25 : a.tmps[161]? = some v25 := e25
      obtain rfl : v25 = _ := j25
      clear hdep
      go_simp
      exact hK _ _ rfl (Below.refl _ _)
    · intro a w' hb hdep K hK
      obtain ⟨v26, e26, j26⟩ := hdep 26 (by kernel_rfl)
      replace e26 : a.tmps[162]? = some v26 := e26
      obtain rfl : v26 = _ := j26
      obtain ⟨v25, e25, j25⟩ := hdep 25 (by kernel_rfl)
      replace e25 : a.tmps[161]? = some v25 := e25
      obtain rfl : v25 = _ := j25
      clear hdep
      go_simp
      exact hK _ _ rfl (Below.refl _ _)
    · intro a w' hb hdep K hK
      obtain ⟨v25, e25, j25⟩ := hdep 25 (by kernel_rfl)
      replace e25 : a.tmps[161]? = some v25 := e25
      obtain rfl : v25 = _ := j25
      obtain ⟨v27, e27, j27⟩ := hdep 27 (by kernel_rfl)
      replace e27 : a.tmps[163]? = some v27 := e27
      obtain rfl : v27 = _ := j27
      clear hdep
      go_simp
      exact hK _ _ rfl (Below.refl _ _)
    · intro a w' hb hdep K hK
      obtain ⟨v28, e28, j28⟩ := hdep 28 (by kernel_rfl)
      replace e28 : a.tmps[164]? = some v28 := e28
      obtain rfl : v28 = _ := j28
      clear hdep
      go_simp
      exact hK _ _ rfl (Below.refl _ _)
    · intro a w' hb hdep K hK
      have c23 := hb.at 8 23 _ rfl
      obtain ⟨v29, e29, j29⟩ := hdep 29 (by kernel_rfl)
      replace e29 : a.tmps[165]? = some v29 := e29
      obtain rfl : v29 = _ := j29
      clear hdep
      go_simp
      exact hK _ _ rfl (Below.refl _ _)
    · intro a w' hb hdep K hK
      obtain ⟨v30, e30, j30⟩ := hdep 30 (by kernel_rfl)
      replace e30 : a.tmps[166]? = some v30 := e30
      obtain rfl : v30 = _ := j30
      obtain ⟨v29, e29, j29⟩ := hdep 29 (by kernel_rfl)
      replace e29 : a.tmps[165]? = some v29 := e29
      obtain rfl : v29 = _ := j29
      clear hdep
      go_simp
      exact hK _ _ rfl (Below.refl _ _)
    · intro a w' hb hdep K hK
      obtain ⟨v29, e29, j29⟩ := hdep 29 (by kernel_rfl)
      replace e29 : a.tmps[165]? = some v29 := e29
      obtain rfl : v29 = _ := j29
      obtain ⟨v31, e31, j31⟩ := hdep 31 (by kernel_rfl)
      replace e31 : a.tmps[167]? = some v31 := e31
      obtain rfl : v31 = _ := j31
      clear hdep
      go_simp
      exact hK _ _ rfl (Below.refl _ _)
    · intro a w' hb hdep K hK
      obtain ⟨v32, e32, j32⟩ := hdep 32 (by kernel_rfl)
      replace e32 : a.tmps[168]? = some v32 := e32
      obtain rfl : v32 = _ := j32
      clear hdep
      go_simp
      exact hK _ _ rfl (Below.refl _ _)
    · intro a w' hb hdep K hK
      have c22 := hb.at 9 22 _ rfl
      obtain ⟨v33, e33, j33⟩ := hdep 33 (by kernel_rfl)
      replace e33 : a.tmps[169]? = some v33 := e33
      obtain rfl : v33 = _ := j33
      clear hdep
      go_simp
      exact hK _ _ rfl (Below.refl _ _)
    · intro a w' hb hdep K hK
      obtain ⟨v34, e34, j34⟩ := hdep 34 (by kernel_rfl)
      replace e34 : a.tmps[170]? = some v34 := e34
      obtain rfl : v34 = _ := j34
      obtain ⟨v33, e33, j33⟩ := hdep 33 (by kernel_rfl)
      replace e33 : a.tmps[169]? = some v33 := e33
      obtain rfl : v33 = _ := j33
      clear hdep
      go_simp
      exact hK _ _ rfl (Below.refl _ _)
    · intro a w' hb hdep K hK
      obtain ⟨v33, e33, j33⟩ := hdep 33 (by kernel_rfl)
      replace e33 : a.tmps[169]? = some v33 := e33
      obtain rfl : v33 = _ := j33
      obtain ⟨v35, e35, j35⟩ := hdep 35 (by kernel_rfl)
      replace e35 : a.tmps[171]? = some v35 := e35
      obtain rfl : v35 = _ := j35
      clear hdep
      go_simp
      exact hK _ _ rfl (Below.refl _ _)
    · intro a w' hb hdep K hK
      obtain ⟨v36, e36, j36⟩ := hdep 36 (by kernel_rfl)
      replace e36 : a.tmps[172]? = some v36 := e36
      obtain rfl : v36 = _ := j36
      clear hdep
      go_simp
      exact hK _ _ rfl (Below.refl _ _)
    · intro a w' hb hdep K hK
      have c21 := hb.at 10 21 _ rfl
      obtain ⟨v37, e37, j37⟩ := hdep 37 (by kernel_rfl)
      replace e37 : a.tmps[173]? = some v37 := e37
      obtain rfl : v37 = _ := j37
      clear hdep
      refine wanted_row 37 true rfl 173 rfl (by assumption) 34 _ rfl g21 (by simp [Act.eval, c21]) 34 (sg L 1 1) (0, 0) _ (heap_on hb.bel H9.out) Try.underlying34 rfl (stIk hL 1 1) ?_
      exact hK _ _ rfl (Below.refl _ _)
    · intro a w' hb hdep K hK
      obtain ⟨v37, e37, j37⟩ := hdep 37 (by kernel_rfl)
      replace e37 : a.tmps[173]? = some v37 := e37
      obtain rfl : v37 = _ := j37
      clear hdep
      go_simp
      go_at_call 11
      refine (H3.out w').mono ?_
      rintro e w20 ⟨rfl, hb20⟩
      exact hK _ _ rfl hb20
    · intro a w' hb hdep K hK
      obtain ⟨v39, e39, j39⟩ := hdep 39 (by kernel_rfl)
      replace e39 : a.tmps[175]? = some v39 := e39
      obtain rfl : v39 = _ := j39
      obtain ⟨v37, e37, j37⟩ := hdep 37 (by kernel_rfl)
      replace e37 : a.tmps[173]? = some v37 := e37
      obtain rfl : v37 = _ := j37
      clear hdep
      refine wanted_build 37 true rfl 173 rfl (by assumption) 34 _ rfl #[(0, .agg (lg L)), (1, .int .i64 1), (2, .int .i64 1)] _ (HB1.out) (by simp [Act.eval, e39]) ?_
      exact hK _ _ rfl (Below.refl _ _)
    · intro a w' hb hdep K hK
      obtain ⟨v38, e38, j38⟩ := hdep 38 (by kernel_rfl)
      replace e38 : a.tmps[174]? = some v38 := e38
      obtain rfl : v38 = _ := j38
      obtain ⟨v40, e40, j40⟩ := hdep 40 (by kernel_rfl)
      replace e40 : a.tmps[176]? = some v40 := e40
      obtain rfl : v40 = _ := j40
      obtain ⟨v37, e37, j37⟩ := hdep 37 (by kernel_rfl)
      replace e37 : a.tmps[173]? = some v37 := e37
      obtain rfl : v37 = _ := j37
      have heq := HE1.out
      clear hdep
      go_simp
      exact hK _ _ rfl (Below.refl _ _)
    · intro a w' hb hdep K hK
      obtain ⟨v37, e37, j37⟩ := hdep 37 (by kernel_rfl)
      replace e37 : a.tmps[173]? = some v37 := e37
      obtain rfl : v37 = _ := j37
      obtain ⟨v41, e41, j41⟩ := hdep 41 (by kernel_rfl)
      replace e41 : a.tmps[177]? = some v41 := e41
      obtain rfl : v41 = _ := j41
      clear hdep
      go_simp
      exact hK _ _ rfl (Below.refl _ _)
    · intro a w' hb hdep K hK
      obtain ⟨v42, e42, j42⟩ := hdep 42 (by kernel_rfl)
      replace e42 : a.tmps[178]? = some v42 := e42
      obtain rfl : v42 = _ := j42
      clear hdep
      go_simp
      exact hK _ _ rfl (Below.refl _ _)
    · intro a w' hb hdep K hK
      have c26 := hb.at 11 26 _ rfl
      obtain ⟨v43, e43, j43⟩ := hdep 43 (by kernel_rfl)
      replace e43 : a.tmps[179]? = some v43 := e43
      obtain rfl : v43 = _ := j43
      clear hdep
      go_simp
      exact hK _ _ rfl (Below.refl _ _)
    · intro a w' hb hdep K hK
      obtain ⟨v43, e43, j43⟩ := hdep 43 (by kernel_rfl)
      replace e43 : a.tmps[179]? = some v43 := e43
      obtain rfl : v43 = _ := j43
      obtain ⟨v44, e44, j44⟩ := hdep 44 (by kernel_rfl)
      replace e44 : a.tmps[180]? = some v44 := e44
      obtain rfl : v44 = _ := j44
      clear hdep
      go_simp
      exact hK _ _ rfl (Below.refl _ _)
    · intro a w' hb hdep K hK
      obtain ⟨v45, e45, j45⟩ := hdep 45 (by kernel_rfl)
      replace e45 : a.tmps[181]? = some v45 := e45
      obtain rfl : v45 = _ := j45
      clear hdep
      go_simp
      exact hK _ _ rfl (Below.refl _ _)
    · intro a w' hb hdep K hK
      have c25 := hb.at 12 25 _ rfl
      obtain ⟨v46, e46, j46⟩ := hdep 46 (by kernel_rfl)
      replace e46 : a.tmps[182]? = some v46 := e46
      obtain rfl : v46 = _ := j46
      clear hdep
      go_simp
      exact hK _ _ rfl (Below.refl _ _)
    · intro a w' hb hdep K hK
      obtain ⟨v47, e47, j47⟩ := hdep 47 (by kernel_rfl)
      replace e47 : a.tmps[183]? = some v47 := e47
      obtain rfl : v47 = _ := j47
      obtain ⟨v46, e46, j46⟩ := hdep 46 (by kernel_rfl)
      replace e46 : a.tmps[182]? = some v46 := e46
      obtain rfl : v46 = _ := j46
      clear hdep
      go_simp
      exact hK _ _ rfl (Below.refl _ _)
    · intro a w' hb hdep K hK
      obtain ⟨v46, e46, j46⟩ := hdep 46 (by kernel_rfl)
      replace e46 : a.tmps[182]? = some v46 := e46
      obtain rfl : v46 = _ := j46
      obtain ⟨v48, e48, j48⟩ := hdep 48 (by kernel_rfl)
      replace e48 : a.tmps[184]? = some v48 := e48
      obtain rfl : v48 = _ := j48
      clear hdep
      go_simp
      exact hK _ _ rfl (Below.refl _ _)
    · intro a w' hb hdep K hK
      obtain ⟨v49, e49, j49⟩ := hdep 49 (by kernel_rfl)
      replace e49 : a.tmps[185]? = some v49 := e49
      obtain rfl : v49 = _ := j49
      clear hdep
      go_simp
      exact hK _ _ rfl (Below.refl _ _)
    · intro a w' hb hdep K hK
      have c24 := hb.at 13 24 _ rfl
      obtain ⟨v50, e50, j50⟩ := hdep 50 (by kernel_rfl)
      replace e50 : a.tmps[186]? = some v50 := e50
      obtain rfl : v50 = _ := j50
      clear hdep
      refine wanted_row 50 true rfl 186 rfl (by assumption) 34 _ rfl g24 (by simp [Act.eval, c24]) 34 (sg L 0 0) (0, 0) _ (heap_on hb.bel H10.out) Try.underlying34 rfl (stIk hL 0 0) ?_
      exact hK _ _ rfl (Below.refl _ _)
    · intro a w' hb hdep K hK
      have c17 := hb.at 14 17 _ rfl
      obtain ⟨v50, e50, j50⟩ := hdep 50 (by kernel_rfl)
      replace e50 : a.tmps[186]? = some v50 := e50
      obtain rfl : v50 = _ := j50
      clear hdep
      refine wanted_row 50 true rfl 186 rfl (by assumption) 34 _ rfl g17 (by simp [Act.eval, c17]) 34 (sg L 0 0) (0, 0) _ (heap_on hb.bel H7.out) Try.underlying34 rfl (stIk hL 0 0) ?_
      exact hK _ _ rfl (Below.refl _ _)
    · intro a w' hb hdep K hK
      obtain ⟨v51, e51, j51⟩ := hdep 51 (by kernel_rfl)
      replace e51 : a.tmps[187]? = some v51 := e51
      obtain rfl : v51 = _ := j51
      obtain ⟨v52, e52, j52⟩ := hdep 52 (by kernel_rfl)
      replace e52 : a.tmps[188]? = some v52 := e52
      obtain rfl : v52 = _ := j52
      obtain ⟨v50, e50, j50⟩ := hdep 50 (by kernel_rfl)
      replace e50 : a.tmps[186]? = some v50 := e50
      obtain rfl : v50 = _ := j50
      have heq := HE0.out
      clear hdep
      go_simp
      exact hK _ _ rfl (Below.refl _ _)
    · intro a w' hb hdep K hK
      obtain ⟨v50, e50, j50⟩ := hdep 50 (by kernel_rfl)
      replace e50 : a.tmps[186]? = some v50 := e50
      obtain rfl : v50 = _ := j50
      obtain ⟨v53, e53, j53⟩ := hdep 53 (by kernel_rfl)
      replace e53 : a.tmps[189]? = some v53 := e53
      obtain rfl : v53 = _ := j53
      clear hdep
      go_simp
      exact hK _ _ rfl (Below.refl _ _)
    · intro a w' hb hdep K hK
      obtain ⟨v54, e54, j54⟩ := hdep 54 (by kernel_rfl)
      replace e54 : a.tmps[190]? = some v54 := e54
      obtain rfl : v54 = _ := j54
      clear hdep
      go_simp
      exact hK _ _ rfl (Below.refl _ _)
    · intro a w' hb hdep K hK
      have c21 := hb.at 10 21 _ rfl
      obtain ⟨v55, e55, j55⟩ := hdep 55 (by kernel_rfl)
      replace e55 : a.tmps[191]? = some v55 := e55
      obtain rfl : v55 = _ := j55
      clear hdep
      refine wanted_row 55 true rfl 191 rfl (by assumption) 34 _ rfl g21 (by simp [Act.eval, c21]) 34 (sg L 1 1) (0, 0) _ (heap_on hb.bel H9.out) Try.underlying34 rfl (stIk hL 1 1) ?_
      exact hK _ _ rfl (Below.refl _ _)
    · intro a w' hb hdep K hK
      obtain ⟨v56, e56, j56⟩ := hdep 56 (by kernel_rfl)
      replace e56 : a.tmps[192]? = some v56 := e56
      obtain rfl : v56 = _ := j56
      obtain ⟨v55, e55, j55⟩ := hdep 55 (by kernel_rfl)
      replace e55 : a.tmps[191]? = some v55 := e55
      obtain rfl : v55 = _ := j55
      clear hdep
      go_simp
      go_at_call 13
      refine (HV1.out w').mono ?_
      rintro e w20 ⟨rfl, hb20⟩
      exact hK _ _ rfl hb20
    · intro a w' hb hdep K hK
      obtain ⟨v55, e55, j55⟩ := hdep 55 (by kernel_rfl)
      replace e55 : a.tmps[191]? = some v55 := e55
      obtain rfl : v55 = _ := j55
      obtain ⟨v57, e57, j57⟩ := hdep 57 (by kernel_rfl)
      replace e57 : a.tmps[193]? = some v57 := e57
      obtain rfl : v57 = _ := j57
      clear hdep
      go_simp
      exact hK _ _ rfl (Below.refl _ _)
    · intro a w' hb hdep K hK
      obtain ⟨v58, e58, j58⟩ := hdep 58 (by kernel_rfl)
      replace e58 : a.tmps[194]? = some v58 := e58
      obtain rfl : v58 = _ := j58
      clear hdep
      go_simp
      exact hK _ _ rfl (Below.refl _ _)
    · intro a w' hb hdep K hK
      obtain ⟨v59, e59, j59⟩ := hdep 59 (by kernel_rfl)
      replace e59 : a.tmps[195]? = some v59 := e59
      obtain rfl : v59 = _ := j59
      clear hdep
      go_simp
      go_at_call 11
      refine (H3.out w').mono ?_
      rintro e w20 ⟨rfl, hb20⟩
      exact hK _ _ rfl hb20
    · intro a w' hb hdep K hK
      obtain ⟨v60, e60, j60⟩ := hdep 60 (by kernel_rfl)
      replace e60 : a.tmps[196]? = some v60 := e60
      obtain rfl : v60 = _ := j60
      obtain ⟨v59, e59, j59⟩ := hdep 59 (by kernel_rfl)
      replace e59 : a.tmps[195]? = some v59 := e59
      obtain rfl : v59 = _ := j59
      clear hdep
      refine wanted_build 59 true rfl 195 rfl (by assumption) 34 _ rfl #[(0, .agg (lg L)), (2, .int .i64 1)] _ (HB2.out) (by simp [Act.eval, e60]) ?_
      exact hK _ _ rfl (Below.refl _ _)
    · intro a w' hb hdep K hK
      obtain ⟨v61, e61, j61⟩ := hdep 61 (by kernel_rfl)
      replace e61 : a.tmps[197]? = some v61 := e61
      obtain rfl : v61 = _ := j61
      obtain ⟨v59, e59, j59⟩ := hdep 59 (by kernel_rfl)
      replace e59 : a.tmps[195]? = some v59 := e59
      obtain rfl : v59 = _ := j59
      clear hdep
      go_simp
      go_at_call 13
      refine (HV2.out w').mono ?_
      rintro e w20 ⟨rfl, hb20⟩
      exact hK _ _ rfl hb20
    · intro a w' hb hdep K hK
      obtain ⟨v62, e62, j62⟩ := hdep 62 (by kernel_rfl)
      replace e62 : a.tmps[198]? = some v62 := e62
      obtain rfl : v62 = _ := j62
      obtain ⟨v59, e59, j59⟩ := hdep 59 (by kernel_rfl)
      replace e59 : a.tmps[195]? = some v59 := e59
      obtain rfl : v59 = _ := j59
      clear hdep
      go_simp
      exact hK _ _ rfl (Below.refl _ _)
    · intro a w' hb hdep K hK
      obtain ⟨v59, e59, j59⟩ := hdep 59 (by kernel_rfl)
      replace e59 : a.tmps[195]? = some v59 := e59
      obtain rfl : v59 = _ := j59
      obtain ⟨v63, e63, j63⟩ := hdep 63 (by kernel_rfl)
      replace e63 : a.tmps[199]? = some v63 := e63
      obtain rfl : v63 = _ := j63
      clear hdep
      go_simp
      exact hK _ _ rfl (Below.refl _ _)
    · intro a w' hb hdep K hK
      obtain ⟨v64, e64, j64⟩ := hdep 64 (by kernel_rfl)
      replace e64 : a.tmps[200]? = some v64 := e64
      obtain rfl : v64 = _ := j64
      clear hdep
      go_simp
      exact hK _ _ rfl (Below.refl _ _)
  · intro a w' hb hall
    obtain ⟨v, h6, hv⟩ := hall 65 (by decide)
    obtain rfl : v = .bool true := hv
    have HBB := Lib.hid (HB.out.trans (hb.bel.mono HB.out.size))
    have hd := hb.defers
    clear hall hb
    go_wp2
    replace h6 : a.tmps[0]? = some (.bool true) := h6
    exact bodyPost_ret (v := .bool true) (by simp [results, Try.results5, go_sem, h6]) hd ⟨rfl, HBB.out⟩

end Go.Proofs.Ytbegpakjojiblab
