/- winepresslaw13.wakes out of the contracts (genwk13.py). -/
import Derived.Test.YtaemmeofchonaaaMtB
set_option linter.unusedVariables false
set_option linter.unusedSimpArgs false
namespace Go.Proofs.Ytaemmeofchonaaa
open Go.RowKit

theorem k_put : (ptV idL 2).2 = 2 ∧ (ptV idL 2).1.getD 0 0 = 2 ∧ (ptV idL 2).1.getD 1 0 = 0 ∧ (ptV idL 2).1.getD 2 0 = 1 ∧ (ptV idL 2).1.getD 3 0 = 3 ∧ decide (ptV idL 2).1.Nodup = true := by decide +kernel
theorem k_take : (tkR (ptV idL 2).1 1).2.1 = 0 ∧ (tkR (ptV idL 2).1 1).2.2 = true ∧ (tkR (ptV idL 2).1 1).1.getD 0 0 = 0 ∧ (tkR (ptV idL 2).1 1).1.getD 1 0 = 2 := by decide +kernel
theorem k_none : ptV zS 7 = (zS, -1) ∧ decide zS.Nodup = false := by decide +kernel
theorem k_fw : fwV idL [2, 2, 0, 1] = [2, 0, 1, 2] ∧ bkV idL [2, 0, 1, 2] = [2, 2, 0, 1] := by decide +kernel
theorem mwk_all (CN : MNewC) (CV : MValC) (CP : MPutC) (CT : MTakC) (CF : MFthC) (CB : MBckC) : ∃ (I O Q : List Int), Lst I ∧ Lst O ∧ Lst Q ∧ I.getD 255 0 = 255 ∧
    (O.getD 0 0 = 2 ∧ O.getD 1 0 = 0 ∧ O.getD 2 0 = 1 ∧ O.getD 3 0 = 3) ∧ (Q.getD 0 0 = 0 ∧ Q.getD 1 0 = 2) ∧
    (∀ W, Calls Try.prog 15 #[] W fun e w' => e = .returned (.agg (ll I)) ∧ Below W.heap.size W w') ∧
    (∀ W, Calls Try.prog 9 #[.agg (ll I), .int .u8 2] W fun e w' => e = .returned (.tuple #[.agg (ll O), .int .i64 2]) ∧ Below W.heap.size W w') ∧
    (∀ W, Calls Try.prog 11 #[.agg (ll O), .int .i64 1] W fun e w' => e = .returned (.tuple #[.agg (ll Q), .int .u8 0, .bool true]) ∧ Below W.heap.size W w') ∧
    (∀ W, Calls Try.prog 11 #[.agg (ll O), .int .i64 256] W fun e w' => e = .returned (.tuple #[.agg (ll O), .int .u8 0, .bool false]) ∧ Below W.heap.size W w') ∧
    (∀ W, Calls Try.prog 9 #[.agg (ll zS), .int .u8 7] W fun e w' => e = .returned (.tuple #[.agg (ll zS), .int .i64 (-1)]) ∧ Below W.heap.size W w') ∧
    (∀ W, Calls Try.prog 13 #[.agg (ll O)] W fun e w' => e = .returned (.bool true) ∧ Below W.heap.size W w') ∧
    (∀ W, Calls Try.prog 13 #[.agg (ll zS)] W fun e w' => e = .returned (.bool false) ∧ Below W.heap.size W w') := by
  have hO := ptV_lst idL_lst 2
  have hQ := tkR_lst hO 1
  obtain ⟨p1, p2, p3, p4, p5, p6⟩ := k_put
  obtain ⟨t1, t2, t3, t4⟩ := k_take
  have a1 := fun W => CP idL idL_lst 2 (by decide) W
  have a2 := fun W => CT _ hO 1 (by decide) W
  have a3 := fun W => CT _ hO 256 (by decide) W
  have a4 := fun W => CP zS zS_lst 7 (by decide) W
  have a5 := fun W => CV _ hO W
  have a6 := fun W => CV zS zS_lst W
  rw [show tkR (ptV idL 2).1 256 = ((ptV idL 2).1, 0, false) by unfold tkR; rw [if_neg (by decide)]] at a3
  rw [p1] at a1
  rw [t1, t2] at a2
  rw [k_none.1] at a4
  rw [p6] at a5
  rw [k_none.2] at a6
  exact ⟨idL, (ptV idL 2).1, (tkR (ptV idL 2).1 1).1, idL_lst, hO, hQ, idL_get 255 (by decide), ⟨p2, p3, p4, p5⟩, ⟨t3, t4⟩, fun W => CN W, a1, a2, a3, a4, a5, a6⟩

set_option maxRecDepth 100000 in
set_option maxHeartbeats 8000000 in
theorem mwakes_law (CN : MNewC) (CV : MValC) (CP : MPutC) (CT : MTakC) (CF : MFthC) (CB : MBckC) : MWkC := by
  intro w
  have HF1 := Lib.hid (fun (a : Option Addr) (c : Nat) (W : World) (hs : Src W .u8 a [2, 2, 0, 1]) => forth_at CF (q := [2, 2, 0, 1]) (n := 4) (by unfold Byts; decide) rfl (by decide) k_fw.1 a c W hs)
  have HB1 := Lib.hid (fun (a : Option Addr) (c : Nat) (W : World) (hs : Src W .u8 a [2, 0, 1, 2]) => back_at CB (q := [2, 0, 1, 2]) (n := 4) (by unfold Byts; decide) rfl (by decide) k_fw.2 a c W hs)
  have HF0 := Lib.hid (fun (W : World) => forth_at CF (q := []) (n := 0) (by unfold Byts; decide) rfl (by decide) (show fwV idL [] = [] from rfl) none 0 W (Src.nil _ _ _))
  obtain ⟨I, O, Q, hI, hO, hQ, hi255, ⟨ho0, ho1, ho2, ho3⟩, ⟨hq0, hq1⟩, c1, c2, c3, c4, c5, c6, c7⟩ := mwk_all CN CV CP CT CF CB
  have HI255 := Lib.hid hi255
  have HO0 := Lib.hid ho0
  have HO1 := Lib.hid ho1
  have HO2 := Lib.hid ho2
  have HO3 := Lib.hid ho3
  have HQ0 := Lib.hid hq0
  have HQ1 := Lib.hid hq1
  have hk1 := Lib.hid c1
  have hk2 := Lib.hid c2
  have hk3 := Lib.hid c3
  have hk4 := Lib.hid c4
  have hk5 := Lib.hid c5
  have hk6 := Lib.hid c6
  have hk7 := Lib.hid c7
  have HEZ := Lib.hid (fun W => run_eqi_lst W zS_lst zS_lst)
  rw [decide_eq_true rfl] at HEZ
  have hz := lstZ
  have hz0 := ll_size zS_lst
  have hsI := ll_size hI
  have hsO := ll_size hO
  have hsQ := ll_size hQ
  have hzL := zS_lst
  clear CN CV CP CT CF CB hi255 ho0 ho1 ho2 ho3 hq0 hq1 c1 c2 c3 c4 c5 c6 c7
  go_enter Try.func8, Try.ntmps8
  go_upto_region 2 with (first
    | ((with_reducible refine (hk1.out _).mono ?_); rintro e x0 ⟨rfl, hb⟩)
    | (refine wpList_store_row rfl 23 _ _ rfl x0.heap.size (ll I) rfl rfl 23 (ll zS) (heap_alloc_last x0 _) (lstIk hI) (by rw [hz0, hsI]) (ll_all _) ?_))
  rw [World.setRow_alloc_new]
  try simp only [Act.put]
  have hby := hb.alloc (o := .cells (ll I) 23) hb.size
  have Hg0 := Lib.hid (heap_alloc_last x0 (.cells (ll I) 23))
  have HB := Lib.hid hby
  obtain ⟨g0, hg0⟩ : ∃ g0, g0 = x0.heap.size := ⟨_, rfl⟩
  rw [← hg0] at Hg0 ⊢
  clear hg0 hb hby
  generalize x0.alloc (.cells (ll I) 23) = y0 at Hg0 HB ⊢
  have hin := Hg0.out
  go_upto_region 3 with (first
    | (refine wpList_load_row rfl 23 _ rfl g0 rfl 23 (ll I) (0, 0) _ hin Try.underlying23 rfl (lstIk hI) ?_)
    | ((with_reducible refine (hk2.out _).mono ?_); rintro e x1 ⟨rfl, hb⟩)
    | (refine wpList_store_row rfl 23 _ _ rfl x1.heap.size (ll O) rfl rfl 23 (ll zS) (heap_alloc_last x1 _) (lstIk hO) (by rw [hz0, hsO]) (ll_all _) ?_))
  rw [World.setRow_alloc_new]
  try simp only [Act.put]
  have hby := hb.alloc (o := .cells (ll O) 23) hb.size
  have Hg0N := Lib.hid (heap_on hby Hg0.out)
  have Hg1 := Lib.hid (heap_alloc_last x1 (.cells (ll O) 23))
  have HBN := Lib.hid (HB.out.trans (hby.mono HB.out.size))
  replace Hg0 := Hg0N
  clear Hg0N
  replace HB := HBN
  clear HBN
  obtain ⟨g1, hg1⟩ : ∃ g1, g1 = x1.heap.size := ⟨_, rfl⟩
  rw [← hg1] at Hg1 ⊢
  clear hg1 hb hby hin
  generalize x1.alloc (.cells (ll O) 23) = y1 at Hg0 Hg1 HB ⊢
  have hin := Hg1.out
  go_upto_region 4 with (first
    | (refine wpList_load_row rfl 23 _ rfl g1 rfl 23 (ll O) (0, 0) _ hin Try.underlying23 rfl (lstIk hO) ?_)
    | ((with_reducible refine (hk3.out _).mono ?_); rintro e x2 ⟨rfl, hb⟩)
    | (refine wpList_store_row rfl 23 _ _ rfl x2.heap.size (ll Q) rfl rfl 23 (ll zS) (heap_alloc_last x2 _) (lstIk hQ) (by rw [hz0, hsQ]) (ll_all _) ?_))
  rw [World.setRow_alloc_new]
  try simp only [Act.put]
  have hby := hb.alloc (o := .cells (ll Q) 23) hb.size
  have Hg0N := Lib.hid (heap_on hby Hg0.out)
  have Hg1N := Lib.hid (heap_on hby Hg1.out)
  have Hg2 := Lib.hid (heap_alloc_last x2 (.cells (ll Q) 23))
  have HBN := Lib.hid (HB.out.trans (hby.mono HB.out.size))
  replace Hg0 := Hg0N
  clear Hg0N
  replace Hg1 := Hg1N
  clear Hg1N
  replace HB := HBN
  clear HBN
  obtain ⟨g2, hg2⟩ : ∃ g2, g2 = x2.heap.size := ⟨_, rfl⟩
  rw [← hg2] at Hg2 ⊢
  clear hg2 hb hby hin
  generalize x2.alloc (.cells (ll Q) 23) = y2 at Hg0 Hg1 Hg2 HB ⊢
  have hin := Hg1.out
  go_upto_region 5 with (first
    | (refine wpList_load_row rfl 23 _ rfl g1 rfl 23 (ll O) (0, 0) _ hin Try.underlying23 rfl (lstIk hO) ?_)
    | ((with_reducible refine (hk4.out _).mono ?_); rintro e x3 ⟨rfl, hb⟩)
    | (refine wpList_store_row rfl 23 _ _ rfl x3.heap.size (ll O) rfl rfl 23 (ll zS) (heap_alloc_last x3 _) (lstIk hO) (by rw [hz0, hsO]) (ll_all _) ?_))
  rw [World.setRow_alloc_new]
  try simp only [Act.put]
  have hby := hb.alloc (o := .cells (ll O) 23) hb.size
  have Hg0N := Lib.hid (heap_on hby Hg0.out)
  have Hg1N := Lib.hid (heap_on hby Hg1.out)
  have Hg2N := Lib.hid (heap_on hby Hg2.out)
  have Hg3 := Lib.hid (heap_alloc_last x3 (.cells (ll O) 23))
  have HBN := Lib.hid (HB.out.trans (hby.mono HB.out.size))
  replace Hg0 := Hg0N
  clear Hg0N
  replace Hg1 := Hg1N
  clear Hg1N
  replace Hg2 := Hg2N
  clear Hg2N
  replace HB := HBN
  clear HBN
  obtain ⟨g3, hg3⟩ : ∃ g3, g3 = x3.heap.size := ⟨_, rfl⟩
  rw [← hg3] at Hg3 ⊢
  clear hg3 hb hby hin
  generalize x3.alloc (.cells (ll O) 23) = y3 at Hg0 Hg1 Hg2 Hg3 HB ⊢
  go_upto_region 6 with fail
  have hby := (Below.refl y3.heap.size y3).alloc (Nat.le_refl _) (.cells (ll zS) 23)
  have Hg0N := Lib.hid (heap_on hby Hg0.out)
  have Hg1N := Lib.hid (heap_on hby Hg1.out)
  have Hg2N := Lib.hid (heap_on hby Hg2.out)
  have Hg3N := Lib.hid (heap_on hby Hg3.out)
  have Hgz := Lib.hid (heap_alloc_last y3 (.cells (ll zS) 23))
  have HBN := Lib.hid (HB.out.trans (hby.mono HB.out.size))
  replace Hg0 := Hg0N
  clear Hg0N
  replace Hg1 := Hg1N
  clear Hg1N
  replace Hg2 := Hg2N
  clear Hg2N
  replace Hg3 := Hg3N
  clear Hg3N
  replace HB := HBN
  clear HBN
  obtain ⟨gz, hgz⟩ : ∃ gz, gz = y3.heap.size := ⟨_, rfl⟩
  rw [← hgz] at Hgz ⊢
  clear hgz hby
  generalize y3.alloc (.cells (ll zS) 23) = yz at Hg0 Hg1 Hg2 Hg3 Hgz HB ⊢
  have hin := Hgz.out
  go_upto_region 7 with (first
    | (refine wpList_load_row rfl 23 _ rfl gz rfl 23 (ll zS) (0, 0) _ hin Try.underlying23 rfl (lstIk hzL) ?_)
    | ((with_reducible refine (hk5.out _).mono ?_); rintro e x4 ⟨rfl, hb⟩)
    | (refine wpList_store_row rfl 23 _ _ rfl x4.heap.size (ll zS) rfl rfl 23 (ll zS) (heap_alloc_last x4 _) (lstIk hzL) rfl (ll_all _) ?_))
  rw [World.setRow_alloc_new]
  try simp only [Act.put]
  have hby := hb.alloc (o := .cells (ll zS) 23) hb.size
  have Hg0N := Lib.hid (heap_on hby Hg0.out)
  have Hg1N := Lib.hid (heap_on hby Hg1.out)
  have Hg2N := Lib.hid (heap_on hby Hg2.out)
  have Hg3N := Lib.hid (heap_on hby Hg3.out)
  have HgzN := Lib.hid (heap_on hby Hgz.out)
  have Hg4 := Lib.hid (heap_alloc_last x4 (.cells (ll zS) 23))
  have HBN := Lib.hid (HB.out.trans (hby.mono HB.out.size))
  replace Hg0 := Hg0N
  clear Hg0N
  replace Hg1 := Hg1N
  clear Hg1N
  replace Hg2 := Hg2N
  clear Hg2N
  replace Hg3 := Hg3N
  clear Hg3N
  replace Hgz := HgzN
  clear HgzN
  replace HB := HBN
  clear HBN
  obtain ⟨g4, hg4⟩ : ∃ g4, g4 = x4.heap.size := ⟨_, rfl⟩
  rw [← hg4] at Hg4 ⊢
  clear hg4 hb hby hin
  generalize x4.alloc (.cells (ll zS) 23) = y4 at Hg0 Hg1 Hg2 Hg3 Hgz Hg4 HB ⊢
  clear hz hk1 hk2 hk3 hk4 hk5
  go_upto_region 7 with fail
  have hB4 := HB.out
  go_wp2_with (first
    | ((with_reducible refine (HF1.out _ _ _ ?hs).mono ?_)
       (case hs => exact Src.whole (l := [2, 2, 0, 1]) (heap_alloc_last _ _))
       rintro e z1 ⟨v1, rfl, ⟨a1, c1, rfl, hs1⟩, hb1⟩
       have hcv1 := run_bstr (P := Try.prog) byteT u8U strT z1 a1 4 c1 [2, 0, 1, 2] rfl hs1
       rw [show bstr [2, 0, 1, 2] = { data := #[2, 0, 1, 2] } from rfl] at hcv1
       have HZ1 := Lib.hid ((below_al y4 _).trans (hb1.mono (by simp)))
       clear hs1 hb1)
    | ((with_reducible refine (HB1.out _ _ _ ?hs).mono ?_)
       (case hs => exact Src.whole (l := [2, 0, 1, 2]) (heap_alloc_last _ _))
       rintro e z2 ⟨v2, rfl, ⟨a2, c2, rfl, hs2⟩, hb2⟩
       have hcv2 := run_bstr (P := Try.prog) byteT u8U strT z2 a2 4 c2 [2, 2, 0, 1] rfl hs2
       rw [show bstr [2, 2, 0, 1] = { data := #[2, 2, 0, 1] } from rfl] at hcv2
       have HZ2 := Lib.hid (HZ1.out.trans (((below_al z1 _).trans (hb2.mono (by simp))).mono HZ1.out.size))
       have eO0 := ll_cell (heap_on HZ2.out Hg1.out) hO 0 (by decide)
       have eO1 := ll_cell (heap_on HZ2.out Hg1.out) hO 1 (by decide)
       have eO2 := ll_cell (heap_on HZ2.out Hg1.out) hO 2 (by decide)
       have eO3 := ll_cell (heap_on HZ2.out Hg1.out) hO 3 (by decide)
       have eQ0 := ll_cell (heap_on HZ2.out Hg2.out) hQ 0 (by decide)
       have eQ1 := ll_cell (heap_on HZ2.out Hg2.out) hQ 1 (by decide)
       rw [HO0.out] at eO0
       rw [HO1.out] at eO1
       rw [HO2.out] at eO2
       rw [HO3.out] at eO3
       rw [HQ0.out] at eQ0
       rw [HQ1.out] at eQ1
       have heqz := HEZ.out
       clear hs2 hb2)
    | (refine wpList_load_row_g 59 true rfl 95 rfl _ rfl rfl 23 _ rfl g4 rfl 23 (ll zS) (0, 0) _ (heap_on HZ2.out Hg4.out) Try.underlying23 rfl (lstIk hzL) ?_)
    | (refine wpList_load_row_g 59 true rfl 95 rfl _ rfl rfl 23 _ rfl gz rfl 23 (ll zS) (0, 0) _ (heap_on HZ2.out Hgz.out) Try.underlying23 rfl (lstIk hzL) ?_)
    | (refine wpList_load_row_g 64 true rfl 100 rfl _ rfl rfl 23 _ rfl g1 rfl 23 (ll O) (0, 0) _ (heap_on HZ2.out Hg1.out) Try.underlying23 rfl (lstIk hO) ?_)
    | ((with_reducible refine (hk6.out _).mono ?_)
       rintro e z3 ⟨rfl, hb3⟩
       have HZ3 := Lib.hid (HZ2.out.trans (hb3.mono HZ2.out.size))
       clear hb3)
    | (refine wpList_load_row_g 68 true rfl 104 rfl _ rfl rfl 23 _ rfl gz rfl 23 (ll zS) (0, 0) _ (heap_on HZ3.out Hgz.out) Try.underlying23 rfl (lstIk hzL) ?_)
    | ((with_reducible refine (hk7.out _).mono ?_)
       rintro e z4 ⟨rfl, hb4⟩
       have HZ4 := Lib.hid (HZ3.out.trans (hb4.mono HZ3.out.size))
       have eI := ll_cell (heap_on HZ4.out Hg0.out) hI 255 (by decide)
       rw [HI255.out] at eI
       clear hb4)
    | ((with_reducible refine (HF0.out _).mono ?_)
       rintro e z5 ⟨v5, rfl, ⟨a5, c5, rfl, hs5⟩, hb5⟩
       have HZ5 := Lib.hid (HZ4.out.trans (hb5.mono HZ4.out.size))
       clear hs5 hb5))
  go_ret
  exact ⟨rfl, HB.out.trans (HZ5.out.mono HB.out.size)⟩
end Go.Proofs.Ytaemmeofchonaaa
