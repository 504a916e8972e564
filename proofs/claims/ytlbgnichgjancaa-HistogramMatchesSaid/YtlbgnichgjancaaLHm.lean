/- Law HistogramMatches. -/
import Derived.Test.YtlbgnichgjancaaRkR
import Derived.Test.YtlbgnichgjancaaDifR
import Derived.Test.YtlbgnichgjancaaOpL
import Derived.Test.YtlbgnichgjancaaPa
import Derived.Test.YtlbgnichgjancaaWk
import Derived.Test.YtlbgnichgjancaaFrm2
set_option linter.unusedVariables false
set_option linter.unusedSimpArgs false
namespace Go.Proofs.Ytlbgnichgjancaa
open Go.RowKit

set_option maxRecDepth 100000 in
set_option maxHeartbeats 1000000 in
theorem match_out (t : List Int) (sp lp : Option Addr) (n c m d : Nat) (w : World) (h : 300 < n ∨ 20 < m) (hn63 : n ≤ 9223372036854775807) (hm63 : m ≤ 9223372036854775807) :
    Calls Try.prog 3 #[.agg (tl t), .slice sp n c, .slice lp m d] w fun e w' => e = .returned (.bool true) ∧ Below w.heap.size w w' := by
  go_enter Try.func3, Try.ntmps3
  go_upto_region 1 with fail
  have hb := below_al w (.cells (tl t) 23)
  generalize w.alloc (.cells (tl t) 23) = w1 at hb ⊢
  have HB := Lib.hid hb
  clear hb
  by_cases h1 : 300 < n
  · clear h
    go_wp2_with fail
    refine (wakes_call _).mono ?_
    rintro e w5 ⟨rfl, hb5⟩
    have HB5 := Lib.hid (HB.out.trans (hb5.mono HB.out.size))
    clear hb5
    go_wp2_with fail
    go_ret
    exact ⟨rfl, HB5.out⟩
  · have h2 : 20 < m := by omega
    clear h
    go_wp2_with fail
    refine (wakes_call _).mono ?_
    rintro e w5 ⟨rfl, hb5⟩
    have HB5 := Lib.hid (HB.out.trans (hb5.mono HB.out.size))
    clear hb5
    go_wp2_with fail
    go_ret
    exact ⟨rfl, HB5.out⟩

set_option maxRecDepth 100000 in
set_option maxHeartbeats 8000000 in
theorem match_in (t : List Int) (ht : Tal t) (sp lp : Option Addr) (n c m d : Nat) (q : List Int) (L : List (List Int)) (w : World) (hl : q.length = n) (hs : Src w .i64 sp q) (hL : L.length = m) (hS : TSrc w lp L) (hn : n ≤ 300) (hm : m ≤ 20) :
    Calls Try.prog 3 #[.agg (tl t), .slice sp n c, .slice lp m d] w fun e w' => e = .returned (.bool true) ∧ Below w.heap.size w w' := by
  have HOF := Lib.hid (fun (W : World) (hW : Below w.heap.size w W) => of_call sp n c q W hl (hs.below hW) (by omega))
  have HRO := Lib.hid (fun (W : World) (hW : Below w.heap.size w W) => rof_call sp n c q W hl (hs.below hW) (by omega))
  have HAD := Lib.hid (fun (W : World) (hW : Below w.heap.size w W) => add_call t ht sp n c q W hl (hs.below hW) (by omega))
  have HRA := Lib.hid (fun (W : World) (hW : Below w.heap.size w W) => radd_call t ht sp n c q W hl (hs.below hW) (by omega))
  have HVC := Lib.hid (fun (W : World) => valid_call t ht W)
  have HRV := Lib.hid (fun (W : World) => rvalid_call t ht W)
  have HSC := Lib.hid (fun (W : World) => sum_call t ht W)
  have HRS := Lib.hid (fun (W : World) => rsum_call t ht W)
  have HUC := Lib.hid (fun (W : World) => used_call t ht W)
  have HRU := Lib.hid (fun (W : World) => rused_call t ht W)
  have HRC := Lib.hid (fun (W : World) => ranksA_call t ht W)
  have HRR := Lib.hid (fun (W : World) => rranks_call t ht W)
  have HDC := Lib.hid (fun (W : World) (hW : Below w.heap.size w W) => diff_call lp m d L W hL (hS.on hW) (by omega))
  have HRD := Lib.hid (fun (W : World) (hW : Below w.heap.size w W) => rdiff_call lp m d L W hL (hS.on hW) (by omega))
  have hTA := addV_tal zT_tal q (by omega)
  have hTC := addV_tal ht q (by omega)
  have hun := usedV_le t
  have hrn : (rankV t).length ≤ 258 := by rw [rankV_length]; exact hun
  clear hl hs hL hS
  generalize addV zT q = A at hTA HOF HRO
  generalize addE zT q = E at HOF HRO
  generalize addV t q = C at hTC HAD HRA
  generalize addE t q = F at HAD HRA
  generalize decide (VT t) = V at HVC HRV
  generalize sumV t = U at HSC HRS
  generalize usedV t = u at HUC HRU hun
  generalize rankV t = r at HRC HRR hrn
  generalize (dst L).length = D at HDC HRD
  have heqA := fun w => run_eqi_tal w hTA hTA
  rw [decide_eq_true rfl] at heqA
  have heqC := fun w => run_eqi_tal w hTC hTC
  rw [decide_eq_true rfl] at heqC
  have HEA := Lib.hid heqA
  have HEC := Lib.hid heqC
  clear heqA heqC
  go_enter Try.func3, Try.ntmps3
  have hz := talZ
  go_upto_region 1 with fail
  have hg1 := heap_alloc_last w (.cells (tl t) 23)
  have hb1 := below_al w (.cells (tl t) 23)
  generalize w.alloc (.cells (tl t) 23) = w1 at hg1 hb1 ⊢
  have HB1 := Lib.hid hb1
  clear hb1
  go_wp2_with fail
  refine (HOF.out _ HB1.out).mono ?_
  rintro e w2 ⟨rfl, hb2⟩
  have hg2 := heap_on hb2 hg1
  have HB2 := Lib.hid (HB1.out.trans (hb2.mono HB1.out.size))
  clear hb2 HB1 hg1
  go_upto_region 4 with (refine wpList_store_row rfl 23 _ _ rfl w2.heap.size (tl A) rfl rfl 23 (tl zT) (heap_alloc_last w2 _) (talIk hTA) (by rw [tl_size zT_tal, tl_size hTA]) (tl_all _) ?_)
  rw [World.setRow_alloc_new]
  have ha3 := heap_alloc_last w2 (.cells (tl A) 23)
  have hl3 := below_al w2 (.cells (tl A) 23)
  generalize w2.alloc (.cells (tl A) 23) = w3 at ha3 hl3 ⊢
  have hg3 := heap_on hl3 hg2
  have HB3 := Lib.hid (HB2.out.trans (hl3.mono HB2.out.size))
  clear hl3 HB2 hg2
  go_wp2_with fail
  refine (HRO.out _ HB3.out).mono ?_
  rintro e w4 ⟨rfl, hb4⟩
  have hg4 := heap_on hb4 hg3
  have ha4 := heap_on hb4 ha3
  have HB4 := Lib.hid (HB3.out.trans (hb4.mono HB3.out.size))
  clear hb4 HB3 hg3 ha3
  go_upto_region 5 with (refine wpList_store_row rfl 23 _ _ rfl w4.heap.size (tl A) rfl rfl 23 (tl zT) (heap_alloc_last w4 _) (talIk hTA) (by rw [tl_size zT_tal, tl_size hTA]) (tl_all _) ?_)
  rw [World.setRow_alloc_new]
  have hc5 := heap_alloc_last w4 (.cells (tl A) 23)
  have hl5 := below_al w4 (.cells (tl A) 23)
  generalize w4.alloc (.cells (tl A) 23) = w5 at hc5 hl5 ⊢
  have hg5 := heap_on hl5 hg4
  have ha5 := heap_on hl5 ha4
  have HB5 := Lib.hid (HB4.out.trans (hl5.mono HB4.out.size))
  clear hl5 HB4 hg4 ha4
  go_wp2_with (refine wpList_load_row rfl 23 _ rfl w.heap.size rfl 23 (tl t) (0, 0) _ hg5 Try.underlying23 rfl (talIk ht) ?_)
  refine (HAD.out _ HB5.out).mono ?_
  rintro e w6 ⟨rfl, hb6⟩
  have hg6 := heap_on hb6 hg5
  have ha6 := heap_on hb6 ha5
  have hc6 := heap_on hb6 hc5
  have HB6 := Lib.hid (HB5.out.trans (hb6.mono HB5.out.size))
  clear hb6 HB5 hg5 ha5 hc5
  go_upto_region 6 with (refine wpList_store_row rfl 23 _ _ rfl w6.heap.size (tl C) rfl rfl 23 (tl zT) (heap_alloc_last w6 _) (talIk hTC) (by rw [tl_size zT_tal, tl_size hTC]) (tl_all _) ?_)
  rw [World.setRow_alloc_new]
  have he7 := heap_alloc_last w6 (.cells (tl C) 23)
  have hl7 := below_al w6 (.cells (tl C) 23)
  generalize w6.alloc (.cells (tl C) 23) = w7 at he7 hl7 ⊢
  have hg7 := heap_on hl7 hg6
  have ha7 := heap_on hl7 ha6
  have hc7 := heap_on hl7 hc6
  have HB7 := Lib.hid (HB6.out.trans (hl7.mono HB6.out.size))
  clear hl7 HB6 hg6 ha6 hc6
  go_wp2_with (refine wpList_load_row rfl 23 _ rfl w.heap.size rfl 23 (tl t) (0, 0) _ hg7 Try.underlying23 rfl (talIk ht) ?_)
  refine (HRA.out _ HB7.out).mono ?_
  rintro e w8 ⟨rfl, hb8⟩
  have hg8 := heap_on hb8 hg7
  have ha8 := heap_on hb8 ha7
  have hc8 := heap_on hb8 hc7
  have he8 := heap_on hb8 he7
  have HB8 := Lib.hid (HB7.out.trans (hb8.mono HB7.out.size))
  clear hb8 HB7 hg7 ha7 hc7 he7
  go_upto_region 7 with (refine wpList_store_row rfl 23 _ _ rfl w8.heap.size (tl C) rfl rfl 23 (tl zT) (heap_alloc_last w8 _) (talIk hTC) (by rw [tl_size zT_tal, tl_size hTC]) (tl_all _) ?_)
  rw [World.setRow_alloc_new]
  have hi9 := heap_alloc_last w8 (.cells (tl C) 23)
  have hl9 := below_al w8 (.cells (tl C) 23)
  generalize w8.alloc (.cells (tl C) 23) = w9 at hi9 hl9 ⊢
  have hg9 := heap_on hl9 hg8
  have ha9 := heap_on hl9 ha8
  have hc9 := heap_on hl9 hc8
  have he9 := heap_on hl9 he8
  have HB9 := Lib.hid (HB8.out.trans (hl9.mono HB8.out.size))
  clear hl9 HB8 hg8 ha8 hc8 he8
  clear hz
  go_upto_region 7 with fail
  refine wp_region_frame (J := Js [eqv (.agg (tl A)), eqv (.agg (tl A)), eqv (.bool false), eqv (.bool false), eqv (.int .i64 E), eqv (.int .i64 E), eqv (.bool false), eqv (.bool false), eqv (.bool false), eqv (.agg (tl C)), eqv (.agg (tl C)), eqv (.bool false), eqv (.bool false), eqv (.bool false), eqv (.int .i64 F), eqv (.int .i64 F), eqv (.bool false), eqv (.bool false), eqv (.bool false), eqv (.agg (tl t)), eqv (.bool V), eqv (.agg (tl t)), eqv (.bool V), eqv (.bool false), eqv (.bool false), eqv (.bool false), eqv (.agg (tl t)), eqv (.int .i64 U), eqv (.agg (tl t)), eqv (.int .i64 U), eqv (.bool false), eqv (.bool false)]) (ds := [46, 47, 48, 49, 50, 51, 52, 53, 54, 55, 56, 57, 58, 59, 60, 61, 62, 63, 64, 65, 66, 67, 68, 69, 70, 71, 72, 73, 74, 75, 76, 77]) (N := 100)
    (B := [(3, .pointer (some ⟨w.heap.size, 0, none⟩)), (7, .pointer (some ⟨w2.heap.size, 0, none⟩)), (8, .int .i64 E), (9, .pointer (some ⟨w4.heap.size, 0, none⟩)), (10, .int .i64 E), (11, .pointer (some ⟨w6.heap.size, 0, none⟩)), (12, .int .i64 F), (13, .pointer (some ⟨w8.heap.size, 0, none⟩)), (14, .int .i64 F)]) (by kernel_rfl) (by kernel_rfl) (Js_mono ⟨eqv_mono _, eqv_mono _, eqv_mono _, eqv_mono _, eqv_mono _, eqv_mono _, eqv_mono _, eqv_mono _, eqv_mono _, eqv_mono _, eqv_mono _, eqv_mono _, eqv_mono _, eqv_mono _, eqv_mono _, eqv_mono _, eqv_mono _, eqv_mono _, eqv_mono _, eqv_mono _, eqv_mono _, eqv_mono _, eqv_mono _, eqv_mono _, eqv_mono _, eqv_mono _, eqv_mono _, eqv_mono _, eqv_mono _, eqv_mono _, eqv_mono _, eqv_mono _, trivial⟩) rfl rfl (by simp) ?_ ?_
  · refine ⟨?_, ?_, ?_, ?_, ?_, ?_, ?_, ?_, ?_, ?_, ?_, ?_, ?_, ?_, ?_, ?_, ?_, ?_, ?_, ?_, ?_, ?_, ?_, ?_, ?_, ?_, ?_, ?_, ?_, ?_, ?_, ?_, trivial⟩
    · intro a w' hb hdep K hK
      have c7 := hb.at 1 7 _ rfl
      clear hdep
      exact wp_load_row 23 _ rfl w2.heap.size (by simp [Act.eval, c7]) 23 (tl A) (0, 0) _ (heap_on hb.bel ha9) Try.underlying23 rfl (talIk hTA) (hK _ _ rfl (Below.refl _ _))
    · intro a w' hb hdep K hK
      have c9 := hb.at 3 9 _ rfl
      clear hdep
      exact wp_load_row 23 _ rfl w4.heap.size (by simp [Act.eval, c9]) 23 (tl A) (0, 0) _ (heap_on hb.bel hc9) Try.underlying23 rfl (talIk hTA) (hK _ _ rfl (Below.refl _ _))
    · intro a w' hb hdep K hK
      obtain ⟨v0, e0, j0⟩ := hdep 0 (by kernel_rfl)
      replace e0 : a.tmps[46]? = some v0 := e0
      obtain rfl : v0 = _ := j0
      obtain ⟨v1, e1, j1⟩ := hdep 1 (by kernel_rfl)
      replace e1 : a.tmps[47]? = some v1 := e1
      obtain rfl : v1 = _ := j1
      have hqe := HEA.out
      clear hdep
      go_simp
      exact hK _ _ rfl (Below.refl _ _)
    · intro a w' hb hdep K hK
      obtain ⟨v2, e2, j2⟩ := hdep 2 (by kernel_rfl)
      replace e2 : a.tmps[48]? = some v2 := e2
      obtain rfl : v2 = _ := j2
      clear hdep
      go_simp
      exact hK _ _ rfl (Below.refl _ _)
    · intro a w' hb hdep K hK
      have c8 := hb.at 2 8 _ rfl
      obtain ⟨v3, e3, j3⟩ := hdep 3 (by kernel_rfl)
      replace e3 : a.tmps[49]? = some v3 := e3
      obtain rfl : v3 = _ := j3
      clear hdep
      go_simp
      exact hK _ _ rfl (Below.refl _ _)
    · intro a w' hb hdep K hK
      have c10 := hb.at 4 10 _ rfl
      obtain ⟨v3, e3, j3⟩ := hdep 3 (by kernel_rfl)
      replace e3 : a.tmps[49]? = some v3 := e3
      obtain rfl : v3 = _ := j3
      clear hdep
      go_simp
      exact hK _ _ rfl (Below.refl _ _)
    · intro a w' hb hdep K hK
      obtain ⟨v4, e4, j4⟩ := hdep 4 (by kernel_rfl)
      replace e4 : a.tmps[50]? = some v4 := e4
      obtain rfl : v4 = _ := j4
      obtain ⟨v5, e5, j5⟩ := hdep 5 (by kernel_rfl)
      replace e5 : a.tmps[51]? = some v5 := e5
      obtain rfl : v5 = _ := j5
      obtain ⟨v3, e3, j3⟩ := hdep 3 (by kernel_rfl)
      replace e3 : a.tmps[49]? = some v3 := e3
      obtain rfl : v3 = _ := j3
      clear hdep
      go_simp
      exact hK _ _ rfl (Below.refl _ _)
    · intro a w' hb hdep K hK
      obtain ⟨v3, e3, j3⟩ := hdep 3 (by kernel_rfl)
      replace e3 : a.tmps[49]? = some v3 := e3
      obtain rfl : v3 = _ := j3
      obtain ⟨v6, e6, j6⟩ := hdep 6 (by kernel_rfl)
      replace e6 : a.tmps[52]? = some v6 := e6
      obtain rfl : v6 = _ := j6
      clear hdep
      go_simp
      exact hK _ _ rfl (Below.refl _ _)
    · intro a w' hb hdep K hK
      obtain ⟨v7, e7, j7⟩ := hdep 7 (by kernel_rfl)
      replace e7 : a.tmps[53]? = some v7 := e7
      obtain rfl : v7 = _ := j7
      clear hdep
      go_simp
      exact hK _ _ rfl (Below.refl _ _)
    · intro a w' hb hdep K hK
      have c11 := hb.at 5 11 _ rfl
      obtain ⟨v8, e8, j8⟩ := hdep 8 (by kernel_rfl)
      replace e8 : a.tmps[54]? = some v8 := e8
      obtain rfl : v8 = _ := j8
      clear hdep
      refine wanted_row 8 false rfl 54 rfl (by assumption) 23 _ rfl w6.heap.size (by simp [Act.eval, c11]) 23 (tl C) (0, 0) _ (heap_on hb.bel he9) Try.underlying23 rfl (talIk hTC) ?_
      exact hK _ _ rfl (Below.refl _ _)
    · intro a w' hb hdep K hK
      have c13 := hb.at 7 13 _ rfl
      obtain ⟨v8, e8, j8⟩ := hdep 8 (by kernel_rfl)
      replace e8 : a.tmps[54]? = some v8 := e8
      obtain rfl : v8 = _ := j8
      clear hdep
      refine wanted_row 8 false rfl 54 rfl (by assumption) 23 _ rfl w8.heap.size (by simp [Act.eval, c13]) 23 (tl C) (0, 0) _ (heap_on hb.bel hi9) Try.underlying23 rfl (talIk hTC) ?_
      exact hK _ _ rfl (Below.refl _ _)
    · intro a w' hb hdep K hK
      obtain ⟨v9, e9, j9⟩ := hdep 9 (by kernel_rfl)
      replace e9 : a.tmps[55]? = some v9 := e9
      obtain rfl : v9 = _ := j9
      obtain ⟨v10, e10, j10⟩ := hdep 10 (by kernel_rfl)
      replace e10 : a.tmps[56]? = some v10 := e10
      obtain rfl : v10 = _ := j10
      obtain ⟨v8, e8, j8⟩ := hdep 8 (by kernel_rfl)
      replace e8 : a.tmps[54]? = some v8 := e8
      obtain rfl : v8 = _ := j8
      have hqe := HEC.out
      clear hdep
      go_simp
      exact hK _ _ rfl (Below.refl _ _)
    · intro a w' hb hdep K hK
      obtain ⟨v8, e8, j8⟩ := hdep 8 (by kernel_rfl)
      replace e8 : a.tmps[54]? = some v8 := e8
      obtain rfl : v8 = _ := j8
      obtain ⟨v11, e11, j11⟩ := hdep 11 (by kernel_rfl)
      replace e11 : a.tmps[57]? = some v11 := e11
      obtain rfl : v11 = _ := j11
      clear hdep
      go_simp
      exact hK _ _ rfl (Below.refl _ _)
    · intro a w' hb hdep K hK
      obtain ⟨v12, e12, j12⟩ := hdep 12 (by kernel_rfl)
      replace e12 : a.tmps[58]? = some v12 := e12
      obtain rfl : v12 = _ := j12
      clear hdep
      go_simp
      exact hK _ _ rfl (Below.refl _ _)
    · intro a w' hb hdep K hK
      have c12 := hb.at 6 12 _ rfl
      obtain ⟨v13, e13, j13⟩ := hdep 13 (by kernel_rfl)
      replace e13 : a.tmps[59]? = some v13 := e13
      obtain rfl : v13 = _ := j13
      clear hdep
      go_simp
      exact hK _ _ rfl (Below.refl _ _)
    · intro a w' hb hdep K hK
      have c14 := hb.at 8 14 _ rfl
      obtain ⟨v13, e13, j13⟩ := hdep 13 (by kernel_rfl)
      replace e13 : a.tmps[59]? = some v13 := e13
      obtain rfl : v13 = _ := j13
      clear hdep
      go_simp
      exact hK _ _ rfl (Below.refl _ _)
    · intro a w' hb hdep K hK
      obtain ⟨v14, e14, j14⟩ := hdep 14 (by kernel_rfl)
      replace e14 : a.tmps[60]? = some v14 := e14
      obtain rfl : v14 = _ := j14
      obtain ⟨v15, e15, j15⟩ := hdep 15 (by kernel_rfl)
      replace e15 : a.tmps[61]? = some v15 := e15
      obtain rfl : v15 = _ := j15
      obtain ⟨v13, e13, j13⟩ := hdep 13 (by kernel_rfl)
      replace e13 : a.tmps[59]? = some v13 := e13
      obtain rfl : v13 = _ := j13
      clear hdep
      go_simp
      exact hK _ _ rfl (Below.refl _ _)
    · intro a w' hb hdep K hK
      obtain ⟨v13, e13, j13⟩ := hdep 13 (by kernel_rfl)
      replace e13 : a.tmps[59]? = some v13 := e13
      obtain rfl : v13 = _ := j13
      obtain ⟨v16, e16, j16⟩ := hdep 16 (by kernel_rfl)
      replace e16 : a.tmps[62]? = some v16 := e16
      obtain rfl : v16 = _ := j16
      clear hdep
      go_simp
      exact hK _ _ rfl (Below.refl _ _)
    · intro a w' hb hdep K hK
      obtain ⟨v17, e17, j17⟩ := hdep 17 (by kernel_rfl)
      replace e17 : a.tmps[63]? = some v17 := e17
      obtain rfl : v17 = _ := j17
      clear hdep
      go_simp
      exact hK _ _ rfl (Below.refl _ _)
    · intro a w' hb hdep K hK
      have c3 := hb.at 0 3 _ rfl
      obtain ⟨v18, e18, j18⟩ := hdep 18 (by kernel_rfl)
      replace e18 : a.tmps[64]? = some v18 := e18
      obtain rfl : v18 = _ := j18
      clear hdep
      refine wanted_row 18 false rfl 64 rfl (by assumption) 23 _ rfl w.heap.size (by simp [Act.eval, c3]) 23 (tl t) (0, 0) _ (heap_on hb.bel hg9) Try.underlying23 rfl (talIk ht) ?_
      exact hK _ _ rfl (Below.refl _ _)
    · intro a w' hb hdep K hK
      obtain ⟨v19, e19, j19⟩ := hdep 19 (by kernel_rfl)
      replace e19 : a.tmps[65]? = some v19 := e19
      obtain rfl : v19 = _ := j19
      obtain ⟨v18, e18, j18⟩ := hdep 18 (by kernel_rfl)
      replace e18 : a.tmps[64]? = some v18 := e18
      obtain rfl : v18 = _ := j18
      clear hdep
      go_simp
      go_at_call 12
      refine (HVC.out w').mono ?_
      rintro e w20 ⟨rfl, hb20⟩
      exact hK _ _ rfl hb20
    · intro a w' hb hdep K hK
      have c3 := hb.at 0 3 _ rfl
      obtain ⟨v18, e18, j18⟩ := hdep 18 (by kernel_rfl)
      replace e18 : a.tmps[64]? = some v18 := e18
      obtain rfl : v18 = _ := j18
      clear hdep
      refine wanted_row 18 false rfl 64 rfl (by assumption) 23 _ rfl w.heap.size (by simp [Act.eval, c3]) 23 (tl t) (0, 0) _ (heap_on hb.bel hg9) Try.underlying23 rfl (talIk ht) ?_
      exact hK _ _ rfl (Below.refl _ _)
    · intro a w' hb hdep K hK
      obtain ⟨v21, e21, j21⟩ := hdep 21 (by kernel_rfl)
      replace e21 : a.tmps[67]? = some v21 := e21
      obtain rfl : v21 = _ := j21
      obtain ⟨v18, e18, j18⟩ := hdep 18 (by kernel_rfl)
      replace e18 : a.tmps[64]? = some v18 := e18
      obtain rfl : v18 = _ := j18
      clear hdep
      go_simp
      go_at_call 13
      refine (HRV.out w').mono ?_
      rintro e w20 ⟨rfl, hb20⟩
      exact hK _ _ rfl hb20
    · intro a w' hb hdep K hK
      obtain ⟨v20, e20, j20⟩ := hdep 20 (by kernel_rfl)
      replace e20 : a.tmps[66]? = some v20 := e20
      obtain rfl : v20 = _ := j20
      obtain ⟨v22, e22, j22⟩ := hdep 22 (by kernel_rfl)
      replace e22 : a.tmps[68]? = some v22 := e22
      obtain rfl : v22 = _ := j22
      obtain ⟨v18, e18, j18⟩ := hdep 18 (by kernel_rfl)
      replace e18 : a.tmps[64]? = some v18 := e18
      obtain rfl : v18 = _ := j18
      clear hdep
      go_simp
      exact hK _ _ rfl (Below.refl _ _)
    · intro a w' hb hdep K hK
      obtain ⟨v18, e18, j18⟩ := hdep 18 (by kernel_rfl)
      replace e18 : a.tmps[64]? = some v18 := e18
      obtain rfl : v18 = _ := j18
      obtain ⟨v23, e23, j23⟩ := hdep 23 (by kernel_rfl)
      replace e23 : a.tmps[69]? = some v23 := e23
      obtain rfl : v23 = _ := j23
      clear hdep
      go_simp
      exact hK _ _ rfl (Below.refl _ _)
    · intro a w' hb hdep K hK
      obtain ⟨v24, e24, j24⟩ := hdep 24 (by kernel_rfl)
      replace e24 : a.tmps[70]? = some v24 := e24
      obtain rfl : v24 = _ := j24
      clear hdep
      go_simp
      exact hK _ _ rfl (Below.refl _ _)
    · intro a w' hb hdep K hK
      have c3 := hb.at 0 3 _ rfl
      obtain ⟨v25, e25, j25⟩ := hdep 25 (by kernel_rfl)
      replace e25 : a.tmps[71]? = some v25 := e25
      obtain rfl : v25 = _ := j25
      clear hdep
      refine wanted_row 25 false rfl 71 rfl (by assumption) 23 _ rfl w.heap.size (by simp [Act.eval, c3]) 23 (tl t) (0, 0) _ (heap_on hb.bel hg9) Try.underlying23 rfl (talIk ht) ?_
      exact hK _ _ rfl (Below.refl _ _)
    · intro a w' hb hdep K hK
      obtain ⟨v26, e26, j26⟩ := hdep 26 (by kernel_rfl)
      replace e26 : a.tmps[72]? = some v26 := e26
      obtain rfl : v26 = _ := j26
      obtain ⟨v25, e25, j25⟩ := hdep 25 (by kernel_rfl)
      replace e25 : a.tmps[71]? = some v25 := e25
      obtain rfl : v25 = _ := j25
      clear hdep
      go_simp
      go_at_call 14
      refine (HSC.out w').mono ?_
      rintro e w20 ⟨rfl, hb20⟩
      exact hK _ _ rfl hb20
    · intro a w' hb hdep K hK
      have c3 := hb.at 0 3 _ rfl
      obtain ⟨v25, e25, j25⟩ := hdep 25 (by kernel_rfl)
      replace e25 : a.tmps[71]? = some v25 := e25
      obtain rfl : v25 = _ := j25
      clear hdep
      refine wanted_row 25 false rfl 71 rfl (by assumption) 23 _ rfl w.heap.size (by simp [Act.eval, c3]) 23 (tl t) (0, 0) _ (heap_on hb.bel hg9) Try.underlying23 rfl (talIk ht) ?_
      exact hK _ _ rfl (Below.refl _ _)
    · intro a w' hb hdep K hK
      obtain ⟨v28, e28, j28⟩ := hdep 28 (by kernel_rfl)
      replace e28 : a.tmps[74]? = some v28 := e28
      obtain rfl : v28 = _ := j28
      obtain ⟨v25, e25, j25⟩ := hdep 25 (by kernel_rfl)
      replace e25 : a.tmps[71]? = some v25 := e25
      obtain rfl : v25 = _ := j25
      clear hdep
      go_simp
      go_at_call 15
      refine (HRS.out w').mono ?_
      rintro e w20 ⟨rfl, hb20⟩
      exact hK _ _ rfl hb20
    · intro a w' hb hdep K hK
      obtain ⟨v27, e27, j27⟩ := hdep 27 (by kernel_rfl)
      replace e27 : a.tmps[73]? = some v27 := e27
      obtain rfl : v27 = _ := j27
      obtain ⟨v29, e29, j29⟩ := hdep 29 (by kernel_rfl)
      replace e29 : a.tmps[75]? = some v29 := e29
      obtain rfl : v29 = _ := j29
      obtain ⟨v25, e25, j25⟩ := hdep 25 (by kernel_rfl)
      replace e25 : a.tmps[71]? = some v25 := e25
      obtain rfl : v25 = _ := j25
      clear hdep
      go_simp
      exact hK _ _ rfl (Below.refl _ _)
    · intro a w' hb hdep K hK
      obtain ⟨v25, e25, j25⟩ := hdep 25 (by kernel_rfl)
      replace e25 : a.tmps[71]? = some v25 := e25
      obtain rfl : v25 = _ := j25
      obtain ⟨v30, e30, j30⟩ := hdep 30 (by kernel_rfl)
      replace e30 : a.tmps[76]? = some v30 := e30
      obtain rfl : v30 = _ := j30
      clear hdep
      go_simp
      exact hK _ _ rfl (Below.refl _ _)
  · intro vs w' hvl hall hb
    match vs, hvl with
    | [v0, v1, v2, v3, v4, v5, v6, v7, v8, v9, v10, v11, v12, v13, v14, v15, v16, v17, v18, v19, v20, v21, v22, v23, v24, v25, v26, v27, v28, v29, v30, v31], _ =>
      obtain rfl : v0 = _ := hall 0 (by decide)
      obtain rfl : v1 = _ := hall 1 (by decide)
      obtain rfl : v2 = _ := hall 2 (by decide)
      obtain rfl : v3 = _ := hall 3 (by decide)
      obtain rfl : v4 = _ := hall 4 (by decide)
      obtain rfl : v5 = _ := hall 5 (by decide)
      obtain rfl : v6 = _ := hall 6 (by decide)
      obtain rfl : v7 = _ := hall 7 (by decide)
      obtain rfl : v8 = _ := hall 8 (by decide)
      obtain rfl : v9 = _ := hall 9 (by decide)
      obtain rfl : v10 = _ := hall 10 (by decide)
      obtain rfl : v11 = _ := hall 11 (by decide)
      obtain rfl : v12 = _ := hall 12 (by decide)
      obtain rfl : v13 = _ := hall 13 (by decide)
      obtain rfl : v14 = _ := hall 14 (by decide)
      obtain rfl : v15 = _ := hall 15 (by decide)
      obtain rfl : v16 = _ := hall 16 (by decide)
      obtain rfl : v17 = _ := hall 17 (by decide)
      obtain rfl : v18 = _ := hall 18 (by decide)
      obtain rfl : v19 = _ := hall 19 (by decide)
      obtain rfl : v20 = _ := hall 20 (by decide)
      obtain rfl : v21 = _ := hall 21 (by decide)
      obtain rfl : v22 = _ := hall 22 (by decide)
      obtain rfl : v23 = _ := hall 23 (by decide)
      obtain rfl : v24 = _ := hall 24 (by decide)
      obtain rfl : v25 = _ := hall 25 (by decide)
      obtain rfl : v26 = _ := hall 26 (by decide)
      obtain rfl : v27 = _ := hall 27 (by decide)
      obtain rfl : v28 = _ := hall 28 (by decide)
      obtain rfl : v29 = _ := hall 29 (by decide)
      obtain rfl : v30 = _ := hall 30 (by decide)
      obtain rfl : v31 = _ := hall 31 (by decide)
      simp only [putAll, List.setIfInBounds_toArray, List.set_cons_zero, List.set_cons_succ]
      have hg10 := heap_on hb hg9
      have HB10 := Lib.hid (HB9.out.trans (hb.mono HB9.out.size))
      clear hb hg9 HB9 ha9 hc9 he9 hi9 hvl hall HEA HEC HOF HRO HAD HRA HVC HRV HSC HRS
      go_upto_region 9 with fail
      refine wp_region_frame (J := Js [eqv (.agg (tl t)), IsL u.length u, eqv (.agg (tl t)), IsL u.length u, eqv (.bool true), eqv (.bool true), eqv (.agg (tl t)), IsL r.length r, eqv (.agg (tl t)), IsL r.length r, eqv (.bool true), eqv (.bool true), eqv (.bool true), eqv (.slice lp m d), eqv (.int .i64 D), eqv (.slice lp m d), eqv (.int .i64 D), eqv (.bool true), eqv (.bool true), eqv (.bool true), eqv (.bool true), eqv (.bool true), eqv (.bool true)]) (ds := [78, 79, 80, 81, 82, 83, 84, 85, 86, 87, 88, 89, 90, 91, 92, 93, 94, 95, 96, 97, 98, 99, 6]) (N := 100)
        (B := [(2, .slice lp m d), (3, .pointer (some ⟨w.heap.size, 0, none⟩))]) (by kernel_rfl) (by kernel_rfl) (Js_mono ⟨eqv_mono _, IsL_mono _ _, eqv_mono _, IsL_mono _ _, eqv_mono _, eqv_mono _, eqv_mono _, IsL_mono _ _, eqv_mono _, IsL_mono _ _, eqv_mono _, eqv_mono _, eqv_mono _, eqv_mono _, eqv_mono _, eqv_mono _, eqv_mono _, eqv_mono _, eqv_mono _, eqv_mono _, eqv_mono _, eqv_mono _, eqv_mono _, trivial⟩) rfl rfl (by simp) ?_ ?_
      · refine ⟨?_, ?_, ?_, ?_, ?_, ?_, ?_, ?_, ?_, ?_, ?_, ?_, ?_, ?_, ?_, ?_, ?_, ?_, ?_, ?_, ?_, ?_, ?_, trivial⟩
        · intro a w' hb hdep K hK
          have c3 := hb.at 1 3 _ rfl
          clear hdep
          exact wp_load_row 23 _ rfl w.heap.size (by simp [Act.eval, c3]) 23 (tl t) (0, 0) _ (heap_on hb.bel hg10) Try.underlying23 rfl (talIk ht) (hK _ _ rfl (Below.refl _ _))
        · intro a w' hb hdep K hK
          obtain ⟨v0, e0, j0⟩ := hdep 0 (by kernel_rfl)
          replace e0 : a.tmps[78]? = some v0 := e0
          obtain rfl : v0 = _ := j0
          clear hdep
          go_simp
          go_at_call 17
          refine (HUC.out w').mono ?_
          rintro e w20 ⟨a20, c20, rfl, hn20⟩
          exact hK _ _ ⟨_, _, rfl, hn20.win.src⟩ hn20.bel
        · intro a w' hb hdep K hK
          have c3 := hb.at 1 3 _ rfl
          clear hdep
          exact wp_load_row 23 _ rfl w.heap.size (by simp [Act.eval, c3]) 23 (tl t) (0, 0) _ (heap_on hb.bel hg10) Try.underlying23 rfl (talIk ht) (hK _ _ rfl (Below.refl _ _))
        · intro a w' hb hdep K hK
          obtain ⟨v2, e2, j2⟩ := hdep 2 (by kernel_rfl)
          replace e2 : a.tmps[80]? = some v2 := e2
          obtain rfl : v2 = _ := j2
          clear hdep
          go_simp
          go_at_call 18
          refine (HRU.out w').mono ?_
          rintro e w20 ⟨a20, c20, rfl, hn20⟩
          exact hK _ _ ⟨_, _, rfl, hn20.win.src⟩ hn20.bel
        · intro a w' hb hdep K hK
          obtain ⟨v1, e1, j1⟩ := hdep 1 (by kernel_rfl)
          replace e1 : a.tmps[79]? = some v1 := e1
          obtain ⟨v3, e3, j3⟩ := hdep 3 (by kernel_rfl)
          replace e3 : a.tmps[81]? = some v3 := e3
          clear hdep
          obtain ⟨a1, c1, rfl, s1⟩ := j1
          obtain ⟨a3, c3, rfl, s3⟩ := j3
          go_simp
          go_at_call 16
          refine (ints_call a1 a3 u.length u.length c1 c3 u u w' rfl rfl s1 s3 (by omega) (by omega)).mono ?_
          rintro e w20 ⟨rfl, hb20⟩
          exact hK _ _ (by rw [decide_eq_true rfl]; rfl) hb20
        · intro a w' hb hdep K hK
          obtain ⟨v4, e4, j4⟩ := hdep 4 (by kernel_rfl)
          replace e4 : a.tmps[82]? = some v4 := e4
          obtain rfl : v4 = _ := j4
          clear hdep
          go_simp
          exact hK _ _ rfl (Below.refl _ _)
        · intro a w' hb hdep K hK
          have c3 := hb.at 1 3 _ rfl
          obtain ⟨v5, e5, j5⟩ := hdep 5 (by kernel_rfl)
          replace e5 : a.tmps[83]? = some v5 := e5
          obtain rfl : v5 = _ := j5
          clear hdep
          refine wanted_row 5 true rfl 83 rfl (by assumption) 23 _ rfl w.heap.size (by simp [Act.eval, c3]) 23 (tl t) (0, 0) _ (heap_on hb.bel hg10) Try.underlying23 rfl (talIk ht) ?_
          exact hK _ _ rfl (Below.refl _ _)
        · intro a w' hb hdep K hK
          obtain ⟨v6, e6, j6⟩ := hdep 6 (by kernel_rfl)
          replace e6 : a.tmps[84]? = some v6 := e6
          obtain rfl : v6 = _ := j6
          obtain ⟨v5, e5, j5⟩ := hdep 5 (by kernel_rfl)
          replace e5 : a.tmps[83]? = some v5 := e5
          obtain rfl : v5 = _ := j5
          clear hdep
          go_simp
          go_at_call 19
          refine (HRC.out w').mono ?_
          rintro e w20 ⟨a20, c20, rfl, hn20⟩
          exact hK _ _ ⟨_, _, rfl, hn20.win.src⟩ hn20.bel
        · intro a w' hb hdep K hK
          have c3 := hb.at 1 3 _ rfl
          obtain ⟨v5, e5, j5⟩ := hdep 5 (by kernel_rfl)
          replace e5 : a.tmps[83]? = some v5 := e5
          obtain rfl : v5 = _ := j5
          clear hdep
          refine wanted_row 5 true rfl 83 rfl (by assumption) 23 _ rfl w.heap.size (by simp [Act.eval, c3]) 23 (tl t) (0, 0) _ (heap_on hb.bel hg10) Try.underlying23 rfl (talIk ht) ?_
          exact hK _ _ rfl (Below.refl _ _)
        · intro a w' hb hdep K hK
          obtain ⟨v8, e8, j8⟩ := hdep 8 (by kernel_rfl)
          replace e8 : a.tmps[86]? = some v8 := e8
          obtain rfl : v8 = _ := j8
          obtain ⟨v5, e5, j5⟩ := hdep 5 (by kernel_rfl)
          replace e5 : a.tmps[83]? = some v5 := e5
          obtain rfl : v5 = _ := j5
          clear hdep
          go_simp
          go_at_call 20
          refine (HRR.out w').mono ?_
          rintro e w20 ⟨a20, c20, rfl, hn20⟩
          exact hK _ _ ⟨_, _, rfl, hn20.win.src⟩ hn20.bel
        · intro a w' hb hdep K hK
          obtain ⟨v7, e7, j7⟩ := hdep 7 (by kernel_rfl)
          replace e7 : a.tmps[85]? = some v7 := e7
          obtain ⟨v9, e9, j9⟩ := hdep 9 (by kernel_rfl)
          replace e9 : a.tmps[87]? = some v9 := e9
          obtain ⟨v5, e5, j5⟩ := hdep 5 (by kernel_rfl)
          replace e5 : a.tmps[83]? = some v5 := e5
          obtain rfl : v5 = _ := j5
          clear hdep
          obtain ⟨a7, c7, rfl, s7⟩ := j7
          obtain ⟨a9, c9, rfl, s9⟩ := j9
          go_simp
          go_at_call 16
          refine (ints_call a7 a9 r.length r.length c7 c9 r r w' rfl rfl s7 s9 (by omega) (by omega)).mono ?_
          rintro e w20 ⟨rfl, hb20⟩
          exact hK _ _ (by rw [decide_eq_true rfl]; rfl) hb20
        · intro a w' hb hdep K hK
          obtain ⟨v5, e5, j5⟩ := hdep 5 (by kernel_rfl)
          replace e5 : a.tmps[83]? = some v5 := e5
          obtain rfl : v5 = _ := j5
          obtain ⟨v10, e10, j10⟩ := hdep 10 (by kernel_rfl)
          replace e10 : a.tmps[88]? = some v10 := e10
          obtain rfl : v10 = _ := j10
          clear hdep
          go_simp
          exact hK _ _ rfl (Below.refl _ _)
        · intro a w' hb hdep K hK
          obtain ⟨v11, e11, j11⟩ := hdep 11 (by kernel_rfl)
          replace e11 : a.tmps[89]? = some v11 := e11
          obtain rfl : v11 = _ := j11
          clear hdep
          go_simp
          exact hK _ _ rfl (Below.refl _ _)
        · intro a w' hb hdep K hK
          have c2 := hb.at 0 2 _ rfl
          obtain ⟨v12, e12, j12⟩ := hdep 12 (by kernel_rfl)
          replace e12 : a.tmps[90]? = some v12 := e12
          obtain rfl : v12 = _ := j12
          clear hdep
          go_simp
          exact hK _ _ rfl (Below.refl _ _)
        · intro a w' hb hdep K hK
          obtain ⟨v13, e13, j13⟩ := hdep 13 (by kernel_rfl)
          replace e13 : a.tmps[91]? = some v13 := e13
          obtain rfl : v13 = _ := j13
          obtain ⟨v12, e12, j12⟩ := hdep 12 (by kernel_rfl)
          replace e12 : a.tmps[90]? = some v12 := e12
          obtain rfl : v12 = _ := j12
          clear hdep
          go_simp
          go_at_call 21
          refine (HDC.out w' (HB10.out.trans (hb.bel.mono HB10.out.size))).mono ?_
          rintro e w20 ⟨rfl, hb20⟩
          exact hK _ _ rfl hb20
        · intro a w' hb hdep K hK
          have c2 := hb.at 0 2 _ rfl
          obtain ⟨v12, e12, j12⟩ := hdep 12 (by kernel_rfl)
          replace e12 : a.tmps[90]? = some v12 := e12
          obtain rfl : v12 = _ := j12
          clear hdep
          go_simp
          exact hK _ _ rfl (Below.refl _ _)
        · intro a w' hb hdep K hK
          obtain ⟨v15, e15, j15⟩ := hdep 15 (by kernel_rfl)
          replace e15 : a.tmps[93]? = some v15 := e15
          obtain rfl : v15 = _ := j15
          obtain ⟨v12, e12, j12⟩ := hdep 12 (by kernel_rfl)
          replace e12 : a.tmps[90]? = some v12 := e12
          obtain rfl : v12 = _ := j12
          clear hdep
          go_simp
          go_at_call 22
          refine (HRD.out w' (HB10.out.trans (hb.bel.mono HB10.out.size))).mono ?_
          rintro e w20 ⟨rfl, hb20⟩
          exact hK _ _ rfl hb20
        · intro a w' hb hdep K hK
          obtain ⟨v14, e14, j14⟩ := hdep 14 (by kernel_rfl)
          replace e14 : a.tmps[92]? = some v14 := e14
          obtain rfl : v14 = _ := j14
          obtain ⟨v16, e16, j16⟩ := hdep 16 (by kernel_rfl)
          replace e16 : a.tmps[94]? = some v16 := e16
          obtain rfl : v16 = _ := j16
          obtain ⟨v12, e12, j12⟩ := hdep 12 (by kernel_rfl)
          replace e12 : a.tmps[90]? = some v12 := e12
          obtain rfl : v12 = _ := j12
          clear hdep
          go_simp
          exact hK _ _ rfl (Below.refl _ _)
        · intro a w' hb hdep K hK
          obtain ⟨v12, e12, j12⟩ := hdep 12 (by kernel_rfl)
          replace e12 : a.tmps[90]? = some v12 := e12
          obtain rfl : v12 = _ := j12
          obtain ⟨v17, e17, j17⟩ := hdep 17 (by kernel_rfl)
          replace e17 : a.tmps[95]? = some v17 := e17
          obtain rfl : v17 = _ := j17
          clear hdep
          go_simp
          exact hK _ _ rfl (Below.refl _ _)
        · intro a w' hb hdep K hK
          obtain ⟨v18, e18, j18⟩ := hdep 18 (by kernel_rfl)
          replace e18 : a.tmps[96]? = some v18 := e18
          obtain rfl : v18 = _ := j18
          clear hdep
          go_simp
          exact hK _ _ rfl (Below.refl _ _)
        · intro a w' hb hdep K hK
          obtain ⟨v19, e19, j19⟩ := hdep 19 (by kernel_rfl)
          replace e19 : a.tmps[97]? = some v19 := e19
          obtain rfl : v19 = _ := j19
          clear hdep
          go_simp
          go_at_call 7
          refine (wakes_call w').mono ?_
          rintro e w20 ⟨rfl, hb20⟩
          exact hK _ _ rfl hb20
        · intro a w' hb hdep K hK
          obtain ⟨v19, e19, j19⟩ := hdep 19 (by kernel_rfl)
          replace e19 : a.tmps[97]? = some v19 := e19
          obtain rfl : v19 = _ := j19
          obtain ⟨v20, e20, j20⟩ := hdep 20 (by kernel_rfl)
          replace e20 : a.tmps[98]? = some v20 := e20
          obtain rfl : v20 = _ := j20
          clear hdep
          go_simp
          exact hK _ _ rfl (Below.refl _ _)
        · intro a w' hb hdep K hK
          obtain ⟨v21, e21, j21⟩ := hdep 21 (by kernel_rfl)
          replace e21 : a.tmps[99]? = some v21 := e21
          obtain rfl : v21 = _ := j21
          clear hdep
          go_simp
          exact hK _ _ rfl (Below.refl _ _)
      · intro vs w' hvl hall hb
        match vs, hvl with
        | [v0, v1, v2, v3, v4, v5, v6, v7, v8, v9, v10, v11, v12, v13, v14, v15, v16, v17, v18, v19, v20, v21, v22], _ =>
          obtain rfl : v0 = _ := hall 0 (by decide)
          have hj1 := hall 1 (by decide)
          obtain rfl : v2 = _ := hall 2 (by decide)
          have hj3 := hall 3 (by decide)
          obtain rfl : v4 = _ := hall 4 (by decide)
          obtain rfl : v5 = _ := hall 5 (by decide)
          obtain rfl : v6 = _ := hall 6 (by decide)
          have hj7 := hall 7 (by decide)
          obtain rfl : v8 = _ := hall 8 (by decide)
          have hj9 := hall 9 (by decide)
          obtain rfl : v10 = _ := hall 10 (by decide)
          obtain rfl : v11 = _ := hall 11 (by decide)
          obtain rfl : v12 = _ := hall 12 (by decide)
          obtain rfl : v13 = _ := hall 13 (by decide)
          obtain rfl : v14 = _ := hall 14 (by decide)
          obtain rfl : v15 = _ := hall 15 (by decide)
          obtain rfl : v16 = _ := hall 16 (by decide)
          obtain rfl : v17 = _ := hall 17 (by decide)
          obtain rfl : v18 = _ := hall 18 (by decide)
          obtain rfl : v19 = _ := hall 19 (by decide)
          obtain rfl : v20 = _ := hall 20 (by decide)
          obtain rfl : v21 = _ := hall 21 (by decide)
          obtain rfl : v22 = _ := hall 22 (by decide)
          simp only [putAll, List.setIfInBounds_toArray, List.set_cons_zero, List.set_cons_succ]
          go_wp2
          go_ret
          exact ⟨rfl, HB10.out.trans (hb.mono HB10.out.size)⟩
theorem match_call (t : List Int) (ht : Tal t) (sp : Option Addr) (n c : Nat) (zs : List Int) (lp : Option Addr) (m d : Nat) (L : List (List Int)) (w : World) (h : IsRow .i64 w sp n c zs) (hL : L.length = m) (hS : TSrc w lp L) (hm : m ≤ maxLen) :
    Calls Try.prog 3 #[.agg (tl t), .slice sp n c, .slice lp m d] w fun e w' => e = .returned (.bool true) ∧ Below w.heap.size w w' := by
  obtain ⟨h1, h2, h3, h4, h5⟩ := h.src
  unfold maxLen at hm
  by_cases hn : 300 < n ∨ 20 < m
  · exact match_out t sp lp n c m d w hn (by omega) (by omega)
  · exact match_in t ht sp lp n c m d (zs.take n) L w h1 h2 hL hS (by omega) (by omega)
end Go.Proofs.Ytlbgnichgjancaa
