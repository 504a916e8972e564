/- Law KraftMatches. -/
import Derived.Test.YtcekjibkifdchaaKrK
import Derived.Test.YtcekjibkifdchaaOlL
set_option linter.unusedVariables false
set_option linter.unusedSimpArgs false
namespace Go.Proofs.Ytcekjibkifdchaa
open Go.RowKit

set_option maxRecDepth 100000 in
set_option maxHeartbeats 2000000 in
theorem matches_out (l t : List Int) (lp : Option Addr) (m d : Nat) (w : World) (h : 20 < m) (hm : m ≤ 9223372036854775807) :
    Calls Try.prog 3 #[.agg (lg l), .agg (tl t), .slice lp m d] w fun e w' => e = .returned (.bool true) ∧ Below w.heap.size w w' := by
  have hwk := wakes_call
  go_enter Try.func3, Try.ntmps3
  go_upto_region 1 with fail
  have hb : Below w.heap.size w ((w.alloc (.cells (lg l) 23)).alloc (.cells (tl t) 25)) := ((Below.refl _ _).alloc (Nat.le_refl _) _).alloc (by simp) _
  generalize (w.alloc (.cells (lg l) 23)).alloc (.cells (tl t) 25) = w1 at hb ⊢
  have HB := Lib.hid hb
  clear hb
  go_wp2_with (with_reducible refine (hwk _).mono ?_; rintro e z ⟨rfl, hb⟩)
  go_ret
  exact ⟨rfl, HB.out.trans (hb.mono HB.out.size)⟩

set_option maxRecDepth 100000 in
set_option maxHeartbeats 8000000 in
theorem matches_in (l t : List Int) (hl : Lng l) (ht : Tal t) (lp : Option Addr) (m d : Nat) (q : List (List Int)) (w : World) (hL : q.length = m) (hS : LSrc w lp q) (hm : m ≤ 20) :
    Calls Try.prog 3 #[.agg (lg l), .agg (tl t), .slice lp m d] w fun e w' => e = .returned (.bool true) ∧ Below w.heap.size w w' := by
  have hrs := fun w => rsum_call l hl w
  have HSC := Lib.hid (fun W => sum_call l hl W)
  have HFC := Lib.hid (fun W => fits_call l hl W)
  have HCC := Lib.hid (fun W => complete_call l hl W)
  have HTC := Lib.hid (fun W => table_call l hl W)
  have HRT := Lib.hid (fun W => rtable_call l hl W)
  have HNC := Lib.hid (fun W => counts_call l hl W)
  have HRN := Lib.hid (fun W => rcounts_call l hl W)
  have HOC := Lib.hid (fun W => cost_call t l ht hl W)
  have HRO := Lib.hid (fun W => rcost_call t l ht hl W)
  have HDC := Lib.hid (fun (W : World) (hW : Below w.heap.size w W) => diff_call lp m d q W hL (hS.on hW) (by omega))
  have HRD := Lib.hid (fun (W : World) (hW : Below w.heap.size w W) => rdiff_call lp m d q W hL (hS.on hW) (by omega))
  have hc := cntT_sxt l 258 (by omega)
  have hkb := ks_bd hl
  clear hL hS
  generalize ks l = k at hrs HSC HFC HCC hkb
  generalize tableV l = T at HTC HRT
  generalize cntT l 258 = c at HNC HRN hc
  generalize totV t l = M at HOC HRO
  generalize (dst q).length = D at HDC HRD
  obtain ⟨F, hF⟩ : ∃ F, F = decide (k ≤ 32768) := ⟨_, rfl⟩
  obtain ⟨C, hC⟩ : ∃ C, C = decide (k = 32768) := ⟨_, rfl⟩
  rw [← hF] at HFC
  rw [← hC] at HCC
  have HF := Lib.hid hF.symm
  have HC := Lib.hid (show (k == 32768) = C from hC.symm)
  clear hF hC
  have heqc := fun w => run_eqi_sxt w hc hc
  rw [decide_eq_true rfl] at heqc
  have HEC := Lib.hid heqc
  clear heqc
  go_enter Try.func3, Try.ntmps3
  go_upto_region 1 with fail
  have hg := heap_alloc2_old w (.cells (lg l) 23) (.cells (tl t) 25)
  have hgt := heap_alloc2_new w (.cells (lg l) 23) (.cells (tl t) 25)
  have hb : Below w.heap.size w ((w.alloc (.cells (lg l) 23)).alloc (.cells (tl t) 25)) := ((Below.refl _ _).alloc (Nat.le_refl _) _).alloc (by simp) _
  generalize (w.alloc (.cells (lg l) 23)).alloc (.cells (tl t) 25) = w1 at hg hgt hb ⊢
  have HB := Lib.hid hb
  clear hb
  go_upto_region 4 with (first
    | (refine wpList_load_row rfl 23 _ rfl w.heap.size rfl 23 (lg l) (0, 0) _ hg Try.underlying23 rfl (lngIk hl) ?_)
    | (with_reducible refine (hrs _).mono ?_
       rintro e w2 ⟨rfl, hb⟩
       replace HB := Lib.hid (HB.out.trans (hb.mono HB.out.size))
       replace hg := heap_on hb hg
       replace hgt := heap_on hb hgt
       clear hb hrs))
  refine wp_region_frame (J := Js [eqv (.agg (lg l)), eqv (.int .i64 k), eqv (.int .i64 k), eqv (.bool false), eqv (.bool false), eqv (.agg (lg l)), eqv (.bool F), eqv (.int .i64 k), eqv (.bool F), eqv (.bool false), eqv (.bool false), eqv (.bool false), eqv (.agg (lg l)), eqv (.bool C), eqv (.int .i64 k), eqv (.bool C), eqv (.bool false), eqv (.bool false), eqv (.bool false), eqv (.agg (lg l)), eqv (.bool T), eqv (.agg (lg l)), eqv (.bool T), eqv (.bool false), eqv (.bool false)]) (ds := [14, 15, 16, 17, 18, 19, 20, 21, 22, 23, 24, 25, 26, 27, 28, 29, 30, 31, 32, 33, 34, 35, 36, 37, 38]) (N := 63)
    (B := [(3, .pointer (some ⟨w.heap.size, 0, none⟩)), (7, .int .i64 k)]) (by kernel_rfl) (by kernel_rfl) (Js_mono ⟨eqv_mono _, eqv_mono _, eqv_mono _, eqv_mono _, eqv_mono _, eqv_mono _, eqv_mono _, eqv_mono _, eqv_mono _, eqv_mono _, eqv_mono _, eqv_mono _, eqv_mono _, eqv_mono _, eqv_mono _, eqv_mono _, eqv_mono _, eqv_mono _, eqv_mono _, eqv_mono _, eqv_mono _, eqv_mono _, eqv_mono _, eqv_mono _, eqv_mono _, trivial⟩) rfl rfl (by simp) ?_ ?_
  · refine ⟨?_, ?_, ?_, ?_, ?_, ?_, ?_, ?_, ?_, ?_, ?_, ?_, ?_, ?_, ?_, ?_, ?_, ?_, ?_, ?_, ?_, ?_, ?_, ?_, ?_, trivial⟩
    · intro a w' hb hdep K hK
      have c3 := hb.at 0 3 _ rfl
      clear hdep
      exact wp_load_row 23 _ rfl w.heap.size (by simp [Act.eval, c3]) 23 (lg l) (0, 0) _ (heap_on hb.bel hg) Try.underlying23 rfl (lngIk hl) (hK _ _ rfl (Below.refl _ _))
    · intro a w' hb hdep K hK
      obtain ⟨v0, e0, j0⟩ := hdep 0 (by kernel_rfl)
      replace e0 : a.tmps[14]? = some v0 := e0
      obtain rfl : v0 = _ := j0
      clear hdep
      go_simp
      go_at_call 9
      refine (HSC.out w').mono ?_
      rintro e w20 ⟨rfl, hb20⟩
      exact hK _ _ rfl hb20
    · intro a w' hb hdep K hK
      have c7 := hb.at 1 7 _ rfl
      clear hdep
      go_simp
      exact hK _ _ rfl (Below.refl _ _)
    · intro a w' hb hdep K hK
      obtain ⟨v1, e1, j1⟩ := hdep 1 (by kernel_rfl)
      replace e1 : a.tmps[15]? = some v1 := e1
      obtain rfl : v1 = _ := j1
      obtain ⟨v2, e2, j2⟩ := hdep 2 (by kernel_rfl)
      replace e2 : a.tmps[16]? = some v2 := e2
      obtain rfl : v2 = _ := j2
      clear hdep
      go_simp
      exact hK _ _ rfl (Below.refl _ _)
    · intro a w' hb hdep K hK
      obtain ⟨v3, e3, j3⟩ := hdep 3 (by kernel_rfl)
      replace e3 : a.tmps[17]? = some v3 := e3
      obtain rfl : v3 = _ := j3
      clear hdep
      go_simp
      exact hK _ _ rfl (Below.refl _ _)
    · intro a w' hb hdep K hK
      have c3 := hb.at 0 3 _ rfl
      obtain ⟨v4, e4, j4⟩ := hdep 4 (by kernel_rfl)
      replace e4 : a.tmps[18]? = some v4 := e4
      obtain rfl : v4 = _ := j4
      clear hdep
      refine wanted_row 4 false rfl 18 rfl (by assumption) 23 _ rfl w.heap.size (by simp [Act.eval, c3]) 23 (lg l) (0, 0) _ (heap_on hb.bel hg) Try.underlying23 rfl (lngIk hl) ?_
      exact hK _ _ rfl (Below.refl _ _)
    · intro a w' hb hdep K hK
      obtain ⟨v5, e5, j5⟩ := hdep 5 (by kernel_rfl)
      replace e5 : a.tmps[19]? = some v5 := e5
      obtain rfl : v5 = _ := j5
      obtain ⟨v4, e4, j4⟩ := hdep 4 (by kernel_rfl)
      replace e4 : a.tmps[18]? = some v4 := e4
      obtain rfl : v4 = _ := j4
      clear hdep
      go_simp
      go_at_call 10
      refine (HFC.out w').mono ?_
      rintro e w20 ⟨rfl, hb20⟩
      exact hK _ _ rfl hb20
    · intro a w' hb hdep K hK
      have c7 := hb.at 1 7 _ rfl
      obtain ⟨v4, e4, j4⟩ := hdep 4 (by kernel_rfl)
      replace e4 : a.tmps[18]? = some v4 := e4
      obtain rfl : v4 = _ := j4
      clear hdep
      go_simp
      exact hK _ _ rfl (Below.refl _ _)
    · intro a w' hb hdep K hK
      obtain ⟨v7, e7, j7⟩ := hdep 7 (by kernel_rfl)
      replace e7 : a.tmps[21]? = some v7 := e7
      obtain rfl : v7 = _ := j7
      obtain ⟨v4, e4, j4⟩ := hdep 4 (by kernel_rfl)
      replace e4 : a.tmps[18]? = some v4 := e4
      obtain rfl : v4 = _ := j4
      have hF := HF.out
      clear hdep
      go_simp
      exact hK _ _ rfl (Below.refl _ _)
    · intro a w' hb hdep K hK
      obtain ⟨v6, e6, j6⟩ := hdep 6 (by kernel_rfl)
      replace e6 : a.tmps[20]? = some v6 := e6
      obtain rfl : v6 = _ := j6
      obtain ⟨v8, e8, j8⟩ := hdep 8 (by kernel_rfl)
      replace e8 : a.tmps[22]? = some v8 := e8
      obtain rfl : v8 = _ := j8
      obtain ⟨v4, e4, j4⟩ := hdep 4 (by kernel_rfl)
      replace e4 : a.tmps[18]? = some v4 := e4
      obtain rfl : v4 = _ := j4
      clear hdep
      go_simp
      exact hK _ _ rfl (Below.refl _ _)
    · intro a w' hb hdep K hK
      obtain ⟨v4, e4, j4⟩ := hdep 4 (by kernel_rfl)
      replace e4 : a.tmps[18]? = some v4 := e4
      obtain rfl : v4 = _ := j4
      obtain ⟨v9, e9, j9⟩ := hdep 9 (by kernel_rfl)
      replace e9 : a.tmps[23]? = some v9 := e9
      obtain rfl : v9 = _ := j9
      clear hdep
      go_simp
      exact hK _ _ rfl (Below.refl _ _)
    · intro a w' hb hdep K hK
      obtain ⟨v10, e10, j10⟩ := hdep 10 (by kernel_rfl)
      replace e10 : a.tmps[24]? = some v10 := e10
      obtain rfl : v10 = _ := j10
      clear hdep
      go_simp
      exact hK _ _ rfl (Below.refl _ _)
    · intro a w' hb hdep K hK
      have c3 := hb.at 0 3 _ rfl
      obtain ⟨v11, e11, j11⟩ := hdep 11 (by kernel_rfl)
      replace e11 : a.tmps[25]? = some v11 := e11
      obtain rfl : v11 = _ := j11
      clear hdep
      refine wanted_row 11 false rfl 25 rfl (by assumption) 23 _ rfl w.heap.size (by simp [Act.eval, c3]) 23 (lg l) (0, 0) _ (heap_on hb.bel hg) Try.underlying23 rfl (lngIk hl) ?_
      exact hK _ _ rfl (Below.refl _ _)
    · intro a w' hb hdep K hK
      obtain ⟨v12, e12, j12⟩ := hdep 12 (by kernel_rfl)
      replace e12 : a.tmps[26]? = some v12 := e12
      obtain rfl : v12 = _ := j12
      obtain ⟨v11, e11, j11⟩ := hdep 11 (by kernel_rfl)
      replace e11 : a.tmps[25]? = some v11 := e11
      obtain rfl : v11 = _ := j11
      clear hdep
      go_simp
      go_at_call 11
      refine (HCC.out w').mono ?_
      rintro e w20 ⟨rfl, hb20⟩
      exact hK _ _ rfl hb20
    · intro a w' hb hdep K hK
      have c7 := hb.at 1 7 _ rfl
      obtain ⟨v11, e11, j11⟩ := hdep 11 (by kernel_rfl)
      replace e11 : a.tmps[25]? = some v11 := e11
      obtain rfl : v11 = _ := j11
      clear hdep
      go_simp
      exact hK _ _ rfl (Below.refl _ _)
    · intro a w' hb hdep K hK
      obtain ⟨v14, e14, j14⟩ := hdep 14 (by kernel_rfl)
      replace e14 : a.tmps[28]? = some v14 := e14
      obtain rfl : v14 = _ := j14
      obtain ⟨v11, e11, j11⟩ := hdep 11 (by kernel_rfl)
      replace e11 : a.tmps[25]? = some v11 := e11
      obtain rfl : v11 = _ := j11
      have hC := HC.out
      clear hdep
      go_simp
      exact hK _ _ rfl (Below.refl _ _)
    · intro a w' hb hdep K hK
      obtain ⟨v13, e13, j13⟩ := hdep 13 (by kernel_rfl)
      replace e13 : a.tmps[27]? = some v13 := e13
      obtain rfl : v13 = _ := j13
      obtain ⟨v15, e15, j15⟩ := hdep 15 (by kernel_rfl)
      replace e15 : a.tmps[29]? = some v15 := e15
      obtain rfl : v15 = _ := j15
      obtain ⟨v11, e11, j11⟩ := hdep 11 (by kernel_rfl)
      replace e11 : a.tmps[25]? = some v11 := e11
      obtain rfl : v11 = _ := j11
      clear hdep
      go_simp
      exact hK _ _ rfl (Below.refl _ _)
    · intro a w' hb hdep K hK
      obtain ⟨v11, e11, j11⟩ := hdep 11 (by kernel_rfl)
      replace e11 : a.tmps[25]? = some v11 := e11
      obtain rfl : v11 = _ := j11
      obtain ⟨v16, e16, j16⟩ := hdep 16 (by kernel_rfl)
      replace e16 : a.tmps[30]? = some v16 := e16
      obtain rfl : v16 = _ := j16
      clear hdep
      go_simp
      exact hK _ _ rfl (Below.refl _ _)
    · intro a w' hb hdep K hK
      obtain ⟨v17, e17, j17⟩ := hdep 17 (by kernel_rfl)
      replace e17 : a.tmps[31]? = some v17 := e17
      obtain rfl : v17 = _ := j17
      clear hdep
      go_simp
      exact hK _ _ rfl (Below.refl _ _)
    · intro a w' hb hdep K hK
      have c3 := hb.at 0 3 _ rfl
      obtain ⟨v18, e18, j18⟩ := hdep 18 (by kernel_rfl)
      replace e18 : a.tmps[32]? = some v18 := e18
      obtain rfl : v18 = _ := j18
      clear hdep
      refine wanted_row 18 false rfl 32 rfl (by assumption) 23 _ rfl w.heap.size (by simp [Act.eval, c3]) 23 (lg l) (0, 0) _ (heap_on hb.bel hg) Try.underlying23 rfl (lngIk hl) ?_
      exact hK _ _ rfl (Below.refl _ _)
    · intro a w' hb hdep K hK
      obtain ⟨v19, e19, j19⟩ := hdep 19 (by kernel_rfl)
      replace e19 : a.tmps[33]? = some v19 := e19
      obtain rfl : v19 = _ := j19
      obtain ⟨v18, e18, j18⟩ := hdep 18 (by kernel_rfl)
      replace e18 : a.tmps[32]? = some v18 := e18
      obtain rfl : v18 = _ := j18
      clear hdep
      go_simp
      go_at_call 12
      refine (HTC.out w').mono ?_
      rintro e w20 ⟨rfl, hb20⟩
      exact hK _ _ rfl hb20
    · intro a w' hb hdep K hK
      have c3 := hb.at 0 3 _ rfl
      obtain ⟨v18, e18, j18⟩ := hdep 18 (by kernel_rfl)
      replace e18 : a.tmps[32]? = some v18 := e18
      obtain rfl : v18 = _ := j18
      clear hdep
      refine wanted_row 18 false rfl 32 rfl (by assumption) 23 _ rfl w.heap.size (by simp [Act.eval, c3]) 23 (lg l) (0, 0) _ (heap_on hb.bel hg) Try.underlying23 rfl (lngIk hl) ?_
      exact hK _ _ rfl (Below.refl _ _)
    · intro a w' hb hdep K hK
      obtain ⟨v21, e21, j21⟩ := hdep 21 (by kernel_rfl)
      replace e21 : a.tmps[35]? = some v21 := e21
      obtain rfl : v21 = _ := j21
      obtain ⟨v18, e18, j18⟩ := hdep 18 (by kernel_rfl)
      replace e18 : a.tmps[32]? = some v18 := e18
      obtain rfl : v18 = _ := j18
      clear hdep
      go_simp
      go_at_call 13
      refine (HRT.out w').mono ?_
      rintro e w20 ⟨rfl, hb20⟩
      exact hK _ _ rfl hb20
    · intro a w' hb hdep K hK
      obtain ⟨v20, e20, j20⟩ := hdep 20 (by kernel_rfl)
      replace e20 : a.tmps[34]? = some v20 := e20
      obtain rfl : v20 = _ := j20
      obtain ⟨v22, e22, j22⟩ := hdep 22 (by kernel_rfl)
      replace e22 : a.tmps[36]? = some v22 := e22
      obtain rfl : v22 = _ := j22
      obtain ⟨v18, e18, j18⟩ := hdep 18 (by kernel_rfl)
      replace e18 : a.tmps[32]? = some v18 := e18
      obtain rfl : v18 = _ := j18
      clear hdep
      go_simp
      exact hK _ _ rfl (Below.refl _ _)
    · intro a w' hb hdep K hK
      obtain ⟨v18, e18, j18⟩ := hdep 18 (by kernel_rfl)
      replace e18 : a.tmps[32]? = some v18 := e18
      obtain rfl : v18 = _ := j18
      obtain ⟨v23, e23, j23⟩ := hdep 23 (by kernel_rfl)
      replace e23 : a.tmps[37]? = some v23 := e23
      obtain rfl : v23 = _ := j23
      clear hdep
      go_simp
      exact hK _ _ rfl (Below.refl _ _)
  · intro vs w' hvl hall hb
    match vs, hvl with
    | [v0, v1, v2, v3, v4, v5, v6, v7, v8, v9, v10, v11, v12, v13, v14, v15, v16, v17, v18, v19, v20, v21, v22, v23, v24], _ =>
      obtain rfl : v0 = _ := hall 0 (by decide)
      obtain rfl : v1 = _ := hall 1 (by decide)
      obtain rfl : v2 = _ := hall 2 (by decide)
      obtain rfl : v3 = _ := hall 3 (by decide)
      obtain rfl : v4 = _ := hall 4 (by decide)
      obtain rfl : v5 = _ := hall 5 (by decide)
      obtain rfl : v6 = _ := hall 6 (by decide)
      obtain rfl : v7 = _ := hall 7 (by decide)
      obtain rfl : v8 = _ := hall 8 (by decide)
      obtain rfl : v9 = _ := hall 9 (by decide)
      obtain rfl : v10 = _ := hall 10 (by decide)
      obtain rfl : v11 = _ := hall 11 (by decide)
      obtain rfl : v12 = _ := hall 12 (by decide)
      obtain rfl : v13 = _ := hall 13 (by decide)
      obtain rfl : v14 = _ := hall 14 (by decide)
      obtain rfl : v15 = _ := hall 15 (by decide)
      obtain rfl : v16 = _ := hall 16 (by decide)
      obtain rfl : v17 = _ := hall 17 (by decide)
      obtain rfl : v18 = _ := hall 18 (by decide)
      obtain rfl : v19 = _ := hall 19 (by decide)
      obtain rfl : v20 = _ := hall 20 (by decide)
      obtain rfl : v21 = _ := hall 21 (by decide)
      obtain rfl : v22 = _ := hall 22 (by decide)
      obtain rfl : v23 = _ := hall 23 (by decide)
      obtain rfl : v24 = _ := hall 24 (by decide)
      simp only [putAll, List.setIfInBounds_toArray, List.set_cons_zero, List.set_cons_succ]
      replace hg := heap_on hb hg
      replace hgt := heap_on hb hgt
      replace HB := Lib.hid (HB.out.trans (hb.mono HB.out.size))
      clear hb hvl hall HSC HFC HCC HTC HRT HF HC
      go_upto_region 6 with fail
      refine wp_region_frame (J := Js [eqv (.agg (lg l)), eqv (.agg (xl c)), eqv (.agg (lg l)), eqv (.agg (xl c)), eqv (.bool true), eqv (.bool true), eqv (.agg (tl t)), eqv (.agg (lg l)), eqv (.int .i64 M), eqv (.agg (tl t)), eqv (.agg (lg l)), eqv (.int .i64 M), eqv (.bool true), eqv (.bool true), eqv (.bool true), eqv (.slice lp m d), eqv (.int .i64 D), eqv (.slice lp m d), eqv (.int .i64 D), eqv (.bool true), eqv (.bool true), eqv (.bool true), eqv (.bool true), eqv (.bool true), eqv (.bool true)]) (ds := [39, 40, 41, 42, 43, 44, 45, 46, 47, 48, 49, 50, 51, 52, 53, 54, 55, 56, 57, 58, 59, 60, 61, 62, 6]) (N := 63)
        (B := [(2, .slice lp m d), (3, .pointer (some ⟨w.heap.size, 0, none⟩)), (4, .pointer (some ⟨(w.heap.size + 1), 0, none⟩))]) (by kernel_rfl) (by kernel_rfl) (Js_mono ⟨eqv_mono _, eqv_mono _, eqv_mono _, eqv_mono _, eqv_mono _, eqv_mono _, eqv_mono _, eqv_mono _, eqv_mono _, eqv_mono _, eqv_mono _, eqv_mono _, eqv_mono _, eqv_mono _, eqv_mono _, eqv_mono _, eqv_mono _, eqv_mono _, eqv_mono _, eqv_mono _, eqv_mono _, eqv_mono _, eqv_mono _, eqv_mono _, eqv_mono _, trivial⟩) rfl rfl (by simp) ?_ ?_
      · refine ⟨?_, ?_, ?_, ?_, ?_, ?_, ?_, ?_, ?_, ?_, ?_, ?_, ?_, ?_, ?_, ?_, ?_, ?_, ?_, ?_, ?_, ?_, ?_, ?_, ?_, trivial⟩
        · intro a w' hb hdep K hK
          have c3 := hb.at 1 3 _ rfl
          clear hdep
          exact wp_load_row 23 _ rfl w.heap.size (by simp [Act.eval, c3]) 23 (lg l) (0, 0) _ (heap_on hb.bel hg) Try.underlying23 rfl (lngIk hl) (hK _ _ rfl (Below.refl _ _))
        · intro a w' hb hdep K hK
          obtain ⟨v0, e0, j0⟩ := hdep 0 (by kernel_rfl)
          replace e0 : a.tmps[39]? = some v0 := e0
          obtain rfl : v0 = _ := j0
          clear hdep
          go_simp
          go_at_call 14
          refine (HNC.out w').mono ?_
          rintro e w20 ⟨rfl, hb20⟩
          exact hK _ _ rfl hb20
        · intro a w' hb hdep K hK
          have c3 := hb.at 1 3 _ rfl
          clear hdep
          exact wp_load_row 23 _ rfl w.heap.size (by simp [Act.eval, c3]) 23 (lg l) (0, 0) _ (heap_on hb.bel hg) Try.underlying23 rfl (lngIk hl) (hK _ _ rfl (Below.refl _ _))
        · intro a w' hb hdep K hK
          obtain ⟨v2, e2, j2⟩ := hdep 2 (by kernel_rfl)
          replace e2 : a.tmps[41]? = some v2 := e2
          obtain rfl : v2 = _ := j2
          clear hdep
          go_simp
          go_at_call 15
          refine (HRN.out w').mono ?_
          rintro e w20 ⟨rfl, hb20⟩
          exact hK _ _ rfl hb20
        · intro a w' hb hdep K hK
          obtain ⟨v1, e1, j1⟩ := hdep 1 (by kernel_rfl)
          replace e1 : a.tmps[40]? = some v1 := e1
          obtain rfl : v1 = _ := j1
          obtain ⟨v3, e3, j3⟩ := hdep 3 (by kernel_rfl)
          replace e3 : a.tmps[42]? = some v3 := e3
          obtain rfl : v3 = _ := j3
          have heqc := HEC.out
          clear hdep
          go_simp
          exact hK _ _ rfl (Below.refl _ _)
        · intro a w' hb hdep K hK
          obtain ⟨v4, e4, j4⟩ := hdep 4 (by kernel_rfl)
          replace e4 : a.tmps[43]? = some v4 := e4
          obtain rfl : v4 = _ := j4
          clear hdep
          go_simp
          exact hK _ _ rfl (Below.refl _ _)
        · intro a w' hb hdep K hK
          have c4 := hb.at 2 4 _ rfl
          obtain ⟨v5, e5, j5⟩ := hdep 5 (by kernel_rfl)
          replace e5 : a.tmps[44]? = some v5 := e5
          obtain rfl : v5 = _ := j5
          clear hdep
          refine wanted_row 5 true rfl 44 rfl (by assumption) 25 _ rfl (w.heap.size + 1) (by simp [Act.eval, c4]) 25 (tl t) (0, 0) _ (heap_on hb.bel hgt) Try.underlying25 rfl (talIk ht) ?_
          exact hK _ _ rfl (Below.refl _ _)
        · intro a w' hb hdep K hK
          have c3 := hb.at 1 3 _ rfl
          obtain ⟨v5, e5, j5⟩ := hdep 5 (by kernel_rfl)
          replace e5 : a.tmps[44]? = some v5 := e5
          obtain rfl : v5 = _ := j5
          clear hdep
          refine wanted_row 5 true rfl 44 rfl (by assumption) 23 _ rfl w.heap.size (by simp [Act.eval, c3]) 23 (lg l) (0, 0) _ (heap_on hb.bel hg) Try.underlying23 rfl (lngIk hl) ?_
          exact hK _ _ rfl (Below.refl _ _)
        · intro a w' hb hdep K hK
          obtain ⟨v6, e6, j6⟩ := hdep 6 (by kernel_rfl)
          replace e6 : a.tmps[45]? = some v6 := e6
          obtain rfl : v6 = _ := j6
          obtain ⟨v7, e7, j7⟩ := hdep 7 (by kernel_rfl)
          replace e7 : a.tmps[46]? = some v7 := e7
          obtain rfl : v7 = _ := j7
          obtain ⟨v5, e5, j5⟩ := hdep 5 (by kernel_rfl)
          replace e5 : a.tmps[44]? = some v5 := e5
          obtain rfl : v5 = _ := j5
          clear hdep
          go_simp
          go_at_call 16
          refine (HOC.out w').mono ?_
          rintro e w20 ⟨rfl, hb20⟩
          exact hK _ _ rfl hb20
        · intro a w' hb hdep K hK
          have c4 := hb.at 2 4 _ rfl
          obtain ⟨v5, e5, j5⟩ := hdep 5 (by kernel_rfl)
          replace e5 : a.tmps[44]? = some v5 := e5
          obtain rfl : v5 = _ := j5
          clear hdep
          refine wanted_row 5 true rfl 44 rfl (by assumption) 25 _ rfl (w.heap.size + 1) (by simp [Act.eval, c4]) 25 (tl t) (0, 0) _ (heap_on hb.bel hgt) Try.underlying25 rfl (talIk ht) ?_
          exact hK _ _ rfl (Below.refl _ _)
        · intro a w' hb hdep K hK
          have c3 := hb.at 1 3 _ rfl
          obtain ⟨v5, e5, j5⟩ := hdep 5 (by kernel_rfl)
          replace e5 : a.tmps[44]? = some v5 := e5
          obtain rfl : v5 = _ := j5
          clear hdep
          refine wanted_row 5 true rfl 44 rfl (by assumption) 23 _ rfl w.heap.size (by simp [Act.eval, c3]) 23 (lg l) (0, 0) _ (heap_on hb.bel hg) Try.underlying23 rfl (lngIk hl) ?_
          exact hK _ _ rfl (Below.refl _ _)
        · intro a w' hb hdep K hK
          obtain ⟨v9, e9, j9⟩ := hdep 9 (by kernel_rfl)
          replace e9 : a.tmps[48]? = some v9 := e9
          obtain rfl : v9 = _ := j9
          obtain ⟨v10, e10, j10⟩ := hdep 10 (by kernel_rfl)
          replace e10 : a.tmps[49]? = some v10 := e10
          obtain rfl : v10 = _ := j10
          obtain ⟨v5, e5, j5⟩ := hdep 5 (by kernel_rfl)
          replace e5 : a.tmps[44]? = some v5 := e5
          obtain rfl : v5 = _ := j5
          clear hdep
          go_simp
          go_at_call 17
          refine (HRO.out w').mono ?_
          rintro e w20 ⟨rfl, hb20⟩
          exact hK _ _ rfl hb20
        · intro a w' hb hdep K hK
          obtain ⟨v8, e8, j8⟩ := hdep 8 (by kernel_rfl)
          replace e8 : a.tmps[47]? = some v8 := e8
          obtain rfl : v8 = _ := j8
          obtain ⟨v11, e11, j11⟩ := hdep 11 (by kernel_rfl)
          replace e11 : a.tmps[50]? = some v11 := e11
          obtain rfl : v11 = _ := j11
          obtain ⟨v5, e5, j5⟩ := hdep 5 (by kernel_rfl)
          replace e5 : a.tmps[44]? = some v5 := e5
          obtain rfl : v5 = _ := j5
          clear hdep
          go_simp
          exact hK _ _ rfl (Below.refl _ _)
        · intro a w' hb hdep K hK
          obtain ⟨v5, e5, j5⟩ := hdep 5 (by kernel_rfl)
          replace e5 : a.tmps[44]? = some v5 := e5
          obtain rfl : v5 = _ := j5
          obtain ⟨v12, e12, j12⟩ := hdep 12 (by kernel_rfl)
          replace e12 : a.tmps[51]? = some v12 := e12
          obtain rfl : v12 = _ := j12
          clear hdep
          go_simp
          exact hK _ _ rfl (Below.refl _ _)
        · intro a w' hb hdep K hK
          obtain ⟨v13, e13, j13⟩ := hdep 13 (by kernel_rfl)
          replace e13 : a.tmps[52]? = some v13 := e13
          obtain rfl : v13 = _ := j13
          clear hdep
          go_simp
          exact hK _ _ rfl (Below.refl _ _)
        · intro a w' hb hdep K hK
          have c2 := hb.at 0 2 _ rfl
          obtain ⟨v14, e14, j14⟩ := hdep 14 (by kernel_rfl)
          replace e14 : a.tmps[53]? = some v14 := e14
          obtain rfl : v14 = _ := j14
          clear hdep
          go_simp
          exact hK _ _ rfl (Below.refl _ _)
        · intro a w' hb hdep K hK
          obtain ⟨v15, e15, j15⟩ := hdep 15 (by kernel_rfl)
          replace e15 : a.tmps[54]? = some v15 := e15
          obtain rfl : v15 = _ := j15
          obtain ⟨v14, e14, j14⟩ := hdep 14 (by kernel_rfl)
          replace e14 : a.tmps[53]? = some v14 := e14
          obtain rfl : v14 = _ := j14
          clear hdep
          go_simp
          go_at_call 18
          refine (HDC.out w' (HB.out.trans (hb.bel.mono HB.out.size))).mono ?_
          rintro e w20 ⟨rfl, hb20⟩
          exact hK _ _ rfl hb20
        · intro a w' hb hdep K hK
          have c2 := hb.at 0 2 _ rfl
          obtain ⟨v14, e14, j14⟩ := hdep 14 (by kernel_rfl)
          replace e14 : a.tmps[53]? = some v14 := e14
          obtain rfl : v14 = _ := j14
          clear hdep
          go_simp
          exact hK _ _ rfl (Below.refl _ _)
        · intro a w' hb hdep K hK
          obtain ⟨v17, e17, j17⟩ := hdep 17 (by kernel_rfl)
          replace e17 : a.tmps[56]? = some v17 := e17
          obtain rfl : v17 = _ := j17
          obtain ⟨v14, e14, j14⟩ := hdep 14 (by kernel_rfl)
          replace e14 : a.tmps[53]? = some v14 := e14
          obtain rfl : v14 = _ := j14
          clear hdep
          go_simp
          go_at_call 19
          refine (HRD.out w' (HB.out.trans (hb.bel.mono HB.out.size))).mono ?_
          rintro e w20 ⟨rfl, hb20⟩
          exact hK _ _ rfl hb20
        · intro a w' hb hdep K hK
          obtain ⟨v16, e16, j16⟩ := hdep 16 (by kernel_rfl)
          replace e16 : a.tmps[55]? = some v16 := e16
          obtain rfl : v16 = _ := j16
          obtain ⟨v18, e18, j18⟩ := hdep 18 (by kernel_rfl)
          replace e18 : a.tmps[57]? = some v18 := e18
          obtain rfl : v18 = _ := j18
          obtain ⟨v14, e14, j14⟩ := hdep 14 (by kernel_rfl)
          replace e14 : a.tmps[53]? = some v14 := e14
          obtain rfl : v14 = _ := j14
          clear hdep
          go_simp
          exact hK _ _ rfl (Below.refl _ _)
        · intro a w' hb hdep K hK
          obtain ⟨v14, e14, j14⟩ := hdep 14 (by kernel_rfl)
          replace e14 : a.tmps[53]? = some v14 := e14
          obtain rfl : v14 = _ := j14
          obtain ⟨v19, e19, j19⟩ := hdep 19 (by kernel_rfl)
          replace e19 : a.tmps[58]? = some v19 := e19
          obtain rfl : v19 = _ := j19
          clear hdep
          go_simp
          exact hK _ _ rfl (Below.refl _ _)
        · intro a w' hb hdep K hK
          obtain ⟨v20, e20, j20⟩ := hdep 20 (by kernel_rfl)
          replace e20 : a.tmps[59]? = some v20 := e20
          obtain rfl : v20 = _ := j20
          clear hdep
          go_simp
          exact hK _ _ rfl (Below.refl _ _)
        · intro a w' hb hdep K hK
          obtain ⟨v21, e21, j21⟩ := hdep 21 (by kernel_rfl)
          replace e21 : a.tmps[60]? = some v21 := e21
          obtain rfl : v21 = _ := j21
          clear hdep
          go_simp
          go_at_call 7
          refine (wakes_call w').mono ?_
          rintro e w20 ⟨rfl, hb20⟩
          exact hK _ _ rfl hb20
        · intro a w' hb hdep K hK
          obtain ⟨v21, e21, j21⟩ := hdep 21 (by kernel_rfl)
          replace e21 : a.tmps[60]? = some v21 := e21
          obtain rfl : v21 = _ := j21
          obtain ⟨v22, e22, j22⟩ := hdep 22 (by kernel_rfl)
          replace e22 : a.tmps[61]? = some v22 := e22
          obtain rfl : v22 = _ := j22
          clear hdep
          go_simp
          exact hK _ _ rfl (Below.refl _ _)
        · intro a w' hb hdep K hK
          obtain ⟨v23, e23, j23⟩ := hdep 23 (by kernel_rfl)
          replace e23 : a.tmps[62]? = some v23 := e23
          obtain rfl : v23 = _ := j23
          clear hdep
          go_simp
          exact hK _ _ rfl (Below.refl _ _)
      · intro vs w' hvl hall hb
        match vs, hvl with
        | [v0, v1, v2, v3, v4, v5, v6, v7, v8, v9, v10, v11, v12, v13, v14, v15, v16, v17, v18, v19, v20, v21, v22, v23, v24], _ =>
          obtain rfl : v0 = _ := hall 0 (by decide)
          obtain rfl : v1 = _ := hall 1 (by decide)
          obtain rfl : v2 = _ := hall 2 (by decide)
          obtain rfl : v3 = _ := hall 3 (by decide)
          obtain rfl : v4 = _ := hall 4 (by decide)
          obtain rfl : v5 = _ := hall 5 (by decide)
          obtain rfl : v6 = _ := hall 6 (by decide)
          obtain rfl : v7 = _ := hall 7 (by decide)
          obtain rfl : v8 = _ := hall 8 (by decide)
          obtain rfl : v9 = _ := hall 9 (by decide)
          obtain rfl : v10 = _ := hall 10 (by decide)
          obtain rfl : v11 = _ := hall 11 (by decide)
          obtain rfl : v12 = _ := hall 12 (by decide)
          obtain rfl : v13 = _ := hall 13 (by decide)
          obtain rfl : v14 = _ := hall 14 (by decide)
          obtain rfl : v15 = _ := hall 15 (by decide)
          obtain rfl : v16 = _ := hall 16 (by decide)
          obtain rfl : v17 = _ := hall 17 (by decide)
          obtain rfl : v18 = _ := hall 18 (by decide)
          obtain rfl : v19 = _ := hall 19 (by decide)
          obtain rfl : v20 = _ := hall 20 (by decide)
          obtain rfl : v21 = _ := hall 21 (by decide)
          obtain rfl : v22 = _ := hall 22 (by decide)
          obtain rfl : v23 = _ := hall 23 (by decide)
          obtain rfl : v24 = _ := hall 24 (by decide)
          simp only [putAll, List.setIfInBounds_toArray, List.set_cons_zero, List.set_cons_succ]
          go_wp2
          go_ret
          exact ⟨rfl, HB.out.trans (hb.mono HB.out.size)⟩
theorem matches_call (l t : List Int) (hl : Lng l) (ht : Tal t) (lp : Option Addr) (m d : Nat) (q : List (List Int)) (w : World) (hL : q.length = m) (hS : LSrc w lp q) (hm : m ≤ maxLen) :
    Calls Try.prog 3 #[.agg (lg l), .agg (tl t), .slice lp m d] w fun e w' => e = .returned (.bool true) ∧ Below w.heap.size w w' := by
  unfold maxLen at hm
  by_cases h : 20 < m
  · exact matches_out l t lp m d w h (by omega)
  · exact matches_in l t hl ht lp m d q w hL hS (by omega)
end Go.Proofs.Ytcekjibkifdchaa
