/- Law KraftRoom. -/
import Derived.Test.YtcekjibkifdchaaKrK
import Derived.Test.YtcekjibkifdchaaKrM
import Derived.Test.YtcekjibkifdchaaOl
set_option linter.unusedVariables false
set_option linter.unusedSimpArgs false
namespace Go.Proofs.Ytcekjibkifdchaa
open Go.RowKit

set_option maxRecDepth 100000 in
set_option maxHeartbeats 2000000 in
theorem room_out (l : List Int) (hl : Lng l) (S : Int) (hS : -9223372036854775808 ≤ S ∧ S ≤ 9223372036854775807) (h : S < 0 ∨ 258 ≤ S) (w : World) :
    Calls Try.prog 6 #[.agg (lg l), .int .i64 S] w fun e w' => e = .returned (.bool true) ∧ Below w.heap.size w w' := by
  have hwk := wakes_call
  go_enter Try.func6, Try.ntmps6
  go_upto_region 1 with fail
  have hb := below_al w (.cells (lg l) 23)
  generalize w.alloc (.cells (lg l) 23) = w1 at hb ⊢
  have HB := Lib.hid hb
  clear hb
  by_cases h1 : S < 0
  · clear h
    go_wp2_with (with_reducible refine (hwk _).mono ?_; rintro e z ⟨rfl, hb⟩)
    go_ret
    exact ⟨rfl, HB.out.trans (hb.mono HB.out.size)⟩
  · have h2 : 258 ≤ S := by omega
    clear h
    go_wp2_with (with_reducible refine (hwk _).mono ?_; rintro e z ⟨rfl, hb⟩)
    go_ret
    exact ⟨rfl, HB.out.trans (hb.mono HB.out.size)⟩

set_option maxRecDepth 100000 in
set_option maxHeartbeats 2000000 in
theorem room_no (l : List Int) (hl : Lng l) (s : Nat) (hs : s < 258) (h : l.getD s 0 ≠ 0) (w : World) :
    Calls Try.prog 6 #[.agg (lg l), .int .i64 s] w fun e w' => e = .returned (.bool true) ∧ Below w.heap.size w w' := by
  have hwk := wakes_call
  go_enter Try.func6, Try.ntmps6
  go_upto_region 1 with fail
  have hb := below_al w (.cells (lg l) 23)
  have hg := heap_alloc_last w (.cells (lg l) 23)
  generalize w.alloc (.cells (lg l) 23) = w1 at hb hg ⊢
  have hcl := lg_cell hg hl s hs
  have hbd := hl.bd s
  have HB := Lib.hid hb
  generalize l.getD s 0 = V at h hcl hbd
  have hV : (V != 0) = true := by simpa using h
  clear hb h
  go_wp2_with (with_reducible refine (hwk _).mono ?_; rintro e z ⟨rfl, hb⟩)
  go_ret
  exact ⟨rfl, HB.out.trans (hb.mono HB.out.size)⟩

set_option maxRecDepth 100000 in
set_option maxHeartbeats 4000000 in
theorem room_in (l : List Int) (hl : Lng l) (s : Nat) (hs : s < 258) (hn : l.getD s 0 = 0) (w : World) :
    Calls Try.prog 6 #[.agg (lg l), .int .i64 s] w fun e w' => e = .returned (.bool true) ∧ Below w.heap.size w w' := by
  have hzL := lngZ
  have hP := hl.set s 15 (by decide)
  have e1 := ks_set l s (by rw [hl.1]; exact hs) 15
  rw [hn, wt_zero, wt_15, Int.sub_zero] at e1
  have hb0 := ks_bd hl
  have hcL := fun w => sum_call l hl w
  have hcP := fun w => sum_call _ hP w
  have hfP := fun w => fits_call _ hP w
  rw [e1] at hcP hfP
  generalize ks l = k at hb0 hcL hcP hfP
  clear e1
  have hF : decide (k + 1 ≤ 32768) = decide (k < 32768) := by
    rw [Bool.eq_iff_iff, decide_eq_true_eq, decide_eq_true_eq]
    omega
  rw [hF] at hfP
  obtain ⟨k1, hk1⟩ : ∃ k1, k1 = k + 1 := ⟨_, rfl⟩
  rw [← hk1] at hcP
  have hw1 : IntKind.i64.wrap (k + 1) = k1 := by rw [IntKind.wrap_i64]; omega
  obtain ⟨F, hFF⟩ : ∃ F, F = decide (k < 32768) := ⟨_, rfl⟩
  rw [← hFF] at hfP
  have HF := Lib.hid hFF.symm
  have HW1 := Lib.hid hw1
  have HCL := Lib.hid hcL
  have HCP := Lib.hid hcP
  have HFP := Lib.hid hfP
  clear hFF hF hk1 hw1 hcL hcP hfP
  go_enter Try.func6, Try.ntmps6
  go_upto_region 1 with fail
  have hb := below_al w (.cells (lg l) 23)
  have hg := heap_alloc_last w (.cells (lg l) 23)
  generalize w.alloc (.cells (lg l) 23) = w1 at hb hg ⊢
  have hcl := lg_cell hg hl s hs
  rw [hn] at hcl
  have HB := Lib.hid hb
  clear hb hn
  go_upto_region 4 with (first
    | (refine wpList_load_row rfl 23 _ rfl w.heap.size rfl 23 (lg l) (0, 0) _ hg Try.underlying23 rfl (lngIk hl) ?_)
    | (refine wpList_store_row rfl 23 _ _ rfl w1.heap.size (lg l) rfl rfl 23 (lg zL) (heap_alloc_last w1 _) (lngIk hl) (by rw [lg_size zL_lng, lg_size hl]) (lg_all _) ?_))
  rw [World.setRow_alloc_new]
  have hm := L1.new w1 hl
  generalize w1.alloc (.cells (lg l) 23) = w2 at hm ⊢
  simp only [Act.put]
  clear hcl
  go_upto_region 5 with (refine hm.st rfl _ _ rfl rfl s hs rfl 15 (by decide) rfl ?_; clear hm; intro w3 hm)
  replace hg := heap_on hm.bel hg
  have hgm := hm.row
  replace HB := Lib.hid (HB.out.trans (hm.bel.mono HB.out.size))
  clear hm
  generalize l.set s 15 = P at hP HCP HFP hgm
  -- REGION
  refine wp_region_frame (J := Js [eqv (.agg (lg P)), eqv (.int .i64 k1), eqv (.agg (lg l)), eqv (.int .i64 k), eqv (.int .i64 k1), eqv (.bool true), eqv (.bool true), eqv (.agg (lg P)), eqv (.bool F), eqv (.agg (lg l)), eqv (.int .i64 k), eqv (.bool F), eqv (.bool true), eqv (.bool true), eqv (.bool true), eqv (.bool true), eqv (.bool true), eqv (.bool true)]) (ds := [22, 23, 24, 25, 26, 27, 28, 29, 30, 31, 32, 33, 34, 35, 36, 37, 38, 4]) (N := 39)
    (B := [(2, .pointer (some ⟨w.heap.size, 0, none⟩)), (5, .pointer (some ⟨w1.heap.size, 0, none⟩))]) (by kernel_rfl) (by kernel_rfl) (Js_mono ⟨eqv_mono _, eqv_mono _, eqv_mono _, eqv_mono _, eqv_mono _, eqv_mono _, eqv_mono _, eqv_mono _, eqv_mono _, eqv_mono _, eqv_mono _, eqv_mono _, eqv_mono _, eqv_mono _, eqv_mono _, eqv_mono _, eqv_mono _, eqv_mono _, trivial⟩) rfl rfl (by simp) ?_ ?_
  · refine ⟨?_, ?_, ?_, ?_, ?_, ?_, ?_, ?_, ?_, ?_, ?_, ?_, ?_, ?_, ?_, ?_, ?_, ?_, trivial⟩
    · intro a w' hb hdep K hK
      have c5 := hb.at 1 5 _ rfl
      clear hdep
      exact wp_load_row 23 _ rfl w1.heap.size (by simp [Act.eval, c5]) 23 (lg P) (0, 0) _ (heap_on hb.bel hgm) Try.underlying23 rfl (lngIk hP) (hK _ _ rfl (Below.refl _ _))
    · intro a w' hb hdep K hK
      obtain ⟨v0, e0, j0⟩ := hdep 0 (by kernel_rfl)
      replace e0 : a.tmps[22]? = some v0 := e0
      obtain rfl : v0 = _ := j0
      clear hdep
      go_simp
      go_at_call 9
      refine (HCP.out w').mono ?_
      rintro e w20 ⟨rfl, hb20⟩
      exact hK _ _ rfl hb20
    · intro a w' hb hdep K hK
      have c2 := hb.at 0 2 _ rfl
      clear hdep
      exact wp_load_row 23 _ rfl w.heap.size (by simp [Act.eval, c2]) 23 (lg l) (0, 0) _ (heap_on hb.bel hg) Try.underlying23 rfl (lngIk hl) (hK _ _ rfl (Below.refl _ _))
    · intro a w' hb hdep K hK
      obtain ⟨v2, e2, j2⟩ := hdep 2 (by kernel_rfl)
      replace e2 : a.tmps[24]? = some v2 := e2
      obtain rfl : v2 = _ := j2
      clear hdep
      go_simp
      go_at_call 9
      refine (HCL.out w').mono ?_
      rintro e w20 ⟨rfl, hb20⟩
      exact hK _ _ rfl hb20
    · intro a w' hb hdep K hK
      obtain ⟨v3, e3, j3⟩ := hdep 3 (by kernel_rfl)
      replace e3 : a.tmps[25]? = some v3 := e3
      obtain rfl : v3 = _ := j3
      have hw1 := HW1.out
      clear hdep
      go_simp
      exact hK _ _ rfl (Below.refl _ _)
    · intro a w' hb hdep K hK
      obtain ⟨v1, e1, j1⟩ := hdep 1 (by kernel_rfl)
      replace e1 : a.tmps[23]? = some v1 := e1
      obtain rfl : v1 = _ := j1
      obtain ⟨v4, e4, j4⟩ := hdep 4 (by kernel_rfl)
      replace e4 : a.tmps[26]? = some v4 := e4
      obtain rfl : v4 = _ := j4
      clear hdep
      go_simp
      exact hK _ _ rfl (Below.refl _ _)
    · intro a w' hb hdep K hK
      obtain ⟨v5, e5, j5⟩ := hdep 5 (by kernel_rfl)
      replace e5 : a.tmps[27]? = some v5 := e5
      obtain rfl : v5 = _ := j5
      clear hdep
      go_simp
      exact hK _ _ rfl (Below.refl _ _)
    · intro a w' hb hdep K hK
      have c5 := hb.at 1 5 _ rfl
      obtain ⟨v6, e6, j6⟩ := hdep 6 (by kernel_rfl)
      replace e6 : a.tmps[28]? = some v6 := e6
      obtain rfl : v6 = _ := j6
      clear hdep
      refine wanted_row 6 true rfl 28 rfl (by assumption) 23 _ rfl w1.heap.size (by simp [Act.eval, c5]) 23 (lg P) (0, 0) _ (heap_on hb.bel hgm) Try.underlying23 rfl (lngIk hP) ?_
      exact hK _ _ rfl (Below.refl _ _)
    · intro a w' hb hdep K hK
      obtain ⟨v7, e7, j7⟩ := hdep 7 (by kernel_rfl)
      replace e7 : a.tmps[29]? = some v7 := e7
      obtain rfl : v7 = _ := j7
      obtain ⟨v6, e6, j6⟩ := hdep 6 (by kernel_rfl)
      replace e6 : a.tmps[28]? = some v6 := e6
      obtain rfl : v6 = _ := j6
      clear hdep
      go_simp
      go_at_call 10
      refine (HFP.out w').mono ?_
      rintro e w20 ⟨rfl, hb20⟩
      exact hK _ _ rfl hb20
    · intro a w' hb hdep K hK
      have c2 := hb.at 0 2 _ rfl
      obtain ⟨v6, e6, j6⟩ := hdep 6 (by kernel_rfl)
      replace e6 : a.tmps[28]? = some v6 := e6
      obtain rfl : v6 = _ := j6
      clear hdep
      refine wanted_row 6 true rfl 28 rfl (by assumption) 23 _ rfl w.heap.size (by simp [Act.eval, c2]) 23 (lg l) (0, 0) _ (heap_on hb.bel hg) Try.underlying23 rfl (lngIk hl) ?_
      exact hK _ _ rfl (Below.refl _ _)
    · intro a w' hb hdep K hK
      obtain ⟨v9, e9, j9⟩ := hdep 9 (by kernel_rfl)
      replace e9 : a.tmps[31]? = some v9 := e9
      obtain rfl : v9 = _ := j9
      obtain ⟨v6, e6, j6⟩ := hdep 6 (by kernel_rfl)
      replace e6 : a.tmps[28]? = some v6 := e6
      obtain rfl : v6 = _ := j6
      clear hdep
      go_simp
      go_at_call 9
      refine (HCL.out w').mono ?_
      rintro e w20 ⟨rfl, hb20⟩
      exact hK _ _ rfl hb20
    · intro a w' hb hdep K hK
      obtain ⟨v10, e10, j10⟩ := hdep 10 (by kernel_rfl)
      replace e10 : a.tmps[32]? = some v10 := e10
      obtain rfl : v10 = _ := j10
      obtain ⟨v6, e6, j6⟩ := hdep 6 (by kernel_rfl)
      replace e6 : a.tmps[28]? = some v6 := e6
      obtain rfl : v6 = _ := j6
      have hF := HF.out
      clear hdep
      go_simp
      exact hK _ _ rfl (Below.refl _ _)
    · intro a w' hb hdep K hK
      obtain ⟨v8, e8, j8⟩ := hdep 8 (by kernel_rfl)
      replace e8 : a.tmps[30]? = some v8 := e8
      obtain rfl : v8 = _ := j8
      obtain ⟨v11, e11, j11⟩ := hdep 11 (by kernel_rfl)
      replace e11 : a.tmps[33]? = some v11 := e11
      obtain rfl : v11 = _ := j11
      obtain ⟨v6, e6, j6⟩ := hdep 6 (by kernel_rfl)
      replace e6 : a.tmps[28]? = some v6 := e6
      obtain rfl : v6 = _ := j6
      clear hdep
      go_simp
      exact hK _ _ rfl (Below.refl _ _)
    · intro a w' hb hdep K hK
      obtain ⟨v6, e6, j6⟩ := hdep 6 (by kernel_rfl)
      replace e6 : a.tmps[28]? = some v6 := e6
      obtain rfl : v6 = _ := j6
      obtain ⟨v12, e12, j12⟩ := hdep 12 (by kernel_rfl)
      replace e12 : a.tmps[34]? = some v12 := e12
      obtain rfl : v12 = _ := j12
      clear hdep
      go_simp
      exact hK _ _ rfl (Below.refl _ _)
    · intro a w' hb hdep K hK
      obtain ⟨v13, e13, j13⟩ := hdep 13 (by kernel_rfl)
      replace e13 : a.tmps[35]? = some v13 := e13
      obtain rfl : v13 = _ := j13
      clear hdep
      go_simp
      exact hK _ _ rfl (Below.refl _ _)
    · intro a w' hb hdep K hK
      obtain ⟨v14, e14, j14⟩ := hdep 14 (by kernel_rfl)
      replace e14 : a.tmps[36]? = some v14 := e14
      obtain rfl : v14 = _ := j14
      clear hdep
      go_simp
      go_at_call 7
      refine (wakes_call w').mono ?_
      rintro e w20 ⟨rfl, hb20⟩
      exact hK _ _ rfl hb20
    · intro a w' hb hdep K hK
      obtain ⟨v14, e14, j14⟩ := hdep 14 (by kernel_rfl)
      replace e14 : a.tmps[36]? = some v14 := e14
      obtain rfl : v14 = _ := j14
      obtain ⟨v15, e15, j15⟩ := hdep 15 (by kernel_rfl)
      replace e15 : a.tmps[37]? = some v15 := e15
      obtain rfl : v15 = _ := j15
      clear hdep
      go_simp
      exact hK _ _ rfl (Below.refl _ _)
    · intro a w' hb hdep K hK
      obtain ⟨v16, e16, j16⟩ := hdep 16 (by kernel_rfl)
      replace e16 : a.tmps[38]? = some v16 := e16
      obtain rfl : v16 = _ := j16
      clear hdep
      go_simp
      exact hK _ _ rfl (Below.refl _ _)
  · intro vs w' hvl hall hb
    match vs, hvl with
    | [v0, v1, v2, v3, v4, v5, v6, v7, v8, v9, v10, v11, v12, v13, v14, v15, v16, v17], _ =>
      obtain rfl : v0 = _ := hall 0 (by decide)
      obtain rfl : v1 = _ := hall 1 (by decide)
      obtain rfl : v2 = _ := hall 2 (by decide)
      obtain rfl : v3 = _ := hall 3 (by decide)
      obtain rfl : v4 = _ := hall 4 (by decide)
      obtain rfl : v5 = _ := hall 5 (by decide)
      obtain rfl : v6 = _ := hall 6 (by decide)
      obtain rfl : v7 = _ := hall 7 (by decide)
      obtain rfl : v8 = _ := hall 8 (by decide)
      obtain rfl : v9 = _ := hall 9 (by decide)
      obtain rfl : v10 = _ := hall 10 (by decide)
      obtain rfl : v11 = _ := hall 11 (by decide)
      obtain rfl : v12 = _ := hall 12 (by decide)
      obtain rfl : v13 = _ := hall 13 (by decide)
      obtain rfl : v14 = _ := hall 14 (by decide)
      obtain rfl : v15 = _ := hall 15 (by decide)
      obtain rfl : v16 = _ := hall 16 (by decide)
      obtain rfl : v17 = _ := hall 17 (by decide)
      simp only [putAll, List.setIfInBounds_toArray, List.set_cons_zero, List.set_cons_succ]
      go_wp2
      go_ret
      exact ⟨rfl, HB.out.trans (hb.mono HB.out.size)⟩
  -- END REGION

theorem room_call (l : List Int) (hl : Lng l) (S : Int) (hS : -9223372036854775808 ≤ S ∧ S ≤ 9223372036854775807) (w : World) :
    Calls Try.prog 6 #[.agg (lg l), .int .i64 S] w fun e w' => e = .returned (.bool true) ∧ Below w.heap.size w w' := by
  by_cases h : S < 0 ∨ 258 ≤ S
  · exact room_out l hl S hS h w
  · obtain ⟨s, rfl⟩ : ∃ s : Nat, S = s := ⟨S.toNat, by omega⟩
    by_cases h2 : l.getD s 0 = 0
    · exact room_in l hl s (by omega) h2 w
    · exact room_no l hl s (by omega) h2 w
end Go.Proofs.Ytcekjibkifdchaa
