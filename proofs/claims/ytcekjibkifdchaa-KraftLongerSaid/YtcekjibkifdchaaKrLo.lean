/- Law KraftLonger. -/
import Derived.Test.YtcekjibkifdchaaKrK
import Derived.Test.YtcekjibkifdchaaKrM
import Derived.Test.YtcekjibkifdchaaOl
set_option linter.unusedVariables false
set_option linter.unusedSimpArgs false
namespace Go.Proofs.Ytcekjibkifdchaa
open Go.RowKit

theorem L1.on {x w w' : World} {l : List Int} (h : L1 x l w) (hb : Below w.heap.size w w') : L1 x l w' := ⟨h.lng, heap_on hb h.row, h.bel.trans (hb.mono h.bel.size)⟩

set_option maxRecDepth 100000 in
set_option maxHeartbeats 8000000 in
theorem longer_out (l : List Int) (hl : Lng l) (S : Int) (hS : -9223372036854775808 ≤ S ∧ S ≤ 9223372036854775807) (h : S < 0 ∨ 258 ≤ S) (w : World) :
    Calls Try.prog 4 #[.agg (lg l), .int .i64 S] w fun e w' => e = .returned (.bool true) ∧ Below w.heap.size w w' := by
  have hwk := wakes_call
  go_enter Try.func4, Try.ntmps4
  go_upto_region 1 with fail
  have hb := below_al w (.cells (lg l) 23)
  generalize w.alloc (.cells (lg l) 23) = w1 at hb ⊢
  have HB := Lib.hid hb
  clear hb
  by_cases h1 : S < 0
  · clear h
    go_wp2_with (with_reducible refine (hwk _).mono ?_; rintro e z ⟨rfl, hb⟩)
    go_ret
    exact ⟨rfl, HB.out.trans (hb.mono HB.out.size)⟩
  · have h2 : 258 ≤ S := by omega
    clear h
    go_wp2_with (with_reducible refine (hwk _).mono ?_; rintro e z ⟨rfl, hb⟩)
    go_ret
    exact ⟨rfl, HB.out.trans (hb.mono HB.out.size)⟩

set_option maxRecDepth 100000 in
set_option maxHeartbeats 8000000 in
theorem longer_no (l : List Int) (hl : Lng l) (s : Nat) (hs : s < 258) (h : l.getD s 0 < 1 ∨ 14 < l.getD s 0) (w : World) :
    Calls Try.prog 4 #[.agg (lg l), .int .i64 s] w fun e w' => e = .returned (.bool true) ∧ Below w.heap.size w w' := by
  have hwk := wakes_call
  go_enter Try.func4, Try.ntmps4
  go_upto_region 1 with fail
  have hb := below_al w (.cells (lg l) 23)
  have hg := heap_alloc_last w (.cells (lg l) 23)
  generalize w.alloc (.cells (lg l) 23) = w1 at hb hg ⊢
  have hcl := lg_cell hg hl s hs
  have hbd := hl.bd s
  have HB := Lib.hid hb
  generalize l.getD s 0 = V at h hcl hbd
  clear hb
  by_cases h1 : V < 1
  · clear h
    go_wp2_with (with_reducible refine (hwk _).mono ?_; rintro e z ⟨rfl, hb⟩)
    go_ret
    exact ⟨rfl, HB.out.trans (hb.mono HB.out.size)⟩
  · have h2 : 14 < V := by omega
    clear h
    go_wp2_with (with_reducible refine (hwk _).mono ?_; rintro e z ⟨rfl, hb⟩)
    go_ret
    exact ⟨rfl, HB.out.trans (hb.mono HB.out.size)⟩

set_option maxRecDepth 100000 in
set_option maxHeartbeats 8000000 in
theorem longer_in (l : List Int) (hl : Lng l) (s : Nat) (hs : s < 258) (n : Nat) (hn : l.getD s 0 = n) (h1 : 1 ≤ n) (h14 : n ≤ 14) (w : World) :
    Calls Try.prog 4 #[.agg (lg l), .int .i64 s] w fun e w' => e = .returned (.bool true) ∧ Below w.heap.size w w' := by
  have hwk := wakes_call
  have hzL := lngZ
  have hP := hl.set s ((n : Int) + 1) (WalkArith.wf_u8 ⟨by omega, by omega⟩)
  have hQ := hl.set s ((n : Int) - 1) (WalkArith.wf_u8 ⟨by omega, by omega⟩)
  have e1 := ks_set l s (by rw [hl.1]; exact hs) ((n : Int) + 1)
  have e2 := ks_set l s (by rw [hl.1]; exact hs) ((n : Int) - 1)
  rw [hn] at e1 e2
  obtain ⟨a1, a2, a3, a4⟩ := wt_half h1 h14
  have hb0 := ks_bd hl
  have hb1 := ks_bd hP
  have hb2 := ks_bd hQ
  have hbx := wt_bd (n : Int)
  have hby := wt_bd ((n : Int) - 1)
  have HT := Lib.hid (fun h2 : 2 ≤ n => wt_twice h2 h14)
  have hcL := fun w => sum_call l hl w
  have hcP := fun w => sum_call _ hP w
  have hcQ := fun w => sum_call _ hQ w
  have hfL := fun w => fits_call l hl w
  have hfP := fun w => fits_call _ hP w
  have hkP := fun w => complete_call _ hP w
  have HPS := Lib.hid (show ∀ z, (lg l).setIfInBounds s (.int .u8 z) = lg (l.set s z) from lg_set l s)
  generalize ks (l.set s ((n : Int) + 1)) = p at e1 hb1 hcP hfP hkP
  generalize ks (l.set s ((n : Int) - 1)) = q at e2 hb2 hcQ
  obtain ⟨k, hk⟩ : ∃ k, k = ks l := ⟨_, rfl⟩
  rw [← hk] at e1 e2 hb0 hcL hfL
  clear hk
  generalize wt ((n : Int) + 1) = x at e1 a1 a2 a3 a4
  generalize wt (n : Int) = y at e1 e2 a1 hbx HT
  generalize wt ((n : Int) - 1) = v at e2 hby HT
  have HD := Lib.hid (show k - p = x by omega)
  have HX := Lib.hid a2.symm
  have HQK := Lib.hid (show q - k = v - y by omega)
  have HP1 := Lib.hid (show decide (k ≤ 32768) = true → decide (p ≤ 32768) = true ∧ decide (p = 32768) = false from fun h => by
    rw [decide_eq_true_eq] at h
    exact ⟨by rw [decide_eq_true_eq]; omega, by rw [decide_eq_false_iff_not]; omega⟩)
  clear e1 e2 a1 a2
  go_enter Try.func4, Try.ntmps4
  go_upto_region 1 with fail
  have hb := below_al w (.cells (lg l) 23)
  have hg := heap_alloc_last w (.cells (lg l) 23)
  generalize w.alloc (.cells (lg l) 23) = w1 at hb hg ⊢
  have hcl := lg_cell hg hl s hs
  rw [hn] at hcl
  have HB := Lib.hid hb
  clear hb hn
  go_upto_region 8 with (first
    | (refine wpList_load_row rfl 23 _ rfl w.heap.size rfl 23 (lg l) (0, 0) _ hg Try.underlying23 rfl (lngIk hl) ?_)
    | (with_reducible refine (hcL _).mono ?_
       rintro e z ⟨rfl, hb⟩
       replace HB := Lib.hid (HB.out.trans (hb.mono HB.out.size))
       replace hg := heap_on hb hg
       clear hb hcL hcl)
    | (refine wpList_store_row rfl 23 _ _ rfl z.heap.size (lg l) rfl rfl 23 (lg zL) (heap_alloc_last z _) (lngIk hl) (by rw [lg_size zL_lng, lg_size hl]) (lg_all _) ?_))
  rw [World.setRow_alloc_new]
  have hm := L1.new z hl
  generalize z.alloc (.cells (lg l) 23) = z1 at hm ⊢
  simp only [Act.put]
  have HZ := HB
  go_upto_region 9 with (refine hm.st rfl _ _ rfl rfl s hs rfl ((n : Int) + 1) (WalkArith.wf_u8 ⟨by omega, by omega⟩) rfl ?_; clear hm; intro z2 hm)
  replace hg := heap_on hm.bel hg
  replace HB := Lib.hid (HB.out.trans (hm.bel.mono HB.out.size))
  go_upto_region 10 with (first
    | (refine wpList_load_row rfl 23 _ rfl z.heap.size rfl 23 (lg (l.set s ((n : Int) + 1))) (0, 0) _ hm.row Try.underlying23 rfl (lngIk hP) ?_)
    | (with_reducible refine (hcP _).mono ?_
       rintro e z3 ⟨rfl, hb⟩
       replace HB := Lib.hid (HB.out.trans (hb.mono HB.out.size))
       replace hg := heap_on hb hg
       replace hm := hm.on hb
       clear hb hcP))
  have hd : k - p = x := HD.out
  have hx : (32768 : Int) / 2 ^ (n + 1) = x := HX.out
  have hp1 : decide (k ≤ 32768) = true → decide (p ≤ 32768) = true ∧ decide (p = 32768) = false := HP1.out
  obtain ⟨F, hF⟩ : ∃ F, F = decide (k ≤ 32768) := ⟨_, rfl⟩
  rw [← hF] at hfL hp1
  clear hF
  cases F with
  | true =>
    obtain ⟨c1, c2⟩ := hp1 rfl
    rw [c1] at hfP
    rw [c2] at hkP
    clear hp1
    go_wp2_with (refine wpList_load_row_g 8 false rfl 43 rfl _ rfl rfl 23 _ rfl w.heap.size rfl 23 (lg l) (0, 0) _ hg Try.underlying23 rfl (lngIk hl) ?_)
    with_reducible refine (hfL _).mono ?_
    rintro e y1 ⟨rfl, hb⟩
    replace HB := Lib.hid (HB.out.trans (hb.mono HB.out.size))
    replace hg := heap_on hb hg
    replace hm := hm.on hb
    clear hb hfL
    go_wp2_with (refine wpList_load_row_g 11 true rfl 46 rfl _ rfl rfl 23 _ rfl z.heap.size rfl 23 (lg (l.set s ((n : Int) + 1))) (0, 0) _ hm.row Try.underlying23 rfl (lngIk hP) ?_)
    with_reducible refine (hfP _).mono ?_
    rintro e y2 ⟨rfl, hb⟩
    replace HB := Lib.hid (HB.out.trans (hb.mono HB.out.size))
    replace hg := heap_on hb hg
    replace hm := hm.on hb
    clear hb hfP
    go_wp2_with (refine wpList_load_row_g 15 false rfl 50 rfl _ rfl rfl 23 _ rfl z.heap.size rfl 23 (lg (l.set s ((n : Int) + 1))) (0, 0) _ hm.row Try.underlying23 rfl (lngIk hP) ?_)
    with_reducible refine (hkP _).mono ?_
    rintro e y3 ⟨rfl, hb⟩
    replace HB := Lib.hid (HB.out.trans (hb.mono HB.out.size))
    replace hg := heap_on hb hg
    replace hm := hm.on hb
    clear hb hkP
    go_upto_region 12 with fail
    by_cases h1 : n = 1
    · subst h1
      go_wp2_with (with_reducible refine (hwk _).mono ?_; rintro e y9 ⟨rfl, hb⟩)
      go_ret
      exact ⟨rfl, HB.out.trans (hb.mono HB.out.size)⟩
    · have hn1 : ((n : Int) == 1) = false := by simp; omega
      obtain ⟨b1, b2⟩ := HT.out (by omega)
      have hd2 : q - k = y := by have := HQK.out; omega
      have hx2 : (32768 : Int) / 2 ^ n = y := b2.symm
      clear b1 b2 hd hx
      go_upto_region 15 with (refine hm.st rfl _ _ rfl rfl s hs rfl ((n : Int) - 1) (WalkArith.wf_u8 ⟨by omega, by omega⟩) rfl ?_; intro y1 hm1)
      rw [List.set_set] at hm1
      have HB1 := Lib.hid (hm1.bel)
      go_wp2_with (refine wpList_load_row rfl 23 _ rfl z.heap.size rfl 23 (lg (l.set s ((n : Int) - 1))) (0, 0) _ hm1.row Try.underlying23 rfl (lngIk hQ) ?_)
      with_reducible refine (hcQ _).mono ?_
      rintro e y2 ⟨rfl, hb1⟩
      replace hb1 := Lib.hid hb1
      go_wp2_with (with_reducible refine (hwk _).mono ?_; rintro e y9 ⟨rfl, hb⟩)
      go_ret
      exact ⟨rfl, (HZ.out.trans (HB1.out.mono HZ.out.size)).trans ((hb1.out.trans (hb.mono hb1.out.size)).mono (HZ.out.trans (HB1.out.mono HZ.out.size)).size)⟩
  | false =>
    clear hp1 hfP hkP
    go_wp2_with (refine wpList_load_row_g 8 false rfl 43 rfl _ rfl rfl 23 _ rfl w.heap.size rfl 23 (lg l) (0, 0) _ hg Try.underlying23 rfl (lngIk hl) ?_)
    with_reducible refine (hfL _).mono ?_
    rintro e y1 ⟨rfl, hb⟩
    replace HB := Lib.hid (HB.out.trans (hb.mono HB.out.size))
    replace hg := heap_on hb hg
    replace hm := hm.on hb
    clear hb hfL
    go_upto_region 12 with fail
    by_cases h1 : n = 1
    · subst h1
      go_wp2_with (with_reducible refine (hwk _).mono ?_; rintro e y9 ⟨rfl, hb⟩)
      go_ret
      exact ⟨rfl, HB.out.trans (hb.mono HB.out.size)⟩
    · have hn1 : ((n : Int) == 1) = false := by simp; omega
      obtain ⟨b1, b2⟩ := HT.out (by omega)
      have hd2 : q - k = y := by have := HQK.out; omega
      have hx2 : (32768 : Int) / 2 ^ n = y := b2.symm
      clear b1 b2 hd hx
      go_upto_region 15 with (refine hm.st rfl _ _ rfl rfl s hs rfl ((n : Int) - 1) (WalkArith.wf_u8 ⟨by omega, by omega⟩) rfl ?_; intro y1 hm1)
      rw [List.set_set] at hm1
      have HB1 := Lib.hid (hm1.bel)
      go_wp2_with (refine wpList_load_row rfl 23 _ rfl z.heap.size rfl 23 (lg (l.set s ((n : Int) - 1))) (0, 0) _ hm1.row Try.underlying23 rfl (lngIk hQ) ?_)
      with_reducible refine (hcQ _).mono ?_
      rintro e y2 ⟨rfl, hb1⟩
      replace hb1 := Lib.hid hb1
      go_wp2_with (with_reducible refine (hwk _).mono ?_; rintro e y9 ⟨rfl, hb⟩)
      go_ret
      exact ⟨rfl, (HZ.out.trans (HB1.out.mono HZ.out.size)).trans ((hb1.out.trans (hb.mono hb1.out.size)).mono (HZ.out.trans (HB1.out.mono HZ.out.size)).size)⟩

theorem longer_call (l : List Int) (hl : Lng l) (S : Int) (hS : -9223372036854775808 ≤ S ∧ S ≤ 9223372036854775807) (w : World) :
    Calls Try.prog 4 #[.agg (lg l), .int .i64 S] w fun e w' => e = .returned (.bool true) ∧ Below w.heap.size w w' := by
  by_cases h : S < 0 ∨ 258 ≤ S
  · exact longer_out l hl S hS h w
  · obtain ⟨s, rfl⟩ : ∃ s : Nat, S = s := ⟨S.toNat, by omega⟩
    by_cases h2 : l.getD s 0 < 1 ∨ 14 < l.getD s 0
    · exact longer_no l hl s (by omega) h2 w
    · exact longer_in l hl s (by omega) (l.getD s 0).toNat (by omega) (by omega) (by omega) w
end Go.Proofs.Ytcekjibkifdchaa
