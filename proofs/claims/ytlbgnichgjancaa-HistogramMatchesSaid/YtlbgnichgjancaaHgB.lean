/- The reference's Add; Of of both. -/
import Derived.Test.YtlbgnichgjancaaHgA
set_option linter.unusedVariables false
set_option linter.unusedSimpArgs false
namespace Go.Proofs.Ytlbgnichgjancaa
open Go.RowKit

set_option maxRecDepth 100000 in
set_option maxHeartbeats 2000000 in
theorem radd_call (l : List Int) (h : Tal l) (sp : Option Addr) (n c : Nat) (q : List Int) (w : World) (hl : q.length = n) (hs : Src w .i64 sp q) (hm : n ≤ 1000000) :
    Calls Try.prog 11 #[.agg (tl l), .slice sp n c] w fun e w' => e = .returned (.tuple #[.agg (tl (addV l q)), .int .i64 (addE l q)]) ∧ Below w.heap.size w w' := by
  have hz := talZ
  go_enter Try.func11, Try.ntmps11
  go_upto_region 1 with fail
  have hg := heap_alloc2_old w (.cells (tl l) 23) (.cells (tl zT) 23)
  have hr := heap_alloc2_new w (.cells (tl l) 23) (.cells (tl zT) 23)
  have hb : Below w.heap.size w ((w.alloc (.cells (tl l) 23)).alloc (.cells (tl zT) 23)) := ((Below.refl _ _).alloc (Nat.le_refl _) _).alloc (by simp) _
  generalize (w.alloc (.cells (tl l) 23)).alloc (.cells (tl zT) 23) = w1 at hg hr hb ⊢
  have HB := Lib.hid hb
  have HSR := Lib.hid hs
  clear hb hs hz
  have hvc := rvalid_call l h w1
  by_cases hv : VT l
  · rw [decide_eq_true hv] at hvc
    go_upto_region 4 with (first
      | (refine wpList_load_row rfl 23 _ rfl w.heap.size rfl 23 (tl l) (0, 0) _ hg Try.underlying23 rfl (talIk h) ?_)
      | (refine hvc.mono ?_; rintro e w2 ⟨rfl, hb2⟩
         have hg2 := heap_on hb2 hg
         have hr2 := heap_on hb2 hr
         have HB2 := Lib.hid (HB.out.trans (hb2.mono HB.out.size))
         have hz := talZ
         clear hb2 hg hr)
      | (refine wpList_load_row rfl 23 _ rfl w.heap.size rfl 23 (tl l) (0, 0) _ hg2 Try.underlying23 rfl (talIk h) ?_)
      | (refine wpList_store_row rfl 23 _ _ rfl w2.heap.size (tl l) rfl rfl 23 (tl zT) (heap_alloc_last w2 _) (talIk h) (by rw [tl_size zT_tal, tl_size h]) (tl_all _) ?_))
    rw [World.setRow_alloc_new]
    have hA : Ad w l q w2.heap.size 0 (w2.alloc (.cells (tl l) 23)) :=
      ⟨by rw [heap_alloc_old _ _ (Array.getElem?_eq_some_iff.1 hg2).1]; exact hg2, by rw [heap_alloc_old _ _ (Array.getElem?_eq_some_iff.1 hr2).1]; exact hr2, heap_alloc_last _ _, (Array.getElem?_eq_some_iff.1 hr2).1, HB2.out.alloc HB2.out.size _⟩
    have HA := Lib.hid hA
    generalize w2.alloc (.cells (tl l) 23) = w3 at HA ⊢
    obtain ⟨g, hgg⟩ : ∃ g, g = w2.heap.size := ⟨_, rfl⟩
    rw [← hgg] at HA ⊢
    clear hA hg2 hr2 HB2 hz hgg hvc
    go_wp2_with fail
    go_loopw [7] (fun i wr => ∃ k : Nat, k ≤ n ∧ i = .int .i64 k ∧ Ad w l q g k wr ∧ Sy (q.take k)) (fun i _ => n - (intOf i).toNat)
    case atStart => exact ⟨0, by omega, rfl, HA.out, by intro z hz; simp at hz⟩
    case round =>
      obtain ⟨k, hk, rfl, hA, hsy⟩ := hrel
      have HA := Lib.hid hA
      have HSY := Lib.hid hsy
      have HV := Lib.hid hv
      clear hA hsy hv
      by_cases hlt : k < n
      · obtain ⟨sg, so, hspe, hcell⟩ := (HSR.out.below HA.out.bel).get (j := k) (by omega)
        subst hspe
        by_cases hzr : 0 ≤ q.getD k 0 ∧ q.getD k 0 < 258
        · obtain ⟨s, hs⟩ : ∃ s : Nat, q.getD k 0 = s := ⟨(q.getD k 0).toNat, by omega⟩
          have hs258 : s < 258 := by omega
          have HT : Tal (addN l (q.take k)) := addN_tal h.1 HV.out _ (by rw [List.length_take]; omega)
          have hcl := tl_cell HA.out.own HT s hs258
          have hfz : wr.frozen? ⟨g, s, none⟩ = false := frozen_of_row wr g s _ _ HA.out.own
          have HST := Lib.hid (HA.out.step (by omega) s hs)
          have HSY2 := Lib.hid (sy_step (k := k) (by omega) HSY.out hzr)
          have hbd : 0 ≤ (addN l (q.take k)).getD s 0 ∧ (addN l (q.take k)).getD s 0 ≤ 2148483647 := by
            have e1 := addN_get l (q.take k) s (by rw [h.1]; exact hs258)
            have e2 := HV.out.get s
            have e3 := cntN_le (q.take k) s
            rw [List.length_take] at e3
            omega
          rw [hs] at hcell
          clear hs hzr HT
          generalize (addN l (q.take k)).getD s 0 = F at hcl HST hbd
          go_wp2_with fail
          exact ⟨⟨k + 1, by omega, by go_num, HST.out, HSY2.out⟩, by simp [intOf]; omega⟩
        · obtain ⟨e1, e2⟩ := add_no (addOk_stranger (l := l) (q := q) k (by omega) (by omega))
          have E1 := Lib.hid e1
          have E2 := Lib.hid e2
          have hbx := HA.out.box
          have hre := HA.out.res
          have hzr' : q.getD k 0 < 0 ∨ 258 ≤ q.getD k 0 := by omega
          clear e1 e2 hzr
          generalize q.getD k 0 = Z at hcell hzr'
          rcases hzr' with hZ | hZ
          · go_wp2_with (first
              | (refine wpList_load_row rfl 23 _ rfl w.heap.size rfl 23 (tl l) (0, 0) _ hbx Try.underlying23 rfl (talIk h) ?_)
              | (refine wpList_store_row rfl 23 _ _ rfl (w.heap.size + 1) (tl l) rfl rfl 23 (tl zT) hre (talIk h) (by rw [tl_size zT_tal, tl_size h]) (tl_all _) ?_))
            refine bodyPost_ret (v := .tuple #[.agg (tl l), .int .i64 2]) ?_ rfl ⟨by rw [E1.out, E2.out], HA.out.bel.setRow (by omega) _⟩
            exact results_cell_tmp Try.results11 _ _ (w.heap.size + 1) 23 (tl l) (0, 0) _ _ rfl rfl (setRow_heap _ _ _ _ _ _ hre) Try.underlying23 rfl (talIk h)
          · have hZ2 : ¬ Z < 0 := by omega
            go_wp2_with (first
              | (refine wpList_load_row rfl 23 _ rfl w.heap.size rfl 23 (tl l) (0, 0) _ hbx Try.underlying23 rfl (talIk h) ?_)
              | (refine wpList_store_row rfl 23 _ _ rfl (w.heap.size + 1) (tl l) rfl rfl 23 (tl zT) hre (talIk h) (by rw [tl_size zT_tal, tl_size h]) (tl_all _) ?_))
            refine bodyPost_ret (v := .tuple #[.agg (tl l), .int .i64 2]) ?_ rfl ⟨by rw [E1.out, E2.out], HA.out.bel.setRow (by omega) _⟩
            exact results_cell_tmp Try.results11 _ _ (w.heap.size + 1) 23 (tl l) (0, 0) _ _ rfl rfl (setRow_heap _ _ _ _ _ _ hre) Try.underlying23 rfl (talIk h)
      · obtain rfl : k = n := by omega
        have htk : q.take k = q := List.take_of_length_le (by omega)
        rw [htk] at HSY
        have hT := addN_tal h.1 HV.out q (by omega)
        have hbx := HA.out.box
        have hre := HA.out.res
        have how := HA.out.own
        rw [htk] at how
        have HY := Lib.hid (fun hvt => add_yes (show addOk l q from ⟨HV.out, HSY.out, hvt⟩))
        have HN := Lib.hid (fun (hvt : ¬ VT (addN l q)) => add_no (show ¬ addOk l q from fun ho => hvt ho.2.2))
        clear htk
        generalize addN l q = L at how hT HY HN
        have hvl := rvalid_call L hT wr
        by_cases hvt : VT L
        · rw [decide_eq_true hvt] at hvl
          have E1 := Lib.hid (HY.out hvt).1
          have E2 := Lib.hid (HY.out hvt).2
          go_wp2_with (first
            | (refine wpList_load_row rfl 23 _ rfl g rfl 23 (tl L) (0, 0) _ how Try.underlying23 rfl (talIk hT) ?_)
            | (refine hvl.mono ?_; rintro e w5 ⟨rfl, hb5⟩
               have hre5 := heap_on hb5 hre
               have how5 := heap_on hb5 how
               have HB5 := Lib.hid (HA.out.bel.trans (hb5.mono HA.out.bel.size))
               clear hb5 how hre)
            | (refine wpList_load_row rfl 23 _ rfl g rfl 23 (tl L) (0, 0) _ how5 Try.underlying23 rfl (talIk hT) ?_)
            | (refine wpList_store_row rfl 23 _ _ rfl (w.heap.size + 1) (tl L) rfl rfl 23 (tl zT) hre5 (talIk hT) (by rw [tl_size zT_tal, tl_size hT]) (tl_all _) ?_))
          refine bodyPost_ret (v := .tuple #[.agg (tl L), .int .i64 0]) ?_ rfl ⟨by rw [E1.out, E2.out], HB5.out.setRow (by omega) _⟩
          exact results_cell_tmp Try.results11 _ _ (w.heap.size + 1) 23 (tl L) (0, 0) _ _ rfl rfl (setRow_heap _ _ _ _ _ _ hre5) Try.underlying23 rfl (talIk hT)
        · rw [decide_eq_false hvt] at hvl
          have E1 := Lib.hid (HN.out hvt).1
          have E2 := Lib.hid (HN.out hvt).2
          go_wp2_with (first
            | (refine wpList_load_row rfl 23 _ rfl g rfl 23 (tl L) (0, 0) _ how Try.underlying23 rfl (talIk hT) ?_)
            | (refine hvl.mono ?_; rintro e w5 ⟨rfl, hb5⟩
               have hre5 := heap_on hb5 hre
               have hbx5 := heap_on hb5 hbx
               have HB5 := Lib.hid (HA.out.bel.trans (hb5.mono HA.out.bel.size))
               clear hb5 hbx hre)
            | (refine wpList_load_row rfl 23 _ rfl w.heap.size rfl 23 (tl l) (0, 0) _ hbx5 Try.underlying23 rfl (talIk h) ?_)
            | (refine wpList_store_row rfl 23 _ _ rfl (w.heap.size + 1) (tl l) rfl rfl 23 (tl zT) hre5 (talIk h) (by rw [tl_size zT_tal, tl_size h]) (tl_all _) ?_))
          refine bodyPost_ret (v := .tuple #[.agg (tl l), .int .i64 2]) ?_ rfl ⟨by rw [E1.out, E2.out], HB5.out.setRow (by omega) _⟩
          exact results_cell_tmp Try.results11 _ _ (w.heap.size + 1) 23 (tl l) (0, 0) _ _ rfl rfl (setRow_heap _ _ _ _ _ _ hre5) Try.underlying23 rfl (talIk h)
  · rw [decide_eq_false hv] at hvc
    obtain ⟨e1, e2⟩ := add_no (show ¬ addOk l q from fun ho => hv ho.1)
    have E1 := Lib.hid e1
    have E2 := Lib.hid e2
    clear e1 e2
    go_wp2_with (first
      | (refine wpList_load_row rfl 23 _ rfl w.heap.size rfl 23 (tl l) (0, 0) _ hg Try.underlying23 rfl (talIk h) ?_)
      | (refine hvc.mono ?_; rintro e w2 ⟨rfl, hb2⟩
         have hg2 := heap_on hb2 hg
         have hr2 := heap_on hb2 hr
         have HB2 := Lib.hid (HB.out.trans (hb2.mono HB.out.size))
         clear hb2 hg hr)
      | (refine wpList_load_row rfl 23 _ rfl w.heap.size rfl 23 (tl l) (0, 0) _ hg2 Try.underlying23 rfl (talIk h) ?_)
      | (refine wpList_store_row rfl 23 _ _ rfl (w.heap.size + 1) (tl l) rfl rfl 23 (tl zT) hr2 (talIk h) (by rw [tl_size zT_tal, tl_size h]) (tl_all _) ?_))
    refine bodyPost_ret (v := .tuple #[.agg (tl l), .int .i64 2]) ?_ rfl ⟨by rw [E1.out, E2.out], HB2.out.setRow (by omega) _⟩
    exact results_cell_tmp Try.results11 _ _ (w.heap.size + 1) 23 (tl l) (0, 0) _ _ rfl rfl (setRow_heap _ _ _ _ _ _ hr2) Try.underlying23 rfl (talIk h)

/-! Of. -/
theorem run_built : Try.prog.built 23 [] = some (tl zT) := by kernel_rfl
theorem wpList_zeroT {ops : Array Oper} {rest : List Oper} {o : Oper} {a : Act} {w : World} {Q : Exit → Act → World → Prop} (hg : o.guard = none) (ho : o.op = .build 23 #[])
    (h : wpList Try.prog ops Q rest (a.put o.dst (.agg (tl zT))) w) : wpList Try.prog ops Q (o :: rest) a w :=
  wpList_build hg 23 #[] ho (by simp [run_built]) (by simp only [Array.map_empty, List.toList_toArray, run_built, Option.getD_some]; exact h)

set_option maxRecDepth 100000 in
set_option maxHeartbeats 2000000 in
theorem of_call (sp : Option Addr) (n c : Nat) (q : List Int) (w : World) (hl : q.length = n) (hs : Src w .i64 sp q) (hm : n ≤ 1000000) :
    Calls Try.prog 8 #[.slice sp n c] w fun e w' => e = .returned (.tuple #[.agg (tl (addV zT q)), .int .i64 (addE zT q)]) ∧ Below w.heap.size w w' := by
  have hz := talZ
  go_enter Try.func8, Try.ntmps8
  go_upto_region 1 with fail
  have hg := heap_alloc_last w (.cells (tl zT) 23)
  have hb := (Below.refl w.heap.size w).alloc (Nat.le_refl _) (.cells (tl zT) 23)
  generalize w.alloc (.cells (tl zT) 23) = w1 at hg hb ⊢
  have HB := Lib.hid hb
  have hac := add_call zT zT_tal sp n c q w1 hl (hs.below hb) hm
  have hT := addV_tal zT_tal q (by omega)
  clear hb hs hz
  obtain ⟨L, hL⟩ : ∃ L, L = addV zT q := ⟨_, rfl⟩
  obtain ⟨E, hE⟩ : ∃ E, E = addE zT q := ⟨_, rfl⟩
  rw [← hL, ← hE] at hac
  rw [← hL] at hT
  have HL := Lib.hid hL
  have HE := Lib.hid hE
  clear hL hE
  go_wp2_with (first
    | (refine wpList_zeroT rfl rfl ?_)
    | (refine hac.mono ?_; rintro e w2 ⟨rfl, hb2⟩
       have hg2 := heap_on hb2 hg
       have HB2 := Lib.hid (HB.out.trans (hb2.mono HB.out.size))
       clear hb2 hg)
    | (refine wpList_store_row rfl 23 _ _ rfl w.heap.size (tl L) rfl rfl 23 (tl zT) hg2 (talIk hT) (by rw [tl_size zT_tal, tl_size hT]) (tl_all _) ?_))
  refine bodyPost_ret (v := .tuple #[.agg (tl L), .int .i64 E]) ?_ rfl ⟨by rw [HL.out, HE.out], HB2.out.setRow (Nat.le_refl _) _⟩
  exact results_cell_tmp Try.results8 _ _ w.heap.size 23 (tl L) (0, 0) _ _ rfl rfl (setRow_heap _ _ _ _ _ _ hg2) Try.underlying23 rfl (talIk hT)

set_option maxRecDepth 100000 in
set_option maxHeartbeats 2000000 in
theorem rof_call (sp : Option Addr) (n c : Nat) (q : List Int) (w : World) (hl : q.length = n) (hs : Src w .i64 sp q) (hm : n ≤ 1000000) :
    Calls Try.prog 9 #[.slice sp n c] w fun e w' => e = .returned (.tuple #[.agg (tl (addV zT q)), .int .i64 (addE zT q)]) ∧ Below w.heap.size w w' := by
  have hz := talZ
  go_enter Try.func9, Try.ntmps9
  go_upto_region 1 with fail
  have hg := heap_alloc_last w (.cells (tl zT) 23)
  have hb := (Below.refl w.heap.size w).alloc (Nat.le_refl _) (.cells (tl zT) 23)
  generalize w.alloc (.cells (tl zT) 23) = w1 at hg hb ⊢
  have HB := Lib.hid hb
  have hac := radd_call zT zT_tal sp n c q w1 hl (hs.below hb) hm
  have hT := addV_tal zT_tal q (by omega)
  clear hb hs hz
  obtain ⟨L, hL⟩ : ∃ L, L = addV zT q := ⟨_, rfl⟩
  obtain ⟨E, hE⟩ : ∃ E, E = addE zT q := ⟨_, rfl⟩
  rw [← hL, ← hE] at hac
  rw [← hL] at hT
  have HL := Lib.hid hL
  have HE := Lib.hid hE
  clear hL hE
  go_wp2_with (first
    | (refine wpList_zeroT rfl rfl ?_)
    | (refine hac.mono ?_; rintro e w2 ⟨rfl, hb2⟩
       have hg2 := heap_on hb2 hg
       have HB2 := Lib.hid (HB.out.trans (hb2.mono HB.out.size))
       clear hb2 hg)
    | (refine wpList_store_row rfl 23 _ _ rfl w.heap.size (tl L) rfl rfl 23 (tl zT) hg2 (talIk hT) (by rw [tl_size zT_tal, tl_size hT]) (tl_all _) ?_))
  refine bodyPost_ret (v := .tuple #[.agg (tl L), .int .i64 E]) ?_ rfl ⟨by rw [HL.out, HE.out], HB2.out.setRow (Nat.le_refl _) _⟩
  exact results_cell_tmp Try.results9 _ _ w.heap.size 23 (tl L) (0, 0) _ _ rfl rfl (setRow_heap _ _ _ _ _ _ hg2) Try.underlying23 rfl (talIk hT)
end Go.Proofs.Ytlbgnichgjancaa
