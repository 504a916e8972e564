/- Law PackageMergeLimit. -/
import Derived.Test.YtemjlmeakkknbaaWk7
import Derived.Test.YtemjlmeakkknbaaLc
import Derived.Test.YtemjlmeakkknbaaOp
import Derived.Test.YtemjlmeakkknbaaFrm2
set_option linter.unusedVariables false
set_option linter.unusedSimpArgs false
namespace Go.Proofs.Ytemjlmeakkknbaa
open Go.RowKit

set_option maxRecDepth 100000 in
set_option maxHeartbeats 8000000 in
theorem limit_law (t : List Int) (ht : Tal t) (a b : Int) (ha : -9223372036854775808 ≤ a ∧ a ≤ 9223372036854775807) (hb : -9223372036854775808 ≤ b ∧ b ≤ 9223372036854775807) (w : World) :
    Calls Try.prog 6 #[.agg (tl t), .int .i64 a, .int .i64 b] w fun e w' => e = .returned (.bool true) ∧ Below w.heap.size w w' := by
  have hzT := talZ
  have hzL := lngZ
  go_enter Try.func6, Try.ntmps6
  go_wp2_with fail
  have hg := heap_alloc2_old w (.cells (tl t) 23) (.cells (tl zT) 23)
  have hg2 := heap_alloc2_new w (.cells (tl t) 23) (.cells (tl zT) 23)
  have hbl : Below w.heap.size w ((w.alloc (.cells (tl t) 23)).alloc (.cells (tl zT) 23)) := ((Below.refl _ _).alloc (Nat.le_refl _) _).alloc (by simp) _
  generalize (w.alloc (.cells (tl t) 23)).alloc (.cells (tl zT) 23) = w1 at hg hg2 hbl ⊢
  have HG := Lib.hid hg
  have HG2 := Lib.hid hg2
  have HB := Lib.hid hbl
  clear hg hg2 hbl
  go_loopw [8] (fun i wr => ∃ (k : Nat) (q : List Int), k ≤ 258 ∧ i = .int .i64 k ∧ Dbl t q k ∧ (∀ j, j < k → 0 ≤ t.getD j 0 ∧ t.getD j 0 ≤ 1073741823) ∧ wr.heap[w.heap.size]? = some (.cells (tl t) 23 (0, 0)) ∧ wr.heap[w.heap.size + 1]? = some (.cells (tl q) 23 (0, 0)) ∧ Below w.heap.size w wr) (fun i _ => 258 - (intOf i).toNat)
  case atStart => exact ⟨0, zT, by omega, rfl, Dbl.start t, fun j hj => by omega, HG.out, HG2.out, HB.out⟩
  case round =>
    obtain ⟨k, q, hk, rfl, hd, hv, hg, hg2, hbl⟩ := hrel
    have HD := Lib.hid hd
    have HV := Lib.hid hv
    have HBL := Lib.hid hbl
    clear hd hv hbl HG HG2 HB
    by_cases hlt : k < 258
    · have hcl := tl_cell hg ht k hlt
      have hcq := tl_cell hg2 (HD.out.tal HV.out) k hlt
      have hfq := frozen_of_row _ _ k _ _ hg2
      have hbd := ht.bd k
      have HST := Lib.hid (HD.out.step hlt)
      have HVS := Lib.hid (show ∀ (h1 : 0 ≤ t.getD k 0) (h2 : t.getD k 0 ≤ 1073741823), ∀ j, j < k + 1 → 0 ≤ t.getD j 0 ∧ t.getD j 0 ≤ 1073741823 from fun h1 h2 j hj => by
        by_cases hjk : j = k
        · subst hjk; exact ⟨h1, h2⟩
        · exact HV.out j (by omega))
      generalize t.getD k 0 = V at hcl hbd HST HVS
      generalize q.getD k 0 = Z at hcq
      by_cases h1 : V < 0 ∨ 1073741823 < V
      · have hdec : (decide (V < 0) || decide (1073741823 < V)) = true := by simpa using h1
        have hwk := wakes_call
        rcases h1 with h1 | h1
        · go_wp2_with (with_reducible refine (hwk _).mono ?_; rintro e w5 ⟨rfl, hb5⟩)
          go_ret
          exact ⟨rfl, HBL.out.trans (hb5.mono HBL.out.size)⟩
        · have h0 : ¬ V < 0 := by omega
          go_wp2_with (with_reducible refine (hwk _).mono ?_; rintro e w5 ⟨rfl, hb5⟩)
          go_ret
          exact ⟨rfl, HBL.out.trans (hb5.mono HBL.out.size)⟩
      · have h2 : ¬ V < 0 := by omega
        have h3 : ¬ 1073741823 < V := by omega
        have hwr : IntKind.i64.wrap (2 * V) = 2 * V := by rw [IntKind.wrap_i64]; omega
        clear h1
        go_wp2_with fail
        refine ⟨⟨k + 1, _, by omega, by go_num, HST.out, HVS.out (by omega) (by omega), ?_, ?_, HBL.out.setCell (by simp) _⟩, by simp [intOf]; omega⟩
        · rw [heap_setCell_other _ _ _ _ (by simp)]; exact hg
        · rw [heap_setCell_same _ _ _ _ _ _ hg2, tl_set]
    · obtain rfl : k = 258 := by omega
      have hqt := HD.out.tal HV.out
      obtain ⟨s1, s2⟩ := HD.out.same ht HV.out a
      have hkA := fun w => lengths_call t ht a ha w
      have hkB := fun w => lengths_call t ht b hb w
      have hkC := fun w => lengths_call q hqt a ha w
      rw [s1, s2] at hkC
      have HAB := Lib.hid (fun (h1 : LOk t a) (h2 : LOk t b) (h3 : a ≤ b) => limit_tot ht h1 h2 h3)
      have HBA := Lib.hid (fun (h1 : LOk t a) (h2 : LOk t b) (h3 : b ≤ a) => limit_tot ht h2 h1 h3)
      have HEA := Lib.hid (fun (h1 : lenE t a = 0) => show LOk t a from by
        by_cases h : LOk t a
        · exact h
        · rw [(lenQ_no h).2] at h1; omega)
      have HEB := Lib.hid (fun (h1 : lenE t b = 0) => show LOk t b from by
        by_cases h : LOk t b
        · exact h
        · rw [(lenQ_no h).2] at h1; omega)
      have hlA := lenQ_lng ht a
      have hlB := lenQ_lng ht b
      have htA := fun w => total_call t (lenQ t a) ht hlA w
      have htB := fun w => total_call t (lenQ t b) ht hlB w
      clear s1 s2 HD HV
      generalize lenQ t a = QA at hkA hkC HAB HBA hlA htA
      generalize lenQ t b = QB at hkB HAB HBA hlB htB
      generalize lenE t a = EA at hkA hkC HEA
      generalize lenE t b = EB at hkB HEB
      generalize totV t QA = TA at HAB HBA htA
      generalize totV t QB = TB at HAB HBA htB
      have heq := fun w => run_eqi_lng w hlA hlA
      rw [decide_eq_true rfl] at heq
      have HTA := Lib.hid htA
      have HTB := Lib.hid htB
      clear htA htB hk hlt
      go_upto_region 9 with (first
        | (refine wpList_load_row rfl 23 _ rfl (w.heap.size) rfl 23 (tl t) (0, 0) _ hg Try.underlying23 rfl (talIk ht) ?_)
        | (with_reducible refine (hkA _).mono ?_
           rintro e x1 ⟨rfl, hb⟩
           replace HBL := Lib.hid (HBL.out.trans (hb.mono HBL.out.size))
           replace hg := heap_on hb hg
           replace hg2 := heap_on hb hg2
           clear hb hkA)
        | (refine wpList_store_row rfl 25 _ _ rfl x1.heap.size (lg QA) rfl rfl 25 (lg zL) (heap_alloc_last x1 _) (lngIk hlA) (by rw [lg_size zL_lng, lg_size hlA]) (lg_all _) ?_))
      rw [World.setRow_alloc_new]
      have hbq := below_al x1 (.cells (lg QA) 25)
      have hl1 := heap_alloc_last x1 (.cells (lg QA) 25)
      replace HBL := Lib.hid (HBL.out.trans (hbq.mono HBL.out.size))
      replace hg := heap_on hbq hg
      replace hg2 := heap_on hbq hg2
      generalize x1.alloc (.cells (lg QA) 25) = y1 at hbq hl1 HBL hg hg2 ⊢
      clear hbq
      go_upto_region 10 with (first
        | (refine wpList_load_row rfl 23 _ rfl (w.heap.size) rfl 23 (tl t) (0, 0) _ hg Try.underlying23 rfl (talIk ht) ?_)
        | (with_reducible refine (hkB _).mono ?_
           rintro e x2 ⟨rfl, hb⟩
           replace HBL := Lib.hid (HBL.out.trans (hb.mono HBL.out.size))
           replace hg := heap_on hb hg
           replace hg2 := heap_on hb hg2
           replace hl1 := heap_on hb hl1
           clear hb hkB)
        | (refine wpList_store_row rfl 25 _ _ rfl x2.heap.size (lg QB) rfl rfl 25 (lg zL) (heap_alloc_last x2 _) (lngIk hlB) (by rw [lg_size zL_lng, lg_size hlB]) (lg_all _) ?_))
      rw [World.setRow_alloc_new]
      have hbq := below_al x2 (.cells (lg QB) 25)
      have hl2 := heap_alloc_last x2 (.cells (lg QB) 25)
      replace HBL := Lib.hid (HBL.out.trans (hbq.mono HBL.out.size))
      replace hg := heap_on hbq hg
      replace hg2 := heap_on hbq hg2
      replace hl1 := heap_on hbq hl1
      generalize x2.alloc (.cells (lg QB) 25) = y2 at hbq hl2 HBL hg hg2 hl1 ⊢
      clear hbq
      go_upto_region 11 with (first
        | (refine wpList_load_row rfl 23 _ rfl (w.heap.size + 1) rfl 23 (tl q) (0, 0) _ hg2 Try.underlying23 rfl (talIk hqt) ?_)
        | (with_reducible refine (hkC _).mono ?_
           rintro e x3 ⟨rfl, hb⟩
           replace HBL := Lib.hid (HBL.out.trans (hb.mono HBL.out.size))
           replace hg := heap_on hb hg
           replace hg2 := heap_on hb hg2
           replace hl1 := heap_on hb hl1
           replace hl2 := heap_on hb hl2
           clear hb hkC)
        | (refine wpList_store_row rfl 25 _ _ rfl x3.heap.size (lg QA) rfl rfl 25 (lg zL) (heap_alloc_last x3 _) (lngIk hlA) (by rw [lg_size zL_lng, lg_size hlA]) (lg_all _) ?_))
      rw [World.setRow_alloc_new]
      have hbq := below_al x3 (.cells (lg QA) 25)
      have hl3 := heap_alloc_last x3 (.cells (lg QA) 25)
      replace HBL := Lib.hid (HBL.out.trans (hbq.mono HBL.out.size))
      replace hg := heap_on hbq hg
      replace hg2 := heap_on hbq hg2
      replace hl1 := heap_on hbq hl1
      replace hl2 := heap_on hbq hl2
      generalize x3.alloc (.cells (lg QA) 25) = y3 at hbq hl3 HBL hg hg2 hl1 hl2 ⊢
      clear hbq
      go_upto_region 13 with (first | (refine wpList_load_row_g 3 false rfl 57 rfl _ rfl rfl 25 _ rfl x1.heap.size rfl 25 (lg QA) (0, 0) _ hl1 Try.underlying25 rfl (lngIk hlA) ?_) | (refine wpList_load_row_g 3 false rfl 57 rfl _ rfl rfl 25 _ rfl x3.heap.size rfl 25 (lg QA) (0, 0) _ hl3 Try.underlying25 rfl (lngIk hlA) ?_))
      have hwk := wakes_call
      by_cases hEA : EA = 0
      · by_cases hEB : EB = 0
        · have hA := HEA.out hEA
          have hB := HEB.out hEB
          have H1 := Lib.hid (HAB.out hA hB)
          have H2 := Lib.hid (HBA.out hA hB)
          subst hEA hEB
          clear HEA HEB HAB HBA hA hB hzT hzL heq hl3 hqt hg2
          go_upto_region 15 with fail
          rcases Int.lt_trichotomy a b with hab | hab | hab
          · have h1 : ¬ b < a := by omega
            have h2 : TB ≤ TA := H1.out (by omega)
            clear H1 H2
            refine wp_region_frame (J := Js [eqv (.int .i64 a), eqv (.int .i64 b), eqv (.bool false), eqv (.bool false), eqv (.agg (tl t)), eqv (.agg (lg QA)), eqv (.int .i64 TA), eqv (.agg (tl t)), eqv (.agg (lg QB)), eqv (.int .i64 TB), eqv (.bool true), eqv (.bool true), eqv (.bool true), eqv (.int .i64 a), eqv (.int .i64 b), eqv (.bool true), eqv (.bool true), eqv undef, eqv undef, eqv undef, eqv undef, eqv undef, eqv undef, eqv undef, eqv (.bool true), eqv (.bool true), eqv (.bool true), eqv (.bool true), eqv (.bool true), eqv (.bool true)]) (ds := [69, 70, 71, 72, 73, 74, 75, 76, 77, 78, 79, 80, 81, 82, 83, 84, 85, 86, 87, 88, 89, 90, 91, 92, 93, 94, 95, 96, 97, 6]) (N := 98)
              (B := [(1, .int .i64 a), (2, .int .i64 b), (3, .pointer (some ⟨w.heap.size, 0, none⟩)), (9, .pointer (some ⟨x1.heap.size, 0, none⟩)), (11, .pointer (some ⟨x2.heap.size, 0, none⟩))]) (by kernel_rfl) (by kernel_rfl) (Js_mono ⟨eqv_mono _, eqv_mono _, eqv_mono _, eqv_mono _, eqv_mono _, eqv_mono _, eqv_mono _, eqv_mono _, eqv_mono _, eqv_mono _, eqv_mono _, eqv_mono _, eqv_mono _, eqv_mono _, eqv_mono _, eqv_mono _, eqv_mono _, eqv_mono _, eqv_mono _, eqv_mono _, eqv_mono _, eqv_mono _, eqv_mono _, eqv_mono _, eqv_mono _, eqv_mono _, eqv_mono _, eqv_mono _, eqv_mono _, eqv_mono _, trivial⟩) rfl rfl (by simp) ?_ ?_
            · refine ⟨?_, ?_, ?_, ?_, ?_, ?_, ?_, ?_, ?_, ?_, ?_, ?_, ?_, ?_, ?_, ?_, ?_, ?_, ?_, ?_, ?_, ?_, ?_, ?_, ?_, ?_, ?_, ?_, ?_, ?_, trivial⟩
              · intro a w' hb hdep K hK
                have c1 := hb.at 0 1 _ rfl
                clear hdep
                go_simp
                exact hK _ _ rfl (Below.refl _ _)
              · intro a w' hb hdep K hK
                have c2 := hb.at 1 2 _ rfl
                clear hdep
                go_simp
                exact hK _ _ rfl (Below.refl _ _)
              · intro a w' hb hdep K hK
                obtain ⟨v0, e0, j0⟩ := hdep 0 (by kernel_rfl)
                replace e0 : a.tmps[69]? = some v0 := e0
                obtain rfl : v0 = _ := j0
                obtain ⟨v1, e1, j1⟩ := hdep 1 (by kernel_rfl)
                replace e1 : a.tmps[70]? = some v1 := e1
                obtain rfl : v1 = _ := j1
                clear hdep
                go_simp
                exact hK _ _ rfl (Below.refl _ _)
              · intro a w' hb hdep K hK
                obtain ⟨v2, e2, j2⟩ := hdep 2 (by kernel_rfl)
                replace e2 : a.tmps[71]? = some v2 := e2
                obtain rfl : v2 = _ := j2
                clear hdep
                go_simp
                exact hK _ _ rfl (Below.refl _ _)
              · intro a w' hb hdep K hK
                have c3 := hb.at 2 3 _ rfl
                obtain ⟨v3, e3, j3⟩ := hdep 3 (by kernel_rfl)
                replace e3 : a.tmps[72]? = some v3 := e3
                obtain rfl : v3 = _ := j3
                clear hdep
                refine wanted_row 3 false rfl 72 rfl (by assumption) 23 _ rfl w.heap.size (by simp [Act.eval, c3]) 23 (tl t) (0, 0) _ (heap_on hb.bel hg) Try.underlying23 rfl (talIk ht) ?_
                exact hK _ _ rfl (Below.refl _ _)
              · intro a w' hb hdep K hK
                have c9 := hb.at 3 9 _ rfl
                obtain ⟨v3, e3, j3⟩ := hdep 3 (by kernel_rfl)
                replace e3 : a.tmps[72]? = some v3 := e3
                obtain rfl : v3 = _ := j3
                clear hdep
                refine wanted_row 3 false rfl 72 rfl (by assumption) 25 _ rfl x1.heap.size (by simp [Act.eval, c9]) 25 (lg QA) (0, 0) _ (heap_on hb.bel hl1) Try.underlying25 rfl (lngIk hlA) ?_
                exact hK _ _ rfl (Below.refl _ _)
              · intro a w' hb hdep K hK
                obtain ⟨v4, e4, j4⟩ := hdep 4 (by kernel_rfl)
                replace e4 : a.tmps[73]? = some v4 := e4
                obtain rfl : v4 = _ := j4
                obtain ⟨v5, e5, j5⟩ := hdep 5 (by kernel_rfl)
                replace e5 : a.tmps[74]? = some v5 := e5
                obtain rfl : v5 = _ := j5
                obtain ⟨v3, e3, j3⟩ := hdep 3 (by kernel_rfl)
                replace e3 : a.tmps[72]? = some v3 := e3
                obtain rfl : v3 = _ := j3
                clear hdep
                go_simp
                go_at_call 13
                refine (HTA.out w').mono ?_
                rintro e w20 ⟨rfl, hb20⟩
                exact hK _ _ rfl hb20
              · intro a w' hb hdep K hK
                have c3 := hb.at 2 3 _ rfl
                obtain ⟨v3, e3, j3⟩ := hdep 3 (by kernel_rfl)
                replace e3 : a.tmps[72]? = some v3 := e3
                obtain rfl : v3 = _ := j3
                clear hdep
                refine wanted_row 3 false rfl 72 rfl (by assumption) 23 _ rfl w.heap.size (by simp [Act.eval, c3]) 23 (tl t) (0, 0) _ (heap_on hb.bel hg) Try.underlying23 rfl (talIk ht) ?_
                exact hK _ _ rfl (Below.refl _ _)
              · intro a w' hb hdep K hK
                have c11 := hb.at 4 11 _ rfl
                obtain ⟨v3, e3, j3⟩ := hdep 3 (by kernel_rfl)
                replace e3 : a.tmps[72]? = some v3 := e3
                obtain rfl : v3 = _ := j3
                clear hdep
                refine wanted_row 3 false rfl 72 rfl (by assumption) 25 _ rfl x2.heap.size (by simp [Act.eval, c11]) 25 (lg QB) (0, 0) _ (heap_on hb.bel hl2) Try.underlying25 rfl (lngIk hlB) ?_
                exact hK _ _ rfl (Below.refl _ _)
              · intro a w' hb hdep K hK
                obtain ⟨v7, e7, j7⟩ := hdep 7 (by kernel_rfl)
                replace e7 : a.tmps[76]? = some v7 := e7
                obtain rfl : v7 = _ := j7
                obtain ⟨v8, e8, j8⟩ := hdep 8 (by kernel_rfl)
                replace e8 : a.tmps[77]? = some v8 := e8
                obtain rfl : v8 = _ := j8
                obtain ⟨v3, e3, j3⟩ := hdep 3 (by kernel_rfl)
                replace e3 : a.tmps[72]? = some v3 := e3
                obtain rfl : v3 = _ := j3
                clear hdep
                go_simp
                go_at_call 13
                refine (HTB.out w').mono ?_
                rintro e w20 ⟨rfl, hb20⟩
                exact hK _ _ rfl hb20
              · intro a w' hb hdep K hK
                obtain ⟨v6, e6, j6⟩ := hdep 6 (by kernel_rfl)
                replace e6 : a.tmps[75]? = some v6 := e6
                obtain rfl : v6 = _ := j6
                obtain ⟨v9, e9, j9⟩ := hdep 9 (by kernel_rfl)
                replace e9 : a.tmps[78]? = some v9 := e9
                obtain rfl : v9 = _ := j9
                obtain ⟨v3, e3, j3⟩ := hdep 3 (by kernel_rfl)
                replace e3 : a.tmps[72]? = some v3 := e3
                obtain rfl : v3 = _ := j3
                clear hdep
                go_simp
                exact hK _ _ rfl (Below.refl _ _)
              · intro a w' hb hdep K hK
                obtain ⟨v3, e3, j3⟩ := hdep 3 (by kernel_rfl)
                replace e3 : a.tmps[72]? = some v3 := e3
                obtain rfl : v3 = _ := j3
                obtain ⟨v10, e10, j10⟩ := hdep 10 (by kernel_rfl)
                replace e10 : a.tmps[79]? = some v10 := e10
                obtain rfl : v10 = _ := j10
                clear hdep
                go_simp
                exact hK _ _ rfl (Below.refl _ _)
              · intro a w' hb hdep K hK
                obtain ⟨v11, e11, j11⟩ := hdep 11 (by kernel_rfl)
                replace e11 : a.tmps[80]? = some v11 := e11
                obtain rfl : v11 = _ := j11
                clear hdep
                go_simp
                exact hK _ _ rfl (Below.refl _ _)
              · intro a w' hb hdep K hK
                have c1 := hb.at 0 1 _ rfl
                obtain ⟨v12, e12, j12⟩ := hdep 12 (by kernel_rfl)
                replace e12 : a.tmps[81]? = some v12 := e12
                obtain rfl : v12 = _ := j12
                clear hdep
                go_simp
                exact hK _ _ rfl (Below.refl _ _)
              · intro a w' hb hdep K hK
                have c2 := hb.at 1 2 _ rfl
                obtain ⟨v12, e12, j12⟩ := hdep 12 (by kernel_rfl)
                replace e12 : a.tmps[81]? = some v12 := e12
                obtain rfl : v12 = _ := j12
                clear hdep
                go_simp
                exact hK _ _ rfl (Below.refl _ _)
              · intro a w' hb hdep K hK
                obtain ⟨v13, e13, j13⟩ := hdep 13 (by kernel_rfl)
                replace e13 : a.tmps[82]? = some v13 := e13
                obtain rfl : v13 = _ := j13
                obtain ⟨v14, e14, j14⟩ := hdep 14 (by kernel_rfl)
                replace e14 : a.tmps[83]? = some v14 := e14
                obtain rfl : v14 = _ := j14
                obtain ⟨v12, e12, j12⟩ := hdep 12 (by kernel_rfl)
                replace e12 : a.tmps[81]? = some v12 := e12
                obtain rfl : v12 = _ := j12
                clear hdep
                go_simp
                exact hK _ _ rfl (Below.refl _ _)
              · intro a w' hb hdep K hK
                obtain ⟨v15, e15, j15⟩ := hdep 15 (by kernel_rfl)
                replace e15 : a.tmps[84]? = some v15 := e15
                obtain rfl : v15 = _ := j15
                obtain ⟨v12, e12, j12⟩ := hdep 12 (by kernel_rfl)
                replace e12 : a.tmps[81]? = some v12 := e12
                obtain rfl : v12 = _ := j12
                clear hdep
                go_simp
                exact hK _ _ rfl (Below.refl _ _)
              · intro a w' hb hdep K hK
                have c3 := hb.at 2 3 _ rfl
                obtain ⟨v16, e16, j16⟩ := hdep 16 (by kernel_rfl)
                replace e16 : a.tmps[85]? = some v16 := e16
                obtain rfl : v16 = _ := j16
                clear hdep
                go_simp
                exact hK _ _ rfl (Below.refl _ _)
              · intro a w' hb hdep K hK
                have c9 := hb.at 3 9 _ rfl
                obtain ⟨v16, e16, j16⟩ := hdep 16 (by kernel_rfl)
                replace e16 : a.tmps[85]? = some v16 := e16
                obtain rfl : v16 = _ := j16
                clear hdep
                go_simp
                exact hK _ _ rfl (Below.refl _ _)
              · intro a w' hb hdep K hK
                obtain ⟨v17, e17, j17⟩ := hdep 17 (by kernel_rfl)
                replace e17 : a.tmps[86]? = some v17 := e17
                obtain rfl : v17 = _ := j17
                obtain ⟨v18, e18, j18⟩ := hdep 18 (by kernel_rfl)
                replace e18 : a.tmps[87]? = some v18 := e18
                obtain rfl : v18 = _ := j18
                obtain ⟨v16, e16, j16⟩ := hdep 16 (by kernel_rfl)
                replace e16 : a.tmps[85]? = some v16 := e16
                obtain rfl : v16 = _ := j16
                clear hdep
                go_simp
                exact hK _ _ rfl (Below.refl _ _)
              · intro a w' hb hdep K hK
                have c3 := hb.at 2 3 _ rfl
                obtain ⟨v16, e16, j16⟩ := hdep 16 (by kernel_rfl)
                replace e16 : a.tmps[85]? = some v16 := e16
                obtain rfl : v16 = _ := j16
                clear hdep
                go_simp
                exact hK _ _ rfl (Below.refl _ _)
              · intro a w' hb hdep K hK
                have c11 := hb.at 4 11 _ rfl
                obtain ⟨v16, e16, j16⟩ := hdep 16 (by kernel_rfl)
                replace e16 : a.tmps[85]? = some v16 := e16
                obtain rfl : v16 = _ := j16
                clear hdep
                go_simp
                exact hK _ _ rfl (Below.refl _ _)
              · intro a w' hb hdep K hK
                obtain ⟨v20, e20, j20⟩ := hdep 20 (by kernel_rfl)
                replace e20 : a.tmps[89]? = some v20 := e20
                obtain rfl : v20 = _ := j20
                obtain ⟨v21, e21, j21⟩ := hdep 21 (by kernel_rfl)
                replace e21 : a.tmps[90]? = some v21 := e21
                obtain rfl : v21 = _ := j21
                obtain ⟨v16, e16, j16⟩ := hdep 16 (by kernel_rfl)
                replace e16 : a.tmps[85]? = some v16 := e16
                obtain rfl : v16 = _ := j16
                clear hdep
                go_simp
                exact hK _ _ rfl (Below.refl _ _)
              · intro a w' hb hdep K hK
                obtain ⟨v19, e19, j19⟩ := hdep 19 (by kernel_rfl)
                replace e19 : a.tmps[88]? = some v19 := e19
                obtain rfl : v19 = _ := j19
                obtain ⟨v22, e22, j22⟩ := hdep 22 (by kernel_rfl)
                replace e22 : a.tmps[91]? = some v22 := e22
                obtain rfl : v22 = _ := j22
                obtain ⟨v16, e16, j16⟩ := hdep 16 (by kernel_rfl)
                replace e16 : a.tmps[85]? = some v16 := e16
                obtain rfl : v16 = _ := j16
                clear hdep
                go_simp
                exact hK _ _ rfl (Below.refl _ _)
              · intro a w' hb hdep K hK
                obtain ⟨v16, e16, j16⟩ := hdep 16 (by kernel_rfl)
                replace e16 : a.tmps[85]? = some v16 := e16
                obtain rfl : v16 = _ := j16
                obtain ⟨v23, e23, j23⟩ := hdep 23 (by kernel_rfl)
                replace e23 : a.tmps[92]? = some v23 := e23
                obtain rfl : v23 = _ := j23
                obtain ⟨v12, e12, j12⟩ := hdep 12 (by kernel_rfl)
                replace e12 : a.tmps[81]? = some v12 := e12
                obtain rfl : v12 = _ := j12
                clear hdep
                go_simp
                exact hK _ _ rfl (Below.refl _ _)
              · intro a w' hb hdep K hK
                obtain ⟨v12, e12, j12⟩ := hdep 12 (by kernel_rfl)
                replace e12 : a.tmps[81]? = some v12 := e12
                obtain rfl : v12 = _ := j12
                obtain ⟨v24, e24, j24⟩ := hdep 24 (by kernel_rfl)
                replace e24 : a.tmps[93]? = some v24 := e24
                obtain rfl : v24 = _ := j24
                clear hdep
                go_simp
                exact hK _ _ rfl (Below.refl _ _)
              · intro a w' hb hdep K hK
                obtain ⟨v25, e25, j25⟩ := hdep 25 (by kernel_rfl)
                replace e25 : a.tmps[94]? = some v25 := e25
                obtain rfl : v25 = _ := j25
                clear hdep
                go_simp
                exact hK _ _ rfl (Below.refl _ _)
              · intro a w' hb hdep K hK
                obtain ⟨v26, e26, j26⟩ := hdep 26 (by kernel_rfl)
                replace e26 : a.tmps[95]? = some v26 := e26
                obtain rfl : v26 = _ := j26
                clear hdep
                go_simp
                go_at_call 17
                refine (wakes_call w').mono ?_
                rintro e w20 ⟨rfl, hb20⟩
                exact hK _ _ rfl hb20
              · intro a w' hb hdep K hK
                obtain ⟨v26, e26, j26⟩ := hdep 26 (by kernel_rfl)
                replace e26 : a.tmps[95]? = some v26 := e26
                obtain rfl : v26 = _ := j26
                obtain ⟨v27, e27, j27⟩ := hdep 27 (by kernel_rfl)
                replace e27 : a.tmps[96]? = some v27 := e27
                obtain rfl : v27 = _ := j27
                clear hdep
                go_simp
                exact hK _ _ rfl (Below.refl _ _)
              · intro a w' hb hdep K hK
                obtain ⟨v28, e28, j28⟩ := hdep 28 (by kernel_rfl)
                replace e28 : a.tmps[97]? = some v28 := e28
                obtain rfl : v28 = _ := j28
                clear hdep
                go_simp
                exact hK _ _ rfl (Below.refl _ _)
            · intro vs w' hvl hall hb
              match vs, hvl with
              | [v0, v1, v2, v3, v4, v5, v6, v7, v8, v9, v10, v11, v12, v13, v14, v15, v16, v17, v18, v19, v20, v21, v22, v23, v24, v25, v26, v27, v28, v29], _ =>
                obtain rfl : v0 = _ := hall 0 (by decide)
                obtain rfl : v1 = _ := hall 1 (by decide)
                obtain rfl : v2 = _ := hall 2 (by decide)
                obtain rfl : v3 = _ := hall 3 (by decide)
                obtain rfl : v4 = _ := hall 4 (by decide)
                obtain rfl : v5 = _ := hall 5 (by decide)
                obtain rfl : v6 = _ := hall 6 (by decide)
                obtain rfl : v7 = _ := hall 7 (by decide)
                obtain rfl : v8 = _ := hall 8 (by decide)
                obtain rfl : v9 = _ := hall 9 (by decide)
                obtain rfl : v10 = _ := hall 10 (by decide)
                obtain rfl : v11 = _ := hall 11 (by decide)
                obtain rfl : v12 = _ := hall 12 (by decide)
                obtain rfl : v13 = _ := hall 13 (by decide)
                obtain rfl : v14 = _ := hall 14 (by decide)
                obtain rfl : v15 = _ := hall 15 (by decide)
                obtain rfl : v16 = _ := hall 16 (by decide)
                obtain rfl : v17 = _ := hall 17 (by decide)
                obtain rfl : v18 = _ := hall 18 (by decide)
                obtain rfl : v19 = _ := hall 19 (by decide)
                obtain rfl : v20 = _ := hall 20 (by decide)
                obtain rfl : v21 = _ := hall 21 (by decide)
                obtain rfl : v22 = _ := hall 22 (by decide)
                obtain rfl : v23 = _ := hall 23 (by decide)
                obtain rfl : v24 = _ := hall 24 (by decide)
                obtain rfl : v25 = _ := hall 25 (by decide)
                obtain rfl : v26 = _ := hall 26 (by decide)
                obtain rfl : v27 = _ := hall 27 (by decide)
                obtain rfl : v28 = _ := hall 28 (by decide)
                obtain rfl : v29 = _ := hall 29 (by decide)
                simp only [putAll, List.setIfInBounds_toArray, List.set_cons_zero, List.set_cons_succ]
                go_wp2
                go_ret
                exact ⟨rfl, HBL.out.trans (hb.mono HBL.out.size)⟩
          · have h0 : ¬ b < a := by omega
            have h1 : ¬ a < b := by omega
            have h2 : TB ≤ TA := H1.out (by omega)
            have h3 : TA ≤ TB := H2.out (by omega)
            clear H1 H2 hab
            refine wp_region_frame (J := Js [eqv (.int .i64 a), eqv (.int .i64 b), eqv (.bool false), eqv (.bool false), eqv (.agg (tl t)), eqv (.agg (lg QA)), eqv (.int .i64 TA), eqv (.agg (tl t)), eqv (.agg (lg QB)), eqv (.int .i64 TB), eqv (.bool true), eqv (.bool true), eqv (.bool true), eqv (.int .i64 a), eqv (.int .i64 b), eqv (.bool false), eqv (.bool false), eqv (.agg (tl t)), eqv (.agg (lg QA)), eqv (.int .i64 TA), eqv (.agg (tl t)), eqv (.agg (lg QB)), eqv (.int .i64 TB), eqv (.bool true), eqv (.bool true), eqv (.bool true), eqv (.bool true), eqv (.bool true), eqv (.bool true), eqv (.bool true)]) (ds := [69, 70, 71, 72, 73, 74, 75, 76, 77, 78, 79, 80, 81, 82, 83, 84, 85, 86, 87, 88, 89, 90, 91, 92, 93, 94, 95, 96, 97, 6]) (N := 98)
              (B := [(1, .int .i64 a), (2, .int .i64 b), (3, .pointer (some ⟨w.heap.size, 0, none⟩)), (9, .pointer (some ⟨x1.heap.size, 0, none⟩)), (11, .pointer (some ⟨x2.heap.size, 0, none⟩))]) (by kernel_rfl) (by kernel_rfl) (Js_mono ⟨eqv_mono _, eqv_mono _, eqv_mono _, eqv_mono _, eqv_mono _, eqv_mono _, eqv_mono _, eqv_mono _, eqv_mono _, eqv_mono _, eqv_mono _, eqv_mono _, eqv_mono _, eqv_mono _, eqv_mono _, eqv_mono _, eqv_mono _, eqv_mono _, eqv_mono _, eqv_mono _, eqv_mono _, eqv_mono _, eqv_mono _, eqv_mono _, eqv_mono _, eqv_mono _, eqv_mono _, eqv_mono _, eqv_mono _, eqv_mono _, trivial⟩) rfl rfl (by simp) ?_ ?_
            · refine ⟨?_, ?_, ?_, ?_, ?_, ?_, ?_, ?_, ?_, ?_, ?_, ?_, ?_, ?_, ?_, ?_, ?_, ?_, ?_, ?_, ?_, ?_, ?_, ?_, ?_, ?_, ?_, ?_, ?_, ?_, trivial⟩
              · intro a w' hb hdep K hK
                have c1 := hb.at 0 1 _ rfl
                clear hdep
                go_simp
                exact hK _ _ rfl (Below.refl _ _)
              · intro a w' hb hdep K hK
                have c2 := hb.at 1 2 _ rfl
                clear hdep
                go_simp
                exact hK _ _ rfl (Below.refl _ _)
              · intro a w' hb hdep K hK
                obtain ⟨v0, e0, j0⟩ := hdep 0 (by kernel_rfl)
                replace e0 : a.tmps[69]? = some v0 := e0
                obtain rfl : v0 = _ := j0
                obtain ⟨v1, e1, j1⟩ := hdep 1 (by kernel_rfl)
                replace e1 : a.tmps[70]? = some v1 := e1
                obtain rfl : v1 = _ := j1
                clear hdep
                go_simp
                exact hK _ _ rfl (Below.refl _ _)
              · intro a w' hb hdep K hK
                obtain ⟨v2, e2, j2⟩ := hdep 2 (by kernel_rfl)
                replace e2 : a.tmps[71]? = some v2 := e2
                obtain rfl : v2 = _ := j2
                clear hdep
                go_simp
                exact hK _ _ rfl (Below.refl _ _)
              · intro a w' hb hdep K hK
                have c3 := hb.at 2 3 _ rfl
                obtain ⟨v3, e3, j3⟩ := hdep 3 (by kernel_rfl)
                replace e3 : a.tmps[72]? = some v3 := e3
                obtain rfl : v3 = _ := j3
                clear hdep
                refine wanted_row 3 false rfl 72 rfl (by assumption) 23 _ rfl w.heap.size (by simp [Act.eval, c3]) 23 (tl t) (0, 0) _ (heap_on hb.bel hg) Try.underlying23 rfl (talIk ht) ?_
                exact hK _ _ rfl (Below.refl _ _)
              · intro a w' hb hdep K hK
                have c9 := hb.at 3 9 _ rfl
                obtain ⟨v3, e3, j3⟩ := hdep 3 (by kernel_rfl)
                replace e3 : a.tmps[72]? = some v3 := e3
                obtain rfl : v3 = _ := j3
                clear hdep
                refine wanted_row 3 false rfl 72 rfl (by assumption) 25 _ rfl x1.heap.size (by simp [Act.eval, c9]) 25 (lg QA) (0, 0) _ (heap_on hb.bel hl1) Try.underlying25 rfl (lngIk hlA) ?_
                exact hK _ _ rfl (Below.refl _ _)
              · intro a w' hb hdep K hK
                obtain ⟨v4, e4, j4⟩ := hdep 4 (by kernel_rfl)
                replace e4 : a.tmps[73]? = some v4 := e4
                obtain rfl : v4 = _ := j4
                obtain ⟨v5, e5, j5⟩ := hdep 5 (by kernel_rfl)
                replace e5 : a.tmps[74]? = some v5 := e5
                obtain rfl : v5 = _ := j5
                obtain ⟨v3, e3, j3⟩ := hdep 3 (by kernel_rfl)
                replace e3 : a.tmps[72]? = some v3 := e3
                obtain rfl : v3 = _ := j3
                clear hdep
                go_simp
                go_at_call 13
                refine (HTA.out w').mono ?_
                rintro e w20 ⟨rfl, hb20⟩
                exact hK _ _ rfl hb20
              · intro a w' hb hdep K hK
                have c3 := hb.at 2 3 _ rfl
                obtain ⟨v3, e3, j3⟩ := hdep 3 (by kernel_rfl)
                replace e3 : a.tmps[72]? = some v3 := e3
                obtain rfl : v3 = _ := j3
                clear hdep
                refine wanted_row 3 false rfl 72 rfl (by assumption) 23 _ rfl w.heap.size (by simp [Act.eval, c3]) 23 (tl t) (0, 0) _ (heap_on hb.bel hg) Try.underlying23 rfl (talIk ht) ?_
                exact hK _ _ rfl (Below.refl _ _)
              · intro a w' hb hdep K hK
                have c11 := hb.at 4 11 _ rfl
                obtain ⟨v3, e3, j3⟩ := hdep 3 (by kernel_rfl)
                replace e3 : a.tmps[72]? = some v3 := e3
                obtain rfl : v3 = _ := j3
                clear hdep
                refine wanted_row 3 false rfl 72 rfl (by assumption) 25 _ rfl x2.heap.size (by simp [Act.eval, c11]) 25 (lg QB) (0, 0) _ (heap_on hb.bel hl2) Try.underlying25 rfl (lngIk hlB) ?_
                exact hK _ _ rfl (Below.refl _ _)
              · intro a w' hb hdep K hK
                obtain ⟨v7, e7, j7⟩ := hdep 7 (by kernel_rfl)
                replace e7 : a.tmps[76]? = some v7 := e7
                obtain rfl : v7 = _ := j7
                obtain ⟨v8, e8, j8⟩ := hdep 8 (by kernel_rfl)
                replace e8 : a.tmps[77]? = some v8 := e8
                obtain rfl : v8 = _ := j8
                obtain ⟨v3, e3, j3⟩ := hdep 3 (by kernel_rfl)
                replace e3 : a.tmps[72]? = some v3 := e3
                obtain rfl : v3 = _ := j3
                clear hdep
                go_simp
                go_at_call 13
                refine (HTB.out w').mono ?_
                rintro e w20 ⟨rfl, hb20⟩
                exact hK _ _ rfl hb20
              · intro a w' hb hdep K hK
                obtain ⟨v6, e6, j6⟩ := hdep 6 (by kernel_rfl)
                replace e6 : a.tmps[75]? = some v6 := e6
                obtain rfl : v6 = _ := j6
                obtain ⟨v9, e9, j9⟩ := hdep 9 (by kernel_rfl)
                replace e9 : a.tmps[78]? = some v9 := e9
                obtain rfl : v9 = _ := j9
                obtain ⟨v3, e3, j3⟩ := hdep 3 (by kernel_rfl)
                replace e3 : a.tmps[72]? = some v3 := e3
                obtain rfl : v3 = _ := j3
                clear hdep
                go_simp
                exact hK _ _ rfl (Below.refl _ _)
              · intro a w' hb hdep K hK
                obtain ⟨v3, e3, j3⟩ := hdep 3 (by kernel_rfl)
                replace e3 : a.tmps[72]? = some v3 := e3
                obtain rfl : v3 = _ := j3
                obtain ⟨v10, e10, j10⟩ := hdep 10 (by kernel_rfl)
                replace e10 : a.tmps[79]? = some v10 := e10
                obtain rfl : v10 = _ := j10
                clear hdep
                go_simp
                exact hK _ _ rfl (Below.refl _ _)
              · intro a w' hb hdep K hK
                obtain ⟨v11, e11, j11⟩ := hdep 11 (by kernel_rfl)
                replace e11 : a.tmps[80]? = some v11 := e11
                obtain rfl : v11 = _ := j11
                clear hdep
                go_simp
                exact hK _ _ rfl (Below.refl _ _)
              · intro a w' hb hdep K hK
                have c1 := hb.at 0 1 _ rfl
                obtain ⟨v12, e12, j12⟩ := hdep 12 (by kernel_rfl)
                replace e12 : a.tmps[81]? = some v12 := e12
                obtain rfl : v12 = _ := j12
                clear hdep
                go_simp
                exact hK _ _ rfl (Below.refl _ _)
              · intro a w' hb hdep K hK
                have c2 := hb.at 1 2 _ rfl
                obtain ⟨v12, e12, j12⟩ := hdep 12 (by kernel_rfl)
                replace e12 : a.tmps[81]? = some v12 := e12
                obtain rfl : v12 = _ := j12
                clear hdep
                go_simp
                exact hK _ _ rfl (Below.refl _ _)
              · intro a w' hb hdep K hK
                obtain ⟨v13, e13, j13⟩ := hdep 13 (by kernel_rfl)
                replace e13 : a.tmps[82]? = some v13 := e13
                obtain rfl : v13 = _ := j13
                obtain ⟨v14, e14, j14⟩ := hdep 14 (by kernel_rfl)
                replace e14 : a.tmps[83]? = some v14 := e14
                obtain rfl : v14 = _ := j14
                obtain ⟨v12, e12, j12⟩ := hdep 12 (by kernel_rfl)
                replace e12 : a.tmps[81]? = some v12 := e12
                obtain rfl : v12 = _ := j12
                clear hdep
                go_simp
                exact hK _ _ rfl (Below.refl _ _)
              · intro a w' hb hdep K hK
                obtain ⟨v15, e15, j15⟩ := hdep 15 (by kernel_rfl)
                replace e15 : a.tmps[84]? = some v15 := e15
                obtain rfl : v15 = _ := j15
                obtain ⟨v12, e12, j12⟩ := hdep 12 (by kernel_rfl)
                replace e12 : a.tmps[81]? = some v12 := e12
                obtain rfl : v12 = _ := j12
                clear hdep
                go_simp
                exact hK _ _ rfl (Below.refl _ _)
              · intro a w' hb hdep K hK
                have c3 := hb.at 2 3 _ rfl
                obtain ⟨v16, e16, j16⟩ := hdep 16 (by kernel_rfl)
                replace e16 : a.tmps[85]? = some v16 := e16
                obtain rfl : v16 = _ := j16
                clear hdep
                refine wanted_row 16 false rfl 85 rfl (by assumption) 23 _ rfl w.heap.size (by simp [Act.eval, c3]) 23 (tl t) (0, 0) _ (heap_on hb.bel hg) Try.underlying23 rfl (talIk ht) ?_
                exact hK _ _ rfl (Below.refl _ _)
              · intro a w' hb hdep K hK
                have c9 := hb.at 3 9 _ rfl
                obtain ⟨v16, e16, j16⟩ := hdep 16 (by kernel_rfl)
                replace e16 : a.tmps[85]? = some v16 := e16
                obtain rfl : v16 = _ := j16
                clear hdep
                refine wanted_row 16 false rfl 85 rfl (by assumption) 25 _ rfl x1.heap.size (by simp [Act.eval, c9]) 25 (lg QA) (0, 0) _ (heap_on hb.bel hl1) Try.underlying25 rfl (lngIk hlA) ?_
                exact hK _ _ rfl (Below.refl _ _)
              · intro a w' hb hdep K hK
                obtain ⟨v17, e17, j17⟩ := hdep 17 (by kernel_rfl)
                replace e17 : a.tmps[86]? = some v17 := e17
                obtain rfl : v17 = _ := j17
                obtain ⟨v18, e18, j18⟩ := hdep 18 (by kernel_rfl)
                replace e18 : a.tmps[87]? = some v18 := e18
                obtain rfl : v18 = _ := j18
                obtain ⟨v16, e16, j16⟩ := hdep 16 (by kernel_rfl)
                replace e16 : a.tmps[85]? = some v16 := e16
                obtain rfl : v16 = _ := j16
                clear hdep
                go_simp
                go_at_call 13
                refine (HTA.out w').mono ?_
                rintro e w20 ⟨rfl, hb20⟩
                exact hK _ _ rfl hb20
              · intro a w' hb hdep K hK
                have c3 := hb.at 2 3 _ rfl
                obtain ⟨v16, e16, j16⟩ := hdep 16 (by kernel_rfl)
                replace e16 : a.tmps[85]? = some v16 := e16
                obtain rfl : v16 = _ := j16
                clear hdep
                refine wanted_row 16 false rfl 85 rfl (by assumption) 23 _ rfl w.heap.size (by simp [Act.eval, c3]) 23 (tl t) (0, 0) _ (heap_on hb.bel hg) Try.underlying23 rfl (talIk ht) ?_
                exact hK _ _ rfl (Below.refl _ _)
              · intro a w' hb hdep K hK
                have c11 := hb.at 4 11 _ rfl
                obtain ⟨v16, e16, j16⟩ := hdep 16 (by kernel_rfl)
                replace e16 : a.tmps[85]? = some v16 := e16
                obtain rfl : v16 = _ := j16
                clear hdep
                refine wanted_row 16 false rfl 85 rfl (by assumption) 25 _ rfl x2.heap.size (by simp [Act.eval, c11]) 25 (lg QB) (0, 0) _ (heap_on hb.bel hl2) Try.underlying25 rfl (lngIk hlB) ?_
                exact hK _ _ rfl (Below.refl _ _)
              · intro a w' hb hdep K hK
                obtain ⟨v20, e20, j20⟩ := hdep 20 (by kernel_rfl)
                replace e20 : a.tmps[89]? = some v20 := e20
                obtain rfl : v20 = _ := j20
                obtain ⟨v21, e21, j21⟩ := hdep 21 (by kernel_rfl)
                replace e21 : a.tmps[90]? = some v21 := e21
                obtain rfl : v21 = _ := j21
                obtain ⟨v16, e16, j16⟩ := hdep 16 (by kernel_rfl)
                replace e16 : a.tmps[85]? = some v16 := e16
                obtain rfl : v16 = _ := j16
                clear hdep
                go_simp
                go_at_call 13
                refine (HTB.out w').mono ?_
                rintro e w20 ⟨rfl, hb20⟩
                exact hK _ _ rfl hb20
              · intro a w' hb hdep K hK
                obtain ⟨v19, e19, j19⟩ := hdep 19 (by kernel_rfl)
                replace e19 : a.tmps[88]? = some v19 := e19
                obtain rfl : v19 = _ := j19
                obtain ⟨v22, e22, j22⟩ := hdep 22 (by kernel_rfl)
                replace e22 : a.tmps[91]? = some v22 := e22
                obtain rfl : v22 = _ := j22
                obtain ⟨v16, e16, j16⟩ := hdep 16 (by kernel_rfl)
                replace e16 : a.tmps[85]? = some v16 := e16
                obtain rfl : v16 = _ := j16
                clear hdep
                go_simp
                exact hK _ _ rfl (Below.refl _ _)
              · intro a w' hb hdep K hK
                obtain ⟨v16, e16, j16⟩ := hdep 16 (by kernel_rfl)
                replace e16 : a.tmps[85]? = some v16 := e16
                obtain rfl : v16 = _ := j16
                obtain ⟨v23, e23, j23⟩ := hdep 23 (by kernel_rfl)
                replace e23 : a.tmps[92]? = some v23 := e23
                obtain rfl : v23 = _ := j23
                obtain ⟨v12, e12, j12⟩ := hdep 12 (by kernel_rfl)
                replace e12 : a.tmps[81]? = some v12 := e12
                obtain rfl : v12 = _ := j12
                clear hdep
                go_simp
                exact hK _ _ rfl (Below.refl _ _)
              · intro a w' hb hdep K hK
                obtain ⟨v12, e12, j12⟩ := hdep 12 (by kernel_rfl)
                replace e12 : a.tmps[81]? = some v12 := e12
                obtain rfl : v12 = _ := j12
                obtain ⟨v24, e24, j24⟩ := hdep 24 (by kernel_rfl)
                replace e24 : a.tmps[93]? = some v24 := e24
                obtain rfl : v24 = _ := j24
                clear hdep
                go_simp
                exact hK _ _ rfl (Below.refl _ _)
              · intro a w' hb hdep K hK
                obtain ⟨v25, e25, j25⟩ := hdep 25 (by kernel_rfl)
                replace e25 : a.tmps[94]? = some v25 := e25
                obtain rfl : v25 = _ := j25
                clear hdep
                go_simp
                exact hK _ _ rfl (Below.refl _ _)
              · intro a w' hb hdep K hK
                obtain ⟨v26, e26, j26⟩ := hdep 26 (by kernel_rfl)
                replace e26 : a.tmps[95]? = some v26 := e26
                obtain rfl : v26 = _ := j26
                clear hdep
                go_simp
                go_at_call 17
                refine (wakes_call w').mono ?_
                rintro e w20 ⟨rfl, hb20⟩
                exact hK _ _ rfl hb20
              · intro a w' hb hdep K hK
                obtain ⟨v26, e26, j26⟩ := hdep 26 (by kernel_rfl)
                replace e26 : a.tmps[95]? = some v26 := e26
                obtain rfl : v26 = _ := j26
                obtain ⟨v27, e27, j27⟩ := hdep 27 (by kernel_rfl)
                replace e27 : a.tmps[96]? = some v27 := e27
                obtain rfl : v27 = _ := j27
                clear hdep
                go_simp
                exact hK _ _ rfl (Below.refl _ _)
              · intro a w' hb hdep K hK
                obtain ⟨v28, e28, j28⟩ := hdep 28 (by kernel_rfl)
                replace e28 : a.tmps[97]? = some v28 := e28
                obtain rfl : v28 = _ := j28
                clear hdep
                go_simp
                exact hK _ _ rfl (Below.refl _ _)
            · intro vs w' hvl hall hb
              match vs, hvl with
              | [v0, v1, v2, v3, v4, v5, v6, v7, v8, v9, v10, v11, v12, v13, v14, v15, v16, v17, v18, v19, v20, v21, v22, v23, v24, v25, v26, v27, v28, v29], _ =>
                obtain rfl : v0 = _ := hall 0 (by decide)
                obtain rfl : v1 = _ := hall 1 (by decide)
                obtain rfl : v2 = _ := hall 2 (by decide)
                obtain rfl : v3 = _ := hall 3 (by decide)
                obtain rfl : v4 = _ := hall 4 (by decide)
                obtain rfl : v5 = _ := hall 5 (by decide)
                obtain rfl : v6 = _ := hall 6 (by decide)
                obtain rfl : v7 = _ := hall 7 (by decide)
                obtain rfl : v8 = _ := hall 8 (by decide)
                obtain rfl : v9 = _ := hall 9 (by decide)
                obtain rfl : v10 = _ := hall 10 (by decide)
                obtain rfl : v11 = _ := hall 11 (by decide)
                obtain rfl : v12 = _ := hall 12 (by decide)
                obtain rfl : v13 = _ := hall 13 (by decide)
                obtain rfl : v14 = _ := hall 14 (by decide)
                obtain rfl : v15 = _ := hall 15 (by decide)
                obtain rfl : v16 = _ := hall 16 (by decide)
                obtain rfl : v17 = _ := hall 17 (by decide)
                obtain rfl : v18 = _ := hall 18 (by decide)
                obtain rfl : v19 = _ := hall 19 (by decide)
                obtain rfl : v20 = _ := hall 20 (by decide)
                obtain rfl : v21 = _ := hall 21 (by decide)
                obtain rfl : v22 = _ := hall 22 (by decide)
                obtain rfl : v23 = _ := hall 23 (by decide)
                obtain rfl : v24 = _ := hall 24 (by decide)
                obtain rfl : v25 = _ := hall 25 (by decide)
                obtain rfl : v26 = _ := hall 26 (by decide)
                obtain rfl : v27 = _ := hall 27 (by decide)
                obtain rfl : v28 = _ := hall 28 (by decide)
                obtain rfl : v29 = _ := hall 29 (by decide)
                simp only [putAll, List.setIfInBounds_toArray, List.set_cons_zero, List.set_cons_succ]
                go_wp2
                go_ret
                exact ⟨rfl, HBL.out.trans (hb.mono HBL.out.size)⟩
          · have h1 : ¬ a < b := by omega
            have h2 : TA ≤ TB := H2.out (by omega)
            clear H1 H2
            refine wp_region_frame (J := Js [eqv (.int .i64 a), eqv (.int .i64 b), eqv (.bool true), eqv (.bool true), eqv undef, eqv undef, eqv undef, eqv undef, eqv undef, eqv undef, eqv undef, eqv (.bool true), eqv (.bool true), eqv (.int .i64 a), eqv (.int .i64 b), eqv (.bool false), eqv (.bool false), eqv (.agg (tl t)), eqv (.agg (lg QA)), eqv (.int .i64 TA), eqv (.agg (tl t)), eqv (.agg (lg QB)), eqv (.int .i64 TB), eqv (.bool true), eqv (.bool true), eqv (.bool true), eqv (.bool true), eqv (.bool true), eqv (.bool true), eqv (.bool true)]) (ds := [69, 70, 71, 72, 73, 74, 75, 76, 77, 78, 79, 80, 81, 82, 83, 84, 85, 86, 87, 88, 89, 90, 91, 92, 93, 94, 95, 96, 97, 6]) (N := 98)
              (B := [(1, .int .i64 a), (2, .int .i64 b), (3, .pointer (some ⟨w.heap.size, 0, none⟩)), (9, .pointer (some ⟨x1.heap.size, 0, none⟩)), (11, .pointer (some ⟨x2.heap.size, 0, none⟩))]) (by kernel_rfl) (by kernel_rfl) (Js_mono ⟨eqv_mono _, eqv_mono _, eqv_mono _, eqv_mono _, eqv_mono _, eqv_mono _, eqv_mono _, eqv_mono _, eqv_mono _, eqv_mono _, eqv_mono _, eqv_mono _, eqv_mono _, eqv_mono _, eqv_mono _, eqv_mono _, eqv_mono _, eqv_mono _, eqv_mono _, eqv_mono _, eqv_mono _, eqv_mono _, eqv_mono _, eqv_mono _, eqv_mono _, eqv_mono _, eqv_mono _, eqv_mono _, eqv_mono _, eqv_mono _, trivial⟩) rfl rfl (by simp) ?_ ?_
            · refine ⟨?_, ?_, ?_, ?_, ?_, ?_, ?_, ?_, ?_, ?_, ?_, ?_, ?_, ?_, ?_, ?_, ?_, ?_, ?_, ?_, ?_, ?_, ?_, ?_, ?_, ?_, ?_, ?_, ?_, ?_, trivial⟩
              · intro a w' hb hdep K hK
                have c1 := hb.at 0 1 _ rfl
                clear hdep
                go_simp
                exact hK _ _ rfl (Below.refl _ _)
              · intro a w' hb hdep K hK
                have c2 := hb.at 1 2 _ rfl
                clear hdep
                go_simp
                exact hK _ _ rfl (Below.refl _ _)
              · intro a w' hb hdep K hK
                obtain ⟨v0, e0, j0⟩ := hdep 0 (by kernel_rfl)
                replace e0 : a.tmps[69]? = some v0 := e0
                obtain rfl : v0 = _ := j0
                obtain ⟨v1, e1, j1⟩ := hdep 1 (by kernel_rfl)
                replace e1 : a.tmps[70]? = some v1 := e1
                obtain rfl : v1 = _ := j1
                clear hdep
                go_simp
                exact hK _ _ rfl (Below.refl _ _)
              · intro a w' hb hdep K hK
                obtain ⟨v2, e2, j2⟩ := hdep 2 (by kernel_rfl)
                replace e2 : a.tmps[71]? = some v2 := e2
                obtain rfl : v2 = _ := j2
                clear hdep
                go_simp
                exact hK _ _ rfl (Below.refl _ _)
              · intro a w' hb hdep K hK
                have c3 := hb.at 2 3 _ rfl
                obtain ⟨v3, e3, j3⟩ := hdep 3 (by kernel_rfl)
                replace e3 : a.tmps[72]? = some v3 := e3
                obtain rfl : v3 = _ := j3
                clear hdep
                go_simp
                exact hK _ _ rfl (Below.refl _ _)
              · intro a w' hb hdep K hK
                have c9 := hb.at 3 9 _ rfl
                obtain ⟨v3, e3, j3⟩ := hdep 3 (by kernel_rfl)
                replace e3 : a.tmps[72]? = some v3 := e3
                obtain rfl : v3 = _ := j3
                clear hdep
                go_simp
                exact hK _ _ rfl (Below.refl _ _)
              · intro a w' hb hdep K hK
                obtain ⟨v4, e4, j4⟩ := hdep 4 (by kernel_rfl)
                replace e4 : a.tmps[73]? = some v4 := e4
                obtain rfl : v4 = _ := j4
                obtain ⟨v5, e5, j5⟩ := hdep 5 (by kernel_rfl)
                replace e5 : a.tmps[74]? = some v5 := e5
                obtain rfl : v5 = _ := j5
                obtain ⟨v3, e3, j3⟩ := hdep 3 (by kernel_rfl)
                replace e3 : a.tmps[72]? = some v3 := e3
                obtain rfl : v3 = _ := j3
                clear hdep
                go_simp
                exact hK _ _ rfl (Below.refl _ _)
              · intro a w' hb hdep K hK
                have c3 := hb.at 2 3 _ rfl
                obtain ⟨v3, e3, j3⟩ := hdep 3 (by kernel_rfl)
                replace e3 : a.tmps[72]? = some v3 := e3
                obtain rfl : v3 = _ := j3
                clear hdep
                go_simp
                exact hK _ _ rfl (Below.refl _ _)
              · intro a w' hb hdep K hK
                have c11 := hb.at 4 11 _ rfl
                obtain ⟨v3, e3, j3⟩ := hdep 3 (by kernel_rfl)
                replace e3 : a.tmps[72]? = some v3 := e3
                obtain rfl : v3 = _ := j3
                clear hdep
                go_simp
                exact hK _ _ rfl (Below.refl _ _)
              · intro a w' hb hdep K hK
                obtain ⟨v7, e7, j7⟩ := hdep 7 (by kernel_rfl)
                replace e7 : a.tmps[76]? = some v7 := e7
                obtain rfl : v7 = _ := j7
                obtain ⟨v8, e8, j8⟩ := hdep 8 (by kernel_rfl)
                replace e8 : a.tmps[77]? = some v8 := e8
                obtain rfl : v8 = _ := j8
                obtain ⟨v3, e3, j3⟩ := hdep 3 (by kernel_rfl)
                replace e3 : a.tmps[72]? = some v3 := e3
                obtain rfl : v3 = _ := j3
                clear hdep
                go_simp
                exact hK _ _ rfl (Below.refl _ _)
              · intro a w' hb hdep K hK
                obtain ⟨v6, e6, j6⟩ := hdep 6 (by kernel_rfl)
                replace e6 : a.tmps[75]? = some v6 := e6
                obtain rfl : v6 = _ := j6
                obtain ⟨v9, e9, j9⟩ := hdep 9 (by kernel_rfl)
                replace e9 : a.tmps[78]? = some v9 := e9
                obtain rfl : v9 = _ := j9
                obtain ⟨v3, e3, j3⟩ := hdep 3 (by kernel_rfl)
                replace e3 : a.tmps[72]? = some v3 := e3
                obtain rfl : v3 = _ := j3
                clear hdep
                go_simp
                exact hK _ _ rfl (Below.refl _ _)
              · intro a w' hb hdep K hK
                obtain ⟨v3, e3, j3⟩ := hdep 3 (by kernel_rfl)
                replace e3 : a.tmps[72]? = some v3 := e3
                obtain rfl : v3 = _ := j3
                obtain ⟨v10, e10, j10⟩ := hdep 10 (by kernel_rfl)
                replace e10 : a.tmps[79]? = some v10 := e10
                obtain rfl : v10 = _ := j10
                clear hdep
                go_simp
                exact hK _ _ rfl (Below.refl _ _)
              · intro a w' hb hdep K hK
                obtain ⟨v11, e11, j11⟩ := hdep 11 (by kernel_rfl)
                replace e11 : a.tmps[80]? = some v11 := e11
                obtain rfl : v11 = _ := j11
                clear hdep
                go_simp
                exact hK _ _ rfl (Below.refl _ _)
              · intro a w' hb hdep K hK
                have c1 := hb.at 0 1 _ rfl
                obtain ⟨v12, e12, j12⟩ := hdep 12 (by kernel_rfl)
                replace e12 : a.tmps[81]? = some v12 := e12
                obtain rfl : v12 = _ := j12
                clear hdep
                go_simp
                exact hK _ _ rfl (Below.refl _ _)
              · intro a w' hb hdep K hK
                have c2 := hb.at 1 2 _ rfl
                obtain ⟨v12, e12, j12⟩ := hdep 12 (by kernel_rfl)
                replace e12 : a.tmps[81]? = some v12 := e12
                obtain rfl : v12 = _ := j12
                clear hdep
                go_simp
                exact hK _ _ rfl (Below.refl _ _)
              · intro a w' hb hdep K hK
                obtain ⟨v13, e13, j13⟩ := hdep 13 (by kernel_rfl)
                replace e13 : a.tmps[82]? = some v13 := e13
                obtain rfl : v13 = _ := j13
                obtain ⟨v14, e14, j14⟩ := hdep 14 (by kernel_rfl)
                replace e14 : a.tmps[83]? = some v14 := e14
                obtain rfl : v14 = _ := j14
                obtain ⟨v12, e12, j12⟩ := hdep 12 (by kernel_rfl)
                replace e12 : a.tmps[81]? = some v12 := e12
                obtain rfl : v12 = _ := j12
                clear hdep
                go_simp
                exact hK _ _ rfl (Below.refl _ _)
              · intro a w' hb hdep K hK
                obtain ⟨v15, e15, j15⟩ := hdep 15 (by kernel_rfl)
                replace e15 : a.tmps[84]? = some v15 := e15
                obtain rfl : v15 = _ := j15
                obtain ⟨v12, e12, j12⟩ := hdep 12 (by kernel_rfl)
                replace e12 : a.tmps[81]? = some v12 := e12
                obtain rfl : v12 = _ := j12
                clear hdep
                go_simp
                exact hK _ _ rfl (Below.refl _ _)
              · intro a w' hb hdep K hK
                have c3 := hb.at 2 3 _ rfl
                obtain ⟨v16, e16, j16⟩ := hdep 16 (by kernel_rfl)
                replace e16 : a.tmps[85]? = some v16 := e16
                obtain rfl : v16 = _ := j16
                clear hdep
                refine wanted_row 16 false rfl 85 rfl (by assumption) 23 _ rfl w.heap.size (by simp [Act.eval, c3]) 23 (tl t) (0, 0) _ (heap_on hb.bel hg) Try.underlying23 rfl (talIk ht) ?_
                exact hK _ _ rfl (Below.refl _ _)
              · intro a w' hb hdep K hK
                have c9 := hb.at 3 9 _ rfl
                obtain ⟨v16, e16, j16⟩ := hdep 16 (by kernel_rfl)
                replace e16 : a.tmps[85]? = some v16 := e16
                obtain rfl : v16 = _ := j16
                clear hdep
                refine wanted_row 16 false rfl 85 rfl (by assumption) 25 _ rfl x1.heap.size (by simp [Act.eval, c9]) 25 (lg QA) (0, 0) _ (heap_on hb.bel hl1) Try.underlying25 rfl (lngIk hlA) ?_
                exact hK _ _ rfl (Below.refl _ _)
              · intro a w' hb hdep K hK
                obtain ⟨v17, e17, j17⟩ := hdep 17 (by kernel_rfl)
                replace e17 : a.tmps[86]? = some v17 := e17
                obtain rfl : v17 = _ := j17
                obtain ⟨v18, e18, j18⟩ := hdep 18 (by kernel_rfl)
                replace e18 : a.tmps[87]? = some v18 := e18
                obtain rfl : v18 = _ := j18
                obtain ⟨v16, e16, j16⟩ := hdep 16 (by kernel_rfl)
                replace e16 : a.tmps[85]? = some v16 := e16
                obtain rfl : v16 = _ := j16
                clear hdep
                go_simp
                go_at_call 13
                refine (HTA.out w').mono ?_
                rintro e w20 ⟨rfl, hb20⟩
                exact hK _ _ rfl hb20
              · intro a w' hb hdep K hK
                have c3 := hb.at 2 3 _ rfl
                obtain ⟨v16, e16, j16⟩ := hdep 16 (by kernel_rfl)
                replace e16 : a.tmps[85]? = some v16 := e16
                obtain rfl : v16 = _ := j16
                clear hdep
                refine wanted_row 16 false rfl 85 rfl (by assumption) 23 _ rfl w.heap.size (by simp [Act.eval, c3]) 23 (tl t) (0, 0) _ (heap_on hb.bel hg) Try.underlying23 rfl (talIk ht) ?_
                exact hK _ _ rfl (Below.refl _ _)
              · intro a w' hb hdep K hK
                have c11 := hb.at 4 11 _ rfl
                obtain ⟨v16, e16, j16⟩ := hdep 16 (by kernel_rfl)
                replace e16 : a.tmps[85]? = some v16 := e16
                obtain rfl : v16 = _ := j16
                clear hdep
                refine wanted_row 16 false rfl 85 rfl (by assumption) 25 _ rfl x2.heap.size (by simp [Act.eval, c11]) 25 (lg QB) (0, 0) _ (heap_on hb.bel hl2) Try.underlying25 rfl (lngIk hlB) ?_
                exact hK _ _ rfl (Below.refl _ _)
              · intro a w' hb hdep K hK
                obtain ⟨v20, e20, j20⟩ := hdep 20 (by kernel_rfl)
                replace e20 : a.tmps[89]? = some v20 := e20
                obtain rfl : v20 = _ := j20
                obtain ⟨v21, e21, j21⟩ := hdep 21 (by kernel_rfl)
                replace e21 : a.tmps[90]? = some v21 := e21
                obtain rfl : v21 = _ := j21
                obtain ⟨v16, e16, j16⟩ := hdep 16 (by kernel_rfl)
                replace e16 : a.tmps[85]? = some v16 := e16
                obtain rfl : v16 = _ := j16
                clear hdep
                go_simp
                go_at_call 13
                refine (HTB.out w').mono ?_
                rintro e w20 ⟨rfl, hb20⟩
                exact hK _ _ rfl hb20
              · intro a w' hb hdep K hK
                obtain ⟨v19, e19, j19⟩ := hdep 19 (by kernel_rfl)
                replace e19 : a.tmps[88]? = some v19 := e19
                obtain rfl : v19 = _ := j19
                obtain ⟨v22, e22, j22⟩ := hdep 22 (by kernel_rfl)
                replace e22 : a.tmps[91]? = some v22 := e22
                obtain rfl : v22 = _ := j22
                obtain ⟨v16, e16, j16⟩ := hdep 16 (by kernel_rfl)
                replace e16 : a.tmps[85]? = some v16 := e16
                obtain rfl : v16 = _ := j16
                clear hdep
                go_simp
                exact hK _ _ rfl (Below.refl _ _)
              · intro a w' hb hdep K hK
                obtain ⟨v16, e16, j16⟩ := hdep 16 (by kernel_rfl)
                replace e16 : a.tmps[85]? = some v16 := e16
                obtain rfl : v16 = _ := j16
                obtain ⟨v23, e23, j23⟩ := hdep 23 (by kernel_rfl)
                replace e23 : a.tmps[92]? = some v23 := e23
                obtain rfl : v23 = _ := j23
                obtain ⟨v12, e12, j12⟩ := hdep 12 (by kernel_rfl)
                replace e12 : a.tmps[81]? = some v12 := e12
                obtain rfl : v12 = _ := j12
                clear hdep
                go_simp
                exact hK _ _ rfl (Below.refl _ _)
              · intro a w' hb hdep K hK
                obtain ⟨v12, e12, j12⟩ := hdep 12 (by kernel_rfl)
                replace e12 : a.tmps[81]? = some v12 := e12
                obtain rfl : v12 = _ := j12
                obtain ⟨v24, e24, j24⟩ := hdep 24 (by kernel_rfl)
                replace e24 : a.tmps[93]? = some v24 := e24
                obtain rfl : v24 = _ := j24
                clear hdep
                go_simp
                exact hK _ _ rfl (Below.refl _ _)
              · intro a w' hb hdep K hK
                obtain ⟨v25, e25, j25⟩ := hdep 25 (by kernel_rfl)
                replace e25 : a.tmps[94]? = some v25 := e25
                obtain rfl : v25 = _ := j25
                clear hdep
                go_simp
                exact hK _ _ rfl (Below.refl _ _)
              · intro a w' hb hdep K hK
                obtain ⟨v26, e26, j26⟩ := hdep 26 (by kernel_rfl)
                replace e26 : a.tmps[95]? = some v26 := e26
                obtain rfl : v26 = _ := j26
                clear hdep
                go_simp
                go_at_call 17
                refine (wakes_call w').mono ?_
                rintro e w20 ⟨rfl, hb20⟩
                exact hK _ _ rfl hb20
              · intro a w' hb hdep K hK
                obtain ⟨v26, e26, j26⟩ := hdep 26 (by kernel_rfl)
                replace e26 : a.tmps[95]? = some v26 := e26
                obtain rfl : v26 = _ := j26
                obtain ⟨v27, e27, j27⟩ := hdep 27 (by kernel_rfl)
                replace e27 : a.tmps[96]? = some v27 := e27
                obtain rfl : v27 = _ := j27
                clear hdep
                go_simp
                exact hK _ _ rfl (Below.refl _ _)
              · intro a w' hb hdep K hK
                obtain ⟨v28, e28, j28⟩ := hdep 28 (by kernel_rfl)
                replace e28 : a.tmps[97]? = some v28 := e28
                obtain rfl : v28 = _ := j28
                clear hdep
                go_simp
                exact hK _ _ rfl (Below.refl _ _)
            · intro vs w' hvl hall hb
              match vs, hvl with
              | [v0, v1, v2, v3, v4, v5, v6, v7, v8, v9, v10, v11, v12, v13, v14, v15, v16, v17, v18, v19, v20, v21, v22, v23, v24, v25, v26, v27, v28, v29], _ =>
                obtain rfl : v0 = _ := hall 0 (by decide)
                obtain rfl : v1 = _ := hall 1 (by decide)
                obtain rfl : v2 = _ := hall 2 (by decide)
                obtain rfl : v3 = _ := hall 3 (by decide)
                obtain rfl : v4 = _ := hall 4 (by decide)
                obtain rfl : v5 = _ := hall 5 (by decide)
                obtain rfl : v6 = _ := hall 6 (by decide)
                obtain rfl : v7 = _ := hall 7 (by decide)
                obtain rfl : v8 = _ := hall 8 (by decide)
                obtain rfl : v9 = _ := hall 9 (by decide)
                obtain rfl : v10 = _ := hall 10 (by decide)
                obtain rfl : v11 = _ := hall 11 (by decide)
                obtain rfl : v12 = _ := hall 12 (by decide)
                obtain rfl : v13 = _ := hall 13 (by decide)
                obtain rfl : v14 = _ := hall 14 (by decide)
                obtain rfl : v15 = _ := hall 15 (by decide)
                obtain rfl : v16 = _ := hall 16 (by decide)
                obtain rfl : v17 = _ := hall 17 (by decide)
                obtain rfl : v18 = _ := hall 18 (by decide)
                obtain rfl : v19 = _ := hall 19 (by decide)
                obtain rfl : v20 = _ := hall 20 (by decide)
                obtain rfl : v21 = _ := hall 21 (by decide)
                obtain rfl : v22 = _ := hall 22 (by decide)
                obtain rfl : v23 = _ := hall 23 (by decide)
                obtain rfl : v24 = _ := hall 24 (by decide)
                obtain rfl : v25 = _ := hall 25 (by decide)
                obtain rfl : v26 = _ := hall 26 (by decide)
                obtain rfl : v27 = _ := hall 27 (by decide)
                obtain rfl : v28 = _ := hall 28 (by decide)
                obtain rfl : v29 = _ := hall 29 (by decide)
                simp only [putAll, List.setIfInBounds_toArray, List.set_cons_zero, List.set_cons_succ]
                go_wp2
                go_ret
                exact ⟨rfl, HBL.out.trans (hb.mono HBL.out.size)⟩
        · have hd : (EB == 0) = false := by simpa using hEB
          subst hEA
          go_wp2_with (with_reducible refine (hwk _).mono ?_; rintro e w5 ⟨rfl, hb5⟩)
          go_ret
          exact ⟨rfl, HBL.out.trans (hb5.mono HBL.out.size)⟩
      · have hd : (EA == 0) = false := by simpa using hEA
        go_wp2_with (with_reducible refine (hwk _).mono ?_; rintro e w5 ⟨rfl, hb5⟩)
        go_ret
        exact ⟨rfl, HBL.out.trans (hb5.mono HBL.out.size)⟩
end Go.Proofs.Ytemjlmeakkknbaa
