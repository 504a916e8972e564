/- Law PackageMergeTurned. -/
import Derived.Test.YtemjlmeakkknbaaWk7
import Derived.Test.YtemjlmeakkknbaaLd
import Derived.Test.YtemjlmeakkknbaaFrm2
set_option linter.unusedVariables false
set_option linter.unusedSimpArgs false
namespace Go.Proofs.Ytemjlmeakkknbaa
open Go.RowKit

set_option maxRecDepth 100000 in
set_option maxHeartbeats 2000000 in
theorem turned_bad (t : List Int) (ht : Tal t) (L i k c : Int) (h : i < 0 ∨ 258 ≤ i ∨ k < 0 ∨ 258 ≤ k ∨ c < 1 ∨ 2147483647 < c) (w : World) :
    Calls Try.prog 7 #[.agg (tl t), .int .i64 L, .int .i64 i, .int .i64 k, .int .i64 c] w fun e w' => e = .returned (.bool true) ∧ Below w.heap.size w w' := by
  have hwk := wakes_call
  have hb := below_al w (.cells (tl t) 23)
  by_cases g0 : i < 0
  · clear h
    go_enter Try.func7, Try.ntmps7
    go_wp2_with (with_reducible refine (hwk _).mono ?_; rintro e w5 ⟨rfl, hb5⟩)
    go_ret
    exact ⟨rfl, hb.trans (hb5.mono hb.size)⟩
  · skip
    by_cases g1 : 258 ≤ i
    · clear h
      go_enter Try.func7, Try.ntmps7
      go_wp2_with (with_reducible refine (hwk _).mono ?_; rintro e w5 ⟨rfl, hb5⟩)
      go_ret
      exact ⟨rfl, hb.trans (hb5.mono hb.size)⟩
    · skip
      by_cases g2 : k < 0
      · clear h
        go_enter Try.func7, Try.ntmps7
        go_wp2_with (with_reducible refine (hwk _).mono ?_; rintro e w5 ⟨rfl, hb5⟩)
        go_ret
        exact ⟨rfl, hb.trans (hb5.mono hb.size)⟩
      · skip
        by_cases g3 : 258 ≤ k
        · clear h
          go_enter Try.func7, Try.ntmps7
          go_wp2_with (with_reducible refine (hwk _).mono ?_; rintro e w5 ⟨rfl, hb5⟩)
          go_ret
          exact ⟨rfl, hb.trans (hb5.mono hb.size)⟩
        · skip
          by_cases g4 : c < 1
          · clear h
            go_enter Try.func7, Try.ntmps7
            go_wp2_with (with_reducible refine (hwk _).mono ?_; rintro e w5 ⟨rfl, hb5⟩)
            go_ret
            exact ⟨rfl, hb.trans (hb5.mono hb.size)⟩
          · skip
            have g5 : 2147483647 < c := by omega
            clear h
            go_enter Try.func7, Try.ntmps7
            go_wp2_with (with_reducible refine (hwk _).mono ?_; rintro e w5 ⟨rfl, hb5⟩)
            go_ret
            exact ⟨rfl, hb.trans (hb5.mono hb.size)⟩

set_option maxRecDepth 100000 in
set_option maxHeartbeats 8000000 in
theorem turned_good (t : List Int) (ht : Tal t) (L : Int) (hL : -9223372036854775808 ≤ L ∧ L ≤ 9223372036854775807) (i k : Nat) (c : Int) (hi : i < 258) (hk : k < 258) (hc0 : 1 ≤ c) (hc1 : c ≤ 2147483647) (w : World) :
    Calls Try.prog 7 #[.agg (tl t), .int .i64 L, .int .i64 i, .int .i64 k, .int .i64 c] w fun e w' => e = .returned (.bool true) ∧ Below w.heap.size w w' := by
  have hzT := talZ
  have hzL := lngZ
  have hiI : (i : Int) < 258 := by omega
  have hkI : (k : Int) < 258 := by omega
  have hot := trn_tal ht i k
  have hmt := mor_tal ht i hc0 hc1
  have hlT := lenQ_lng ht L
  have hlO := lenQ_lng hot L
  have hlM := lenQ_lng hmt L
  have hkT := fun w => lengths_call t ht L hL w
  have hkO := fun w => lengths_call (trn t i k) hot L hL w
  have hkM := fun w => lengths_call (mor t i c) hmt L hL w
  have HTO := Lib.hid (fun (w : World) => total_call (trn t i k) (lenQ (trn t i k) L) hot hlO w)
  have HTT := Lib.hid (fun (w : World) => total_call t (lenQ t L) ht hlT w)
  have HTM := Lib.hid (fun (w : World) => total_call (mor t i c) (lenQ (mor t i c) L) hmt hlM w)
  have HOK := Lib.hid (fun h0 : lenE t L = 0 => (turned_tot ht hi hk (lenE_is h0)))
  have HOE := Lib.hid (fun h0 : lenE t L = 0 => lenE_ok (turned_tot ht hi hk (lenE_is h0)).1)
  have HMO := Lib.hid (fun (h0 : lenE t L = 0) (h1 : lenE (mor t i c) L = 0) => mor_tot ht hi hc0 hc1 (lenE_is h0) (lenE_is h1))
  have HO : RowKit.Hid (trn t i k = (t.set i (t.getD k 0)).set k (t.getD i 0)) := Lib.hid rfl
  have HM : RowKit.Hid (mor t i c = if t.getD i 0 = 0 then t.set i c else t) := Lib.hid rfl
  generalize trn t i k = O at hot hlO hkO HTO HOK HOE HO
  generalize mor t i c = M at hmt hlM hkM HTM HMO HM
  generalize lenQ t L = QT at hlT hkT HTT HOK HMO
  generalize lenQ O L = QO at hlO hkO HTO HOK
  generalize lenQ M L = QM at hlM hkM HTM HMO
  generalize lenE t L = ET at hkT HOK HOE HMO
  generalize lenE O L = EO at hkO HOE
  generalize lenE M L = EM at hkM HMO
  generalize totV t QT = TT at HTT HOK HMO
  generalize totV O QO = TO at HTO HOK
  generalize totV M QM = TM at HTM HMO
  have HOT : RowKit.Hid (ET = 0 → TO = TT) := Lib.hid (fun h => (HOK.out h).2)
  have HOKK : RowKit.Hid (ET = 0 → EO = 0) := Lib.hid HOE.out
  have hwk := wakes_call
  clear HOK HOE
  go_enter Try.func7, Try.ntmps7
  go_upto_region 3 with fail
  have hg := heap_alloc_last w (.cells (tl t) 23)
  have hbl := below_al w (.cells (tl t) 23)
  generalize w.alloc (.cells (tl t) 23) = w1 at hg hbl ⊢
  have HBL := Lib.hid hbl
  clear hbl
  go_upto_region 4 with (first
    | (refine wpList_load_row rfl 23 _ rfl (w.heap.size) rfl 23 (tl t) (0, 0) _ hg Try.underlying23 rfl (talIk ht) ?_)
    | (with_reducible refine (hkT _).mono ?_
       rintro e x1 ⟨rfl, hb⟩
       replace HBL := Lib.hid (HBL.out.trans (hb.mono HBL.out.size))
       replace hg := heap_on hb hg
       clear hb hkT)
    | (refine wpList_store_row rfl 25 _ _ rfl x1.heap.size (lg QT) rfl rfl 25 (lg zL) (heap_alloc_last x1 _) (lngIk hlT) (by rw [lg_size zL_lng, lg_size hlT]) (lg_all _) ?_))
  rw [World.setRow_alloc_new]
  have hbq := below_al x1 (.cells (lg QT) 25)
  have hl1 := heap_alloc_last x1 (.cells (lg QT) 25)
  replace HBL := Lib.hid (HBL.out.trans (hbq.mono HBL.out.size))
  replace hg := heap_on hbq hg
  generalize x1.alloc (.cells (lg QT) 25) = y1 at hbq hl1 HBL hg ⊢
  clear hbq
  by_cases hET : ET = 0
  · have hOT := HOT.out hET
    have hEO := HOKK.out hET
    subst hET
    subst hEO
    have HMM : RowKit.Hid (EM = 0 → TT ≤ TM) := Lib.hid (fun h => HMO.out rfl h)
    clear HOT HOKK HMO
    go_upto_region 7 with (first
      | (refine wpList_load_row rfl 23 _ rfl w.heap.size rfl 23 (tl t) (0, 0) _ hg Try.underlying23 rfl (talIk ht) ?_)
      | (refine wpList_store_row rfl 23 _ _ rfl y1.heap.size (tl t) rfl rfl 23 (tl zT) (heap_alloc_last y1 _) (talIk ht) (by rw [tl_size zT_tal, tl_size ht]) (tl_all _) ?_))
    have HLT := Lib.hid (Array.getElem?_eq_some_iff.1 hg).1
    have HX1 := Lib.hid (Array.getElem?_eq_some_iff.1 hl1).1
    obtain ⟨x2, hx2⟩ : ∃ x2, x2 = y1 := ⟨_, rfl⟩
    rw [← hx2] at hg hl1 HBL HLT HX1 ⊢
    clear hx2
    rw [World.setRow_alloc_new]
    have hbq := below_al x2 (.cells (tl t) 23)
    have ho := heap_alloc_last x2 (.cells (tl t) 23)
    replace HBL := Lib.hid (HBL.out.trans (hbq.mono HBL.out.size))
    replace hg := heap_on hbq hg
    replace hl1 := heap_on hbq hl1
    generalize x2.alloc (.cells (tl t) 23) = y2 at hbq ho HBL hg hl1 ⊢
    clear hbq
    have hne : ¬ x2.heap.size = w.heap.size := by
      have := HLT.out
      omega
    have hti := tl_cell hg ht i hi
    have htk := tl_cell hg ht k hk
    have hoi := tl_cell ho ht i hi
    have hok := tl_cell ho ht k hk
    have hfi := frozen_of_row _ _ i _ _ ho
    have hfk := frozen_of_row _ _ k _ _ ho
    have hHO := HO.out
    obtain ⟨X, hX⟩ : ∃ X, X = t.getD i 0 := ⟨_, rfl⟩
    obtain ⟨Y, hY⟩ : ∃ Y, Y = t.getD k 0 := ⟨_, rfl⟩
    rw [← hX] at hti hoi hHO
    rw [← hY] at htk hok hHO
    have HX := Lib.hid hX
    have HO2 := Lib.hid hHO
    clear hX hY hHO HO
    dsimp only [Act.put]
    go_cut [] (fun wx => wx.heap[w.heap.size]? = some (.cells (tl t) 23 (0, 0)) ∧ wx.heap[x1.heap.size]? = some (.cells (lg QT) 25 (0, 0)) ∧ wx.heap[x2.heap.size]? = some (.cells (tl O) 23 (0, 0)) ∧ Below w.heap.size w wx)
    case first =>
      have hnx : ¬ x1.heap.size = x2.heap.size := by
        have := (Array.getElem?_eq_some_iff.1 hl1).1
        have h2 := HX1.out
        omega
      by_cases hik : i = k
      · subst hik
        obtain rfl : X = Y := by
          rw [hti] at htk
          injection htk with e
          injection e
        go_region
        go_wp2
        go_meet
        exact trn_heap hg hl1 ho (by omega) (by omega) HO2.out HBL.out (by have := HLT.out; omega)
      · go_region
        all_goals
          go_wp2
          go_meet
          exact trn_heap hg hl1 ho (by omega) (by omega) HO2.out HBL.out (by have := HLT.out; omega)
    case rest =>
      obtain ⟨hg, hl1, ho, hbc⟩ := hcut
      replace HBL := Lib.hid hbc
      clear hbc
      go_upto_region 9 with (first
        | (refine wpList_load_row rfl 23 _ rfl (x2.heap.size) rfl 23 (tl O) (0, 0) _ ho Try.underlying23 rfl (talIk hot) ?_)
        | (with_reducible refine (hkO _).mono ?_
           rintro e x3 ⟨rfl, hb⟩
           replace HBL := Lib.hid (HBL.out.trans (hb.mono HBL.out.size))
           replace hg := heap_on hb hg
           replace hl1 := heap_on hb hl1
           replace ho := heap_on hb ho
           clear hb hkO)
        | (refine wpList_store_row rfl 25 _ _ rfl x3.heap.size (lg QO) rfl rfl 25 (lg zL) (heap_alloc_last x3 _) (lngIk hlO) (by rw [lg_size zL_lng, lg_size hlO]) (lg_all _) ?_))
      rw [World.setRow_alloc_new]
      have hbq := below_al x3 (.cells (lg QO) 25)
      have hl3 := heap_alloc_last x3 (.cells (lg QO) 25)
      replace HBL := Lib.hid (HBL.out.trans (hbq.mono HBL.out.size))
      replace hg := heap_on hbq hg
      replace hl1 := heap_on hbq hl1
      replace ho := heap_on hbq ho
      generalize x3.alloc (.cells (lg QO) 25) = y3 at hbq hl3 HBL hg hl1 ho ⊢
      clear hbq
      go_upto_region 10 with (first
        | (refine wpList_load_row rfl 23 _ rfl w.heap.size rfl 23 (tl t) (0, 0) _ hg Try.underlying23 rfl (talIk ht) ?_)
        | (refine wpList_store_row rfl 23 _ _ rfl y3.heap.size (tl t) rfl rfl 23 (tl zT) (heap_alloc_last y3 _) (talIk ht) (by rw [tl_size zT_tal, tl_size ht]) (tl_all _) ?_))
      have HLT := Lib.hid (Array.getElem?_eq_some_iff.1 hg).1
      have HY0 := Lib.hid (Array.getElem?_eq_some_iff.1 hl1).1
      have HY1 := Lib.hid (Array.getElem?_eq_some_iff.1 ho).1
      have HY2 := Lib.hid (Array.getElem?_eq_some_iff.1 hl3).1
      obtain ⟨x4, hx4⟩ : ∃ x4, x4 = y3 := ⟨_, rfl⟩
      rw [← hx4] at hg hl1 ho hl3 HBL HLT HY0 HY1 HY2 ⊢
      clear hx4
      rw [World.setRow_alloc_new]
      have hbq := below_al x4 (.cells (tl t) 23)
      have hm := heap_alloc_last x4 (.cells (tl t) 23)
      replace HBL := Lib.hid (HBL.out.trans (hbq.mono HBL.out.size))
      replace hg := heap_on hbq hg
      replace hl1 := heap_on hbq hl1
      replace ho := heap_on hbq ho
      replace hl3 := heap_on hbq hl3
      generalize x4.alloc (.cells (tl t) 23) = y4 at hbq hm HBL hg hl1 ho hl3 ⊢
      clear hbq
      dsimp only [Act.put]
      have hmi := tl_cell hm ht i hi
      have hfi := frozen_of_row _ _ i _ _ hm
      rw [← HX.out] at hmi
      have hwle := HBL.out.size
      by_cases hX0 : X = 0
      · have hxx : (X == 0) = true := by simpa using hX0
        have hMe : M = t.set i c := by rw [HM.out, if_pos (by rw [← HX.out]; exact hX0)]
        have HME := Lib.hid hMe
        have hch := (Ch.refl (fun y => y = x4.heap.size) y4).setCell ⟨x4.heap.size, i, none⟩ (.int .i64 c) (.inl rfl)
        have hm2 : (y4.setCell ⟨x4.heap.size, i, none⟩ (.int .i64 c)).heap[x4.heap.size]? = some (.cells (tl M) 23 (0, 0)) := by rw [heap_setCell_same _ _ _ _ _ _ hm, tl_set, HME.out]
        have hg2 := hch.heap hg (by have := HLT.out; omega)
        have hl12 := hch.heap hl1 (by have := HY0.out; omega)
        have ho2 := hch.heap ho (by have := HY1.out; omega)
        have hl32 := hch.heap hl3 (by have := HY2.out; omega)
        have HB2 := Lib.hid (HBL.out.trans (hch.below hwle (fun y e => by subst e; exact Nat.le_of_lt HLT.out)))
        clear hMe hch
        go_upto_region 12 with fail
        clear hg hl1 ho hl3 hm hmi hfi HBL hxx
        generalize y4.setCell ⟨x4.heap.size, i, none⟩ (.int .i64 c) = y5 at hm2 hg2 hl12 ho2 hl32 HB2 ⊢
        go_upto_region 13 with (first
          | (refine wpList_load_row rfl 23 _ rfl x4.heap.size rfl 23 (tl M) (0, 0) _ hm2 Try.underlying23 rfl (talIk hmt) ?_)
          | (with_reducible refine (hkM _).mono ?_
             rintro e x6 ⟨rfl, hb⟩
             replace HB2 := Lib.hid (HB2.out.trans (hb.mono HB2.out.size))
             replace hg2 := heap_on hb hg2
             replace hl12 := heap_on hb hl12
             replace ho2 := heap_on hb ho2
             replace hl32 := heap_on hb hl32
             replace hm2 := heap_on hb hm2
             clear hb hkM)
          | (refine wpList_store_row rfl 25 _ _ rfl x6.heap.size (lg QM) rfl rfl 25 (lg zL) (heap_alloc_last x6 _) (lngIk hlM) (by rw [lg_size zL_lng, lg_size hlM]) (lg_all _) ?_))
        rw [World.setRow_alloc_new]
        have hbq := below_al x6 (.cells (lg QM) 25)
        have hl6 := heap_alloc_last x6 (.cells (lg QM) 25)
        replace HB2 := Lib.hid (HB2.out.trans (hbq.mono HB2.out.size))
        replace hg2 := heap_on hbq hg2
        replace hl12 := heap_on hbq hl12
        replace ho2 := heap_on hbq ho2
        replace hl32 := heap_on hbq hl32
        replace hm2 := heap_on hbq hm2
        generalize x6.alloc (.cells (lg QM) 25) = y6 at hbq hl6 HB2 hg2 hl12 ho2 hl32 hm2 ⊢
        clear hbq hwk
        by_cases hEM : EM = 0
        · subst hEM
          have hTM := HMM.out rfl
          refine wp_region_frame (J := Js [eqv (.int .i64 0), eqv (.bool true), eqv (.bool true), eqv (.agg (tl O)), eqv (.agg (lg QO)), eqv (.int .i64 TO), eqv (.agg (tl t)), eqv (.agg (lg QT)), eqv (.int .i64 TT), eqv (.bool true), eqv (.bool true), eqv (.bool true), eqv (.int .i64 0), eqv (.bool false), eqv (.bool false), eqv (.agg (tl M)), eqv (.agg (lg QM)), eqv (.int .i64 TM), eqv (.agg (tl t)), eqv (.agg (lg QT)), eqv (.int .i64 TT), eqv (.bool true), eqv (.bool true), eqv (.bool true), eqv (.bool true), eqv (.bool true), eqv (.bool true), eqv (.bool true)]) (ds := [82, 83, 84, 85, 86, 87, 88, 89, 90, 91, 92, 93, 94, 95, 96, 97, 98, 99, 100, 101, 102, 103, 104, 105, 106, 107, 108, 10]) (N := 109)
            (B := [(5, .pointer (some ⟨w.heap.size, 0, none⟩)), (11, .pointer (some ⟨x1.heap.size, 0, none⟩)), (13, .pointer (some ⟨x2.heap.size, 0, none⟩)), (14, .pointer (some ⟨x3.heap.size, 0, none⟩)), (15, .int .i64 0), (16, .pointer (some ⟨x4.heap.size, 0, none⟩)), (17, .pointer (some ⟨x6.heap.size, 0, none⟩)), (18, .int .i64 0)]) (by kernel_rfl) (by kernel_rfl) (Js_mono ⟨eqv_mono _, eqv_mono _, eqv_mono _, eqv_mono _, eqv_mono _, eqv_mono _, eqv_mono _, eqv_mono _, eqv_mono _, eqv_mono _, eqv_mono _, eqv_mono _, eqv_mono _, eqv_mono _, eqv_mono _, eqv_mono _, eqv_mono _, eqv_mono _, eqv_mono _, eqv_mono _, eqv_mono _, eqv_mono _, eqv_mono _, eqv_mono _, eqv_mono _, eqv_mono _, eqv_mono _, eqv_mono _, trivial⟩) rfl rfl (by simp) ?_ ?_
          · refine ⟨?_, ?_, ?_, ?_, ?_, ?_, ?_, ?_, ?_, ?_, ?_, ?_, ?_, ?_, ?_, ?_, ?_, ?_, ?_, ?_, ?_, ?_, ?_, ?_, ?_, ?_, ?_, ?_, trivial⟩
            · intro a w' hb hdep K hK
              have c15 := hb.at 4 15 _ rfl
              clear hdep
              go_simp
              exact hK _ _ rfl (Below.refl _ _)
            · intro a w' hb hdep K hK
              obtain ⟨v0, e0, j0⟩ := hdep 0 (by kernel_rfl)
              replace e0 : a.tmps[82]? = some v0 := e0
              obtain rfl : v0 = _ := j0
              clear hdep
              go_simp
              exact hK _ _ rfl (Below.refl _ _)
            · intro a w' hb hdep K hK
              obtain ⟨v1, e1, j1⟩ := hdep 1 (by kernel_rfl)
              replace e1 : a.tmps[83]? = some v1 := e1
              obtain rfl : v1 = _ := j1
              clear hdep
              go_simp
              exact hK _ _ rfl (Below.refl _ _)
            · intro a w' hb hdep K hK
              have c13 := hb.at 2 13 _ rfl
              obtain ⟨v2, e2, j2⟩ := hdep 2 (by kernel_rfl)
              replace e2 : a.tmps[84]? = some v2 := e2
              obtain rfl : v2 = _ := j2
              clear hdep
              refine wanted_row 2 true rfl 84 rfl (by assumption) 23 _ rfl x2.heap.size (by simp [Act.eval, c13]) 23 (tl O) (0, 0) _ (heap_on hb.bel ho2) Try.underlying23 rfl (talIk hot) ?_
              exact hK _ _ rfl (Below.refl _ _)
            · intro a w' hb hdep K hK
              have c14 := hb.at 3 14 _ rfl
              obtain ⟨v2, e2, j2⟩ := hdep 2 (by kernel_rfl)
              replace e2 : a.tmps[84]? = some v2 := e2
              obtain rfl : v2 = _ := j2
              clear hdep
              refine wanted_row 2 true rfl 84 rfl (by assumption) 25 _ rfl x3.heap.size (by simp [Act.eval, c14]) 25 (lg QO) (0, 0) _ (heap_on hb.bel hl32) Try.underlying25 rfl (lngIk hlO) ?_
              exact hK _ _ rfl (Below.refl _ _)
            · intro a w' hb hdep K hK
              obtain ⟨v3, e3, j3⟩ := hdep 3 (by kernel_rfl)
              replace e3 : a.tmps[85]? = some v3 := e3
              obtain rfl : v3 = _ := j3
              obtain ⟨v4, e4, j4⟩ := hdep 4 (by kernel_rfl)
              replace e4 : a.tmps[86]? = some v4 := e4
              obtain rfl : v4 = _ := j4
              obtain ⟨v2, e2, j2⟩ := hdep 2 (by kernel_rfl)
              replace e2 : a.tmps[84]? = some v2 := e2
              obtain rfl : v2 = _ := j2
              clear hdep
              go_simp
              go_at_call 13
              refine (HTO.out w').mono ?_
              rintro e w20 ⟨rfl, hb20⟩
              exact hK _ _ rfl hb20
            · intro a w' hb hdep K hK
              have c5 := hb.at 0 5 _ rfl
              obtain ⟨v2, e2, j2⟩ := hdep 2 (by kernel_rfl)
              replace e2 : a.tmps[84]? = some v2 := e2
              obtain rfl : v2 = _ := j2
              clear hdep
              refine wanted_row 2 true rfl 84 rfl (by assumption) 23 _ rfl w.heap.size (by simp [Act.eval, c5]) 23 (tl t) (0, 0) _ (heap_on hb.bel hg2) Try.underlying23 rfl (talIk ht) ?_
              exact hK _ _ rfl (Below.refl _ _)
            · intro a w' hb hdep K hK
              have c11 := hb.at 1 11 _ rfl
              obtain ⟨v2, e2, j2⟩ := hdep 2 (by kernel_rfl)
              replace e2 : a.tmps[84]? = some v2 := e2
              obtain rfl : v2 = _ := j2
              clear hdep
              refine wanted_row 2 true rfl 84 rfl (by assumption) 25 _ rfl x1.heap.size (by simp [Act.eval, c11]) 25 (lg QT) (0, 0) _ (heap_on hb.bel hl12) Try.underlying25 rfl (lngIk hlT) ?_
              exact hK _ _ rfl (Below.refl _ _)
            · intro a w' hb hdep K hK
              obtain ⟨v6, e6, j6⟩ := hdep 6 (by kernel_rfl)
              replace e6 : a.tmps[88]? = some v6 := e6
              obtain rfl : v6 = _ := j6
              obtain ⟨v7, e7, j7⟩ := hdep 7 (by kernel_rfl)
              replace e7 : a.tmps[89]? = some v7 := e7
              obtain rfl : v7 = _ := j7
              obtain ⟨v2, e2, j2⟩ := hdep 2 (by kernel_rfl)
              replace e2 : a.tmps[84]? = some v2 := e2
              obtain rfl : v2 = _ := j2
              clear hdep
              go_simp
              go_at_call 13
              refine (HTT.out w').mono ?_
              rintro e w20 ⟨rfl, hb20⟩
              exact hK _ _ rfl hb20
            · intro a w' hb hdep K hK
              obtain ⟨v5, e5, j5⟩ := hdep 5 (by kernel_rfl)
              replace e5 : a.tmps[87]? = some v5 := e5
              obtain rfl : v5 = _ := j5
              obtain ⟨v8, e8, j8⟩ := hdep 8 (by kernel_rfl)
              replace e8 : a.tmps[90]? = some v8 := e8
              obtain rfl : v8 = _ := j8
              obtain ⟨v2, e2, j2⟩ := hdep 2 (by kernel_rfl)
              replace e2 : a.tmps[84]? = some v2 := e2
              obtain rfl : v2 = _ := j2
              have hqq := hOT
              clear hdep
              go_simp
              exact hK _ _ rfl (Below.refl _ _)
            · intro a w' hb hdep K hK
              obtain ⟨v2, e2, j2⟩ := hdep 2 (by kernel_rfl)
              replace e2 : a.tmps[84]? = some v2 := e2
              obtain rfl : v2 = _ := j2
              obtain ⟨v9, e9, j9⟩ := hdep 9 (by kernel_rfl)
              replace e9 : a.tmps[91]? = some v9 := e9
              obtain rfl : v9 = _ := j9
              clear hdep
              go_simp
              exact hK _ _ rfl (Below.refl _ _)
            · intro a w' hb hdep K hK
              obtain ⟨v10, e10, j10⟩ := hdep 10 (by kernel_rfl)
              replace e10 : a.tmps[92]? = some v10 := e10
              obtain rfl : v10 = _ := j10
              clear hdep
              go_simp
              exact hK _ _ rfl (Below.refl _ _)
            · intro a w' hb hdep K hK
              have c18 := hb.at 7 18 _ rfl
              obtain ⟨v11, e11, j11⟩ := hdep 11 (by kernel_rfl)
              replace e11 : a.tmps[93]? = some v11 := e11
              obtain rfl : v11 = _ := j11
              clear hdep
              go_simp
              exact hK _ _ rfl (Below.refl _ _)
            · intro a w' hb hdep K hK
              obtain ⟨v12, e12, j12⟩ := hdep 12 (by kernel_rfl)
              replace e12 : a.tmps[94]? = some v12 := e12
              obtain rfl : v12 = _ := j12
              obtain ⟨v11, e11, j11⟩ := hdep 11 (by kernel_rfl)
              replace e11 : a.tmps[93]? = some v11 := e11
              obtain rfl : v11 = _ := j11
              clear hdep
              go_simp
              exact hK _ _ rfl (Below.refl _ _)
            · intro a w' hb hdep K hK
              obtain ⟨v13, e13, j13⟩ := hdep 13 (by kernel_rfl)
              replace e13 : a.tmps[95]? = some v13 := e13
              obtain rfl : v13 = _ := j13
              obtain ⟨v11, e11, j11⟩ := hdep 11 (by kernel_rfl)
              replace e11 : a.tmps[93]? = some v11 := e11
              obtain rfl : v11 = _ := j11
              clear hdep
              go_simp
              exact hK _ _ rfl (Below.refl _ _)
            · intro a w' hb hdep K hK
              have c16 := hb.at 5 16 _ rfl
              obtain ⟨v14, e14, j14⟩ := hdep 14 (by kernel_rfl)
              replace e14 : a.tmps[96]? = some v14 := e14
              obtain rfl : v14 = _ := j14
              clear hdep
              refine wanted_row 14 false rfl 96 rfl (by assumption) 23 _ rfl x4.heap.size (by simp [Act.eval, c16]) 23 (tl M) (0, 0) _ (heap_on hb.bel hm2) Try.underlying23 rfl (talIk hmt) ?_
              exact hK _ _ rfl (Below.refl _ _)
            · intro a w' hb hdep K hK
              have c17 := hb.at 6 17 _ rfl
              obtain ⟨v14, e14, j14⟩ := hdep 14 (by kernel_rfl)
              replace e14 : a.tmps[96]? = some v14 := e14
              obtain rfl : v14 = _ := j14
              clear hdep
              refine wanted_row 14 false rfl 96 rfl (by assumption) 25 _ rfl x6.heap.size (by simp [Act.eval, c17]) 25 (lg QM) (0, 0) _ (heap_on hb.bel hl6) Try.underlying25 rfl (lngIk hlM) ?_
              exact hK _ _ rfl (Below.refl _ _)
            · intro a w' hb hdep K hK
              obtain ⟨v15, e15, j15⟩ := hdep 15 (by kernel_rfl)
              replace e15 : a.tmps[97]? = some v15 := e15
              obtain rfl : v15 = _ := j15
              obtain ⟨v16, e16, j16⟩ := hdep 16 (by kernel_rfl)
              replace e16 : a.tmps[98]? = some v16 := e16
              obtain rfl : v16 = _ := j16
              obtain ⟨v14, e14, j14⟩ := hdep 14 (by kernel_rfl)
              replace e14 : a.tmps[96]? = some v14 := e14
              obtain rfl : v14 = _ := j14
              clear hdep
              go_simp
              go_at_call 13
              refine (HTM.out w').mono ?_
              rintro e w20 ⟨rfl, hb20⟩
              exact hK _ _ rfl hb20
            · intro a w' hb hdep K hK
              have c5 := hb.at 0 5 _ rfl
              obtain ⟨v14, e14, j14⟩ := hdep 14 (by kernel_rfl)
              replace e14 : a.tmps[96]? = some v14 := e14
              obtain rfl : v14 = _ := j14
              clear hdep
              refine wanted_row 14 false rfl 96 rfl (by assumption) 23 _ rfl w.heap.size (by simp [Act.eval, c5]) 23 (tl t) (0, 0) _ (heap_on hb.bel hg2) Try.underlying23 rfl (talIk ht) ?_
              exact hK _ _ rfl (Below.refl _ _)
            · intro a w' hb hdep K hK
              have c11 := hb.at 1 11 _ rfl
              obtain ⟨v14, e14, j14⟩ := hdep 14 (by kernel_rfl)
              replace e14 : a.tmps[96]? = some v14 := e14
              obtain rfl : v14 = _ := j14
              clear hdep
              refine wanted_row 14 false rfl 96 rfl (by assumption) 25 _ rfl x1.heap.size (by simp [Act.eval, c11]) 25 (lg QT) (0, 0) _ (heap_on hb.bel hl12) Try.underlying25 rfl (lngIk hlT) ?_
              exact hK _ _ rfl (Below.refl _ _)
            · intro a w' hb hdep K hK
              obtain ⟨v18, e18, j18⟩ := hdep 18 (by kernel_rfl)
              replace e18 : a.tmps[100]? = some v18 := e18
              obtain rfl : v18 = _ := j18
              obtain ⟨v19, e19, j19⟩ := hdep 19 (by kernel_rfl)
              replace e19 : a.tmps[101]? = some v19 := e19
              obtain rfl : v19 = _ := j19
              obtain ⟨v14, e14, j14⟩ := hdep 14 (by kernel_rfl)
              replace e14 : a.tmps[96]? = some v14 := e14
              obtain rfl : v14 = _ := j14
              clear hdep
              go_simp
              go_at_call 13
              refine (HTT.out w').mono ?_
              rintro e w20 ⟨rfl, hb20⟩
              exact hK _ _ rfl hb20
            · intro a w' hb hdep K hK
              obtain ⟨v17, e17, j17⟩ := hdep 17 (by kernel_rfl)
              replace e17 : a.tmps[99]? = some v17 := e17
              obtain rfl : v17 = _ := j17
              obtain ⟨v20, e20, j20⟩ := hdep 20 (by kernel_rfl)
              replace e20 : a.tmps[102]? = some v20 := e20
              obtain rfl : v20 = _ := j20
              obtain ⟨v14, e14, j14⟩ := hdep 14 (by kernel_rfl)
              replace e14 : a.tmps[96]? = some v14 := e14
              obtain rfl : v14 = _ := j14
              clear hdep
              go_simp
              exact hK _ _ rfl (Below.refl _ _)
            · intro a w' hb hdep K hK
              obtain ⟨v14, e14, j14⟩ := hdep 14 (by kernel_rfl)
              replace e14 : a.tmps[96]? = some v14 := e14
              obtain rfl : v14 = _ := j14
              obtain ⟨v21, e21, j21⟩ := hdep 21 (by kernel_rfl)
              replace e21 : a.tmps[103]? = some v21 := e21
              obtain rfl : v21 = _ := j21
              obtain ⟨v11, e11, j11⟩ := hdep 11 (by kernel_rfl)
              replace e11 : a.tmps[93]? = some v11 := e11
              obtain rfl : v11 = _ := j11
              clear hdep
              go_simp
              exact hK _ _ rfl (Below.refl _ _)
            · intro a w' hb hdep K hK
              obtain ⟨v11, e11, j11⟩ := hdep 11 (by kernel_rfl)
              replace e11 : a.tmps[93]? = some v11 := e11
              obtain rfl : v11 = _ := j11
              obtain ⟨v22, e22, j22⟩ := hdep 22 (by kernel_rfl)
              replace e22 : a.tmps[104]? = some v22 := e22
              obtain rfl : v22 = _ := j22
              clear hdep
              go_simp
              exact hK _ _ rfl (Below.refl _ _)
            · intro a w' hb hdep K hK
              obtain ⟨v23, e23, j23⟩ := hdep 23 (by kernel_rfl)
              replace e23 : a.tmps[105]? = some v23 := e23
              obtain rfl : v23 = _ := j23
              clear hdep
              go_simp
              exact hK _ _ rfl (Below.refl _ _)
            · intro a w' hb hdep K hK
              obtain ⟨v24, e24, j24⟩ := hdep 24 (by kernel_rfl)
              replace e24 : a.tmps[106]? = some v24 := e24
              obtain rfl : v24 = _ := j24
              clear hdep
              go_simp
              go_at_call 17
              refine (wakes_call w').mono ?_
              rintro e w20 ⟨rfl, hb20⟩
              exact hK _ _ rfl hb20
            · intro a w' hb hdep K hK
              obtain ⟨v24, e24, j24⟩ := hdep 24 (by kernel_rfl)
              replace e24 : a.tmps[106]? = some v24 := e24
              obtain rfl : v24 = _ := j24
              obtain ⟨v25, e25, j25⟩ := hdep 25 (by kernel_rfl)
              replace e25 : a.tmps[107]? = some v25 := e25
              obtain rfl : v25 = _ := j25
              clear hdep
              go_simp
              exact hK _ _ rfl (Below.refl _ _)
            · intro a w' hb hdep K hK
              obtain ⟨v26, e26, j26⟩ := hdep 26 (by kernel_rfl)
              replace e26 : a.tmps[108]? = some v26 := e26
              obtain rfl : v26 = _ := j26
              clear hdep
              go_simp
              exact hK _ _ rfl (Below.refl _ _)
          · intro vs w' hvl hall hb
            match vs, hvl with
            | [v0, v1, v2, v3, v4, v5, v6, v7, v8, v9, v10, v11, v12, v13, v14, v15, v16, v17, v18, v19, v20, v21, v22, v23, v24, v25, v26, v27], _ =>
              obtain rfl : v0 = _ := hall 0 (by decide)
              obtain rfl : v1 = _ := hall 1 (by decide)
              obtain rfl : v2 = _ := hall 2 (by decide)
              obtain rfl : v3 = _ := hall 3 (by decide)
              obtain rfl : v4 = _ := hall 4 (by decide)
              obtain rfl : v5 = _ := hall 5 (by decide)
              obtain rfl : v6 = _ := hall 6 (by decide)
              obtain rfl : v7 = _ := hall 7 (by decide)
              obtain rfl : v8 = _ := hall 8 (by decide)
              obtain rfl : v9 = _ := hall 9 (by decide)
              obtain rfl : v10 = _ := hall 10 (by decide)
              obtain rfl : v11 = _ := hall 11 (by decide)
              obtain rfl : v12 = _ := hall 12 (by decide)
              obtain rfl : v13 = _ := hall 13 (by decide)
              obtain rfl : v14 = _ := hall 14 (by decide)
              obtain rfl : v15 = _ := hall 15 (by decide)
              obtain rfl : v16 = _ := hall 16 (by decide)
              obtain rfl : v17 = _ := hall 17 (by decide)
              obtain rfl : v18 = _ := hall 18 (by decide)
              obtain rfl : v19 = _ := hall 19 (by decide)
              obtain rfl : v20 = _ := hall 20 (by decide)
              obtain rfl : v21 = _ := hall 21 (by decide)
              obtain rfl : v22 = _ := hall 22 (by decide)
              obtain rfl : v23 = _ := hall 23 (by decide)
              obtain rfl : v24 = _ := hall 24 (by decide)
              obtain rfl : v25 = _ := hall 25 (by decide)
              obtain rfl : v26 = _ := hall 26 (by decide)
              obtain rfl : v27 = _ := hall 27 (by decide)
              simp only [putAll, List.setIfInBounds_toArray, List.set_cons_zero, List.set_cons_succ]
              go_wp2
              go_ret
              exact ⟨rfl, HB2.out.trans (hb.mono HB2.out.size)⟩
        · have hd : (EM == 0) = false := by simpa using hEM
          have hd2 : (EM != 0) = true := by simpa using hEM
          refine wp_region_frame (J := Js [eqv (.int .i64 0), eqv (.bool true), eqv (.bool true), eqv (.agg (tl O)), eqv (.agg (lg QO)), eqv (.int .i64 TO), eqv (.agg (tl t)), eqv (.agg (lg QT)), eqv (.int .i64 TT), eqv (.bool true), eqv (.bool true), eqv (.bool true), eqv (.int .i64 EM), eqv (.bool true), eqv (.bool true), eqv undef, eqv undef, eqv undef, eqv undef, eqv undef, eqv undef, eqv undef, eqv (.bool true), eqv (.bool true), eqv (.bool true), eqv (.bool true), eqv (.bool true), eqv (.bool true)]) (ds := [82, 83, 84, 85, 86, 87, 88, 89, 90, 91, 92, 93, 94, 95, 96, 97, 98, 99, 100, 101, 102, 103, 104, 105, 106, 107, 108, 10]) (N := 109)
            (B := [(5, .pointer (some ⟨w.heap.size, 0, none⟩)), (11, .pointer (some ⟨x1.heap.size, 0, none⟩)), (13, .pointer (some ⟨x2.heap.size, 0, none⟩)), (14, .pointer (some ⟨x3.heap.size, 0, none⟩)), (15, .int .i64 0), (16, .pointer (some ⟨x4.heap.size, 0, none⟩)), (17, .pointer (some ⟨x6.heap.size, 0, none⟩)), (18, .int .i64 EM)]) (by kernel_rfl) (by kernel_rfl) (Js_mono ⟨eqv_mono _, eqv_mono _, eqv_mono _, eqv_mono _, eqv_mono _, eqv_mono _, eqv_mono _, eqv_mono _, eqv_mono _, eqv_mono _, eqv_mono _, eqv_mono _, eqv_mono _, eqv_mono _, eqv_mono _, eqv_mono _, eqv_mono _, eqv_mono _, eqv_mono _, eqv_mono _, eqv_mono _, eqv_mono _, eqv_mono _, eqv_mono _, eqv_mono _, eqv_mono _, eqv_mono _, eqv_mono _, trivial⟩) rfl rfl (by simp) ?_ ?_
          · refine ⟨?_, ?_, ?_, ?_, ?_, ?_, ?_, ?_, ?_, ?_, ?_, ?_, ?_, ?_, ?_, ?_, ?_, ?_, ?_, ?_, ?_, ?_, ?_, ?_, ?_, ?_, ?_, ?_, trivial⟩
            · intro a w' hb hdep K hK
              have c15 := hb.at 4 15 _ rfl
              clear hdep
              go_simp
              exact hK _ _ rfl (Below.refl _ _)
            · intro a w' hb hdep K hK
              obtain ⟨v0, e0, j0⟩ := hdep 0 (by kernel_rfl)
              replace e0 : a.tmps[82]? = some v0 := e0
              obtain rfl : v0 = _ := j0
              clear hdep
              go_simp
              exact hK _ _ rfl (Below.refl _ _)
            · intro a w' hb hdep K hK
              obtain ⟨v1, e1, j1⟩ := hdep 1 (by kernel_rfl)
              replace e1 : a.tmps[83]? = some v1 := e1
              obtain rfl : v1 = _ := j1
              clear hdep
              go_simp
              exact hK _ _ rfl (Below.refl _ _)
            · intro a w' hb hdep K hK
              have c13 := hb.at 2 13 _ rfl
              obtain ⟨v2, e2, j2⟩ := hdep 2 (by kernel_rfl)
              replace e2 : a.tmps[84]? = some v2 := e2
              obtain rfl : v2 = _ := j2
              clear hdep
              refine wanted_row 2 true rfl 84 rfl (by assumption) 23 _ rfl x2.heap.size (by simp [Act.eval, c13]) 23 (tl O) (0, 0) _ (heap_on hb.bel ho2) Try.underlying23 rfl (talIk hot) ?_
              exact hK _ _ rfl (Below.refl _ _)
            · intro a w' hb hdep K hK
              have c14 := hb.at 3 14 _ rfl
              obtain ⟨v2, e2, j2⟩ := hdep 2 (by kernel_rfl)
              replace e2 : a.tmps[84]? = some v2 := e2
              obtain rfl : v2 = _ := j2
              clear hdep
              refine wanted_row 2 true rfl 84 rfl (by assumption) 25 _ rfl x3.heap.size (by simp [Act.eval, c14]) 25 (lg QO) (0, 0) _ (heap_on hb.bel hl32) Try.underlying25 rfl (lngIk hlO) ?_
              exact hK _ _ rfl (Below.refl _ _)
            · intro a w' hb hdep K hK
              obtain ⟨v3, e3, j3⟩ := hdep 3 (by kernel_rfl)
              replace e3 : a.tmps[85]? = some v3 := e3
              obtain rfl : v3 = _ := j3
              obtain ⟨v4, e4, j4⟩ := hdep 4 (by kernel_rfl)
              replace e4 : a.tmps[86]? = some v4 := e4
              obtain rfl : v4 = _ := j4
              obtain ⟨v2, e2, j2⟩ := hdep 2 (by kernel_rfl)
              replace e2 : a.tmps[84]? = some v2 := e2
              obtain rfl : v2 = _ := j2
              clear hdep
              go_simp
              go_at_call 13
              refine (HTO.out w').mono ?_
              rintro e w20 ⟨rfl, hb20⟩
              exact hK _ _ rfl hb20
            · intro a w' hb hdep K hK
              have c5 := hb.at 0 5 _ rfl
              obtain ⟨v2, e2, j2⟩ := hdep 2 (by kernel_rfl)
              replace e2 : a.tmps[84]? = some v2 := e2
              obtain rfl : v2 = _ := j2
              clear hdep
              refine wanted_row 2 true rfl 84 rfl (by assumption) 23 _ rfl w.heap.size (by simp [Act.eval, c5]) 23 (tl t) (0, 0) _ (heap_on hb.bel hg2) Try.underlying23 rfl (talIk ht) ?_
              exact hK _ _ rfl (Below.refl _ _)
            · intro a w' hb hdep K hK
              have c11 := hb.at 1 11 _ rfl
              obtain ⟨v2, e2, j2⟩ := hdep 2 (by kernel_rfl)
              replace e2 : a.tmps[84]? = some v2 := e2
              obtain rfl : v2 = _ := j2
              clear hdep
              refine wanted_row 2 true rfl 84 rfl (by assumption) 25 _ rfl x1.heap.size (by simp [Act.eval, c11]) 25 (lg QT) (0, 0) _ (heap_on hb.bel hl12) Try.underlying25 rfl (lngIk hlT) ?_
              exact hK _ _ rfl (Below.refl _ _)
            · intro a w' hb hdep K hK
              obtain ⟨v6, e6, j6⟩ := hdep 6 (by kernel_rfl)
              replace e6 : a.tmps[88]? = some v6 := e6
              obtain rfl : v6 = _ := j6
              obtain ⟨v7, e7, j7⟩ := hdep 7 (by kernel_rfl)
              replace e7 : a.tmps[89]? = some v7 := e7
              obtain rfl : v7 = _ := j7
              obtain ⟨v2, e2, j2⟩ := hdep 2 (by kernel_rfl)
              replace e2 : a.tmps[84]? = some v2 := e2
              obtain rfl : v2 = _ := j2
              clear hdep
              go_simp
              go_at_call 13
              refine (HTT.out w').mono ?_
              rintro e w20 ⟨rfl, hb20⟩
              exact hK _ _ rfl hb20
            · intro a w' hb hdep K hK
              obtain ⟨v5, e5, j5⟩ := hdep 5 (by kernel_rfl)
              replace e5 : a.tmps[87]? = some v5 := e5
              obtain rfl : v5 = _ := j5
              obtain ⟨v8, e8, j8⟩ := hdep 8 (by kernel_rfl)
              replace e8 : a.tmps[90]? = some v8 := e8
              obtain rfl : v8 = _ := j8
              obtain ⟨v2, e2, j2⟩ := hdep 2 (by kernel_rfl)
              replace e2 : a.tmps[84]? = some v2 := e2
              obtain rfl : v2 = _ := j2
              have hqq := hOT
              clear hdep
              go_simp
              exact hK _ _ rfl (Below.refl _ _)
            · intro a w' hb hdep K hK
              obtain ⟨v2, e2, j2⟩ := hdep 2 (by kernel_rfl)
              replace e2 : a.tmps[84]? = some v2 := e2
              obtain rfl : v2 = _ := j2
              obtain ⟨v9, e9, j9⟩ := hdep 9 (by kernel_rfl)
              replace e9 : a.tmps[91]? = some v9 := e9
              obtain rfl : v9 = _ := j9
              clear hdep
              go_simp
              exact hK _ _ rfl (Below.refl _ _)
            · intro a w' hb hdep K hK
              obtain ⟨v10, e10, j10⟩ := hdep 10 (by kernel_rfl)
              replace e10 : a.tmps[92]? = some v10 := e10
              obtain rfl : v10 = _ := j10
              clear hdep
              go_simp
              exact hK _ _ rfl (Below.refl _ _)
            · intro a w' hb hdep K hK
              have c18 := hb.at 7 18 _ rfl
              obtain ⟨v11, e11, j11⟩ := hdep 11 (by kernel_rfl)
              replace e11 : a.tmps[93]? = some v11 := e11
              obtain rfl : v11 = _ := j11
              clear hdep
              go_simp
              exact hK _ _ rfl (Below.refl _ _)
            · intro a w' hb hdep K hK
              obtain ⟨v12, e12, j12⟩ := hdep 12 (by kernel_rfl)
              replace e12 : a.tmps[94]? = some v12 := e12
              obtain rfl : v12 = _ := j12
              obtain ⟨v11, e11, j11⟩ := hdep 11 (by kernel_rfl)
              replace e11 : a.tmps[93]? = some v11 := e11
              obtain rfl : v11 = _ := j11
              clear hdep
              go_simp
              exact hK _ _ rfl (Below.refl _ _)
            · intro a w' hb hdep K hK
              obtain ⟨v13, e13, j13⟩ := hdep 13 (by kernel_rfl)
              replace e13 : a.tmps[95]? = some v13 := e13
              obtain rfl : v13 = _ := j13
              obtain ⟨v11, e11, j11⟩ := hdep 11 (by kernel_rfl)
              replace e11 : a.tmps[93]? = some v11 := e11
              obtain rfl : v11 = _ := j11
              clear hdep
              go_simp
              exact hK _ _ rfl (Below.refl _ _)
            · intro a w' hb hdep K hK
              have c16 := hb.at 5 16 _ rfl
              obtain ⟨v14, e14, j14⟩ := hdep 14 (by kernel_rfl)
              replace e14 : a.tmps[96]? = some v14 := e14
              obtain rfl : v14 = _ := j14
              clear hdep
              go_simp
              exact hK _ _ rfl (Below.refl _ _)
            · intro a w' hb hdep K hK
              have c17 := hb.at 6 17 _ rfl
              obtain ⟨v14, e14, j14⟩ := hdep 14 (by kernel_rfl)
              replace e14 : a.tmps[96]? = some v14 := e14
              obtain rfl : v14 = _ := j14
              clear hdep
              go_simp
              exact hK _ _ rfl (Below.refl _ _)
            · intro a w' hb hdep K hK
              obtain ⟨v15, e15, j15⟩ := hdep 15 (by kernel_rfl)
              replace e15 : a.tmps[97]? = some v15 := e15
              obtain rfl : v15 = _ := j15
              obtain ⟨v16, e16, j16⟩ := hdep 16 (by kernel_rfl)
              replace e16 : a.tmps[98]? = some v16 := e16
              obtain rfl : v16 = _ := j16
              obtain ⟨v14, e14, j14⟩ := hdep 14 (by kernel_rfl)
              replace e14 : a.tmps[96]? = some v14 := e14
              obtain rfl : v14 = _ := j14
              clear hdep
              go_simp
              exact hK _ _ rfl (Below.refl _ _)
            · intro a w' hb hdep K hK
              have c5 := hb.at 0 5 _ rfl
              obtain ⟨v14, e14, j14⟩ := hdep 14 (by kernel_rfl)
              replace e14 : a.tmps[96]? = some v14 := e14
              obtain rfl : v14 = _ := j14
              clear hdep
              go_simp
              exact hK _ _ rfl (Below.refl _ _)
            · intro a w' hb hdep K hK
              have c11 := hb.at 1 11 _ rfl
              obtain ⟨v14, e14, j14⟩ := hdep 14 (by kernel_rfl)
              replace e14 : a.tmps[96]? = some v14 := e14
              obtain rfl : v14 = _ := j14
              clear hdep
              go_simp
              exact hK _ _ rfl (Below.refl _ _)
            · intro a w' hb hdep K hK
              obtain ⟨v18, e18, j18⟩ := hdep 18 (by kernel_rfl)
              replace e18 : a.tmps[100]? = some v18 := e18
              obtain rfl : v18 = _ := j18
              obtain ⟨v19, e19, j19⟩ := hdep 19 (by kernel_rfl)
              replace e19 : a.tmps[101]? = some v19 := e19
              obtain rfl : v19 = _ := j19
              obtain ⟨v14, e14, j14⟩ := hdep 14 (by kernel_rfl)
              replace e14 : a.tmps[96]? = some v14 := e14
              obtain rfl : v14 = _ := j14
              clear hdep
              go_simp
              exact hK _ _ rfl (Below.refl _ _)
            · intro a w' hb hdep K hK
              obtain ⟨v17, e17, j17⟩ := hdep 17 (by kernel_rfl)
              replace e17 : a.tmps[99]? = some v17 := e17
              obtain rfl : v17 = _ := j17
              obtain ⟨v20, e20, j20⟩ := hdep 20 (by kernel_rfl)
              replace e20 : a.tmps[102]? = some v20 := e20
              obtain rfl : v20 = _ := j20
              obtain ⟨v14, e14, j14⟩ := hdep 14 (by kernel_rfl)
              replace e14 : a.tmps[96]? = some v14 := e14
              obtain rfl : v14 = _ := j14
              clear hdep
              go_simp
              exact hK _ _ rfl (Below.refl _ _)
            · intro a w' hb hdep K hK
              obtain ⟨v14, e14, j14⟩ := hdep 14 (by kernel_rfl)
              replace e14 : a.tmps[96]? = some v14 := e14
              obtain rfl : v14 = _ := j14
              obtain ⟨v21, e21, j21⟩ := hdep 21 (by kernel_rfl)
              replace e21 : a.tmps[103]? = some v21 := e21
              obtain rfl : v21 = _ := j21
              obtain ⟨v11, e11, j11⟩ := hdep 11 (by kernel_rfl)
              replace e11 : a.tmps[93]? = some v11 := e11
              obtain rfl : v11 = _ := j11
              clear hdep
              go_simp
              exact hK _ _ rfl (Below.refl _ _)
            · intro a w' hb hdep K hK
              obtain ⟨v11, e11, j11⟩ := hdep 11 (by kernel_rfl)
              replace e11 : a.tmps[93]? = some v11 := e11
              obtain rfl : v11 = _ := j11
              obtain ⟨v22, e22, j22⟩ := hdep 22 (by kernel_rfl)
              replace e22 : a.tmps[104]? = some v22 := e22
              obtain rfl : v22 = _ := j22
              clear hdep
              go_simp
              exact hK _ _ rfl (Below.refl _ _)
            · intro a w' hb hdep K hK
              obtain ⟨v23, e23, j23⟩ := hdep 23 (by kernel_rfl)
              replace e23 : a.tmps[105]? = some v23 := e23
              obtain rfl : v23 = _ := j23
              clear hdep
              go_simp
              exact hK _ _ rfl (Below.refl _ _)
            · intro a w' hb hdep K hK
              obtain ⟨v24, e24, j24⟩ := hdep 24 (by kernel_rfl)
              replace e24 : a.tmps[106]? = some v24 := e24
              obtain rfl : v24 = _ := j24
              clear hdep
              go_simp
              go_at_call 17
              refine (wakes_call w').mono ?_
              rintro e w20 ⟨rfl, hb20⟩
              exact hK _ _ rfl hb20
            · intro a w' hb hdep K hK
              obtain ⟨v24, e24, j24⟩ := hdep 24 (by kernel_rfl)
              replace e24 : a.tmps[106]? = some v24 := e24
              obtain rfl : v24 = _ := j24
              obtain ⟨v25, e25, j25⟩ := hdep 25 (by kernel_rfl)
              replace e25 : a.tmps[107]? = some v25 := e25
              obtain rfl : v25 = _ := j25
              clear hdep
              go_simp
              exact hK _ _ rfl (Below.refl _ _)
            · intro a w' hb hdep K hK
              obtain ⟨v26, e26, j26⟩ := hdep 26 (by kernel_rfl)
              replace e26 : a.tmps[108]? = some v26 := e26
              obtain rfl : v26 = _ := j26
              clear hdep
              go_simp
              exact hK _ _ rfl (Below.refl _ _)
          · intro vs w' hvl hall hb
            match vs, hvl with
            | [v0, v1, v2, v3, v4, v5, v6, v7, v8, v9, v10, v11, v12, v13, v14, v15, v16, v17, v18, v19, v20, v21, v22, v23, v24, v25, v26, v27], _ =>
              obtain rfl : v0 = _ := hall 0 (by decide)
              obtain rfl : v1 = _ := hall 1 (by decide)
              obtain rfl : v2 = _ := hall 2 (by decide)
              obtain rfl : v3 = _ := hall 3 (by decide)
              obtain rfl : v4 = _ := hall 4 (by decide)
              obtain rfl : v5 = _ := hall 5 (by decide)
              obtain rfl : v6 = _ := hall 6 (by decide)
              obtain rfl : v7 = _ := hall 7 (by decide)
              obtain rfl : v8 = _ := hall 8 (by decide)
              obtain rfl : v9 = _ := hall 9 (by decide)
              obtain rfl : v10 = _ := hall 10 (by decide)
              obtain rfl : v11 = _ := hall 11 (by decide)
              obtain rfl : v12 = _ := hall 12 (by decide)
              obtain rfl : v13 = _ := hall 13 (by decide)
              obtain rfl : v14 = _ := hall 14 (by decide)
              obtain rfl : v15 = _ := hall 15 (by decide)
              obtain rfl : v16 = _ := hall 16 (by decide)
              obtain rfl : v17 = _ := hall 17 (by decide)
              obtain rfl : v18 = _ := hall 18 (by decide)
              obtain rfl : v19 = _ := hall 19 (by decide)
              obtain rfl : v20 = _ := hall 20 (by decide)
              obtain rfl : v21 = _ := hall 21 (by decide)
              obtain rfl : v22 = _ := hall 22 (by decide)
              obtain rfl : v23 = _ := hall 23 (by decide)
              obtain rfl : v24 = _ := hall 24 (by decide)
              obtain rfl : v25 = _ := hall 25 (by decide)
              obtain rfl : v26 = _ := hall 26 (by decide)
              obtain rfl : v27 = _ := hall 27 (by decide)
              simp only [putAll, List.setIfInBounds_toArray, List.set_cons_zero, List.set_cons_succ]
              go_wp2
              go_ret
              exact ⟨rfl, HB2.out.trans (hb.mono HB2.out.size)⟩
      · have hxx : (X == 0) = false := by simpa using hX0
        have hMe : M = t := by rw [HM.out, if_neg (by rw [← HX.out]; exact hX0)]
        have hmM : y4.heap[x4.heap.size]? = some (.cells (tl M) 23 (0, 0)) := by rw [hMe]; exact hm
        clear hMe hm
        go_upto_region 12 with fail
        go_upto_region 13 with (first
          | (refine wpList_load_row rfl 23 _ rfl x4.heap.size rfl 23 (tl M) (0, 0) _ hmM Try.underlying23 rfl (talIk hmt) ?_)
          | (with_reducible refine (hkM _).mono ?_
             rintro e x6 ⟨rfl, hb⟩
             replace HBL := Lib.hid (HBL.out.trans (hb.mono HBL.out.size))
             replace hg := heap_on hb hg
             replace hl1 := heap_on hb hl1
             replace ho := heap_on hb ho
             replace hl3 := heap_on hb hl3
             replace hmM := heap_on hb hmM
             clear hb hkM)
          | (refine wpList_store_row rfl 25 _ _ rfl x6.heap.size (lg QM) rfl rfl 25 (lg zL) (heap_alloc_last x6 _) (lngIk hlM) (by rw [lg_size zL_lng, lg_size hlM]) (lg_all _) ?_))
        rw [World.setRow_alloc_new]
        have hbq := below_al x6 (.cells (lg QM) 25)
        have hl6 := heap_alloc_last x6 (.cells (lg QM) 25)
        replace HBL := Lib.hid (HBL.out.trans (hbq.mono HBL.out.size))
        replace hg := heap_on hbq hg
        replace hl1 := heap_on hbq hl1
        replace ho := heap_on hbq ho
        replace hl3 := heap_on hbq hl3
        replace hmM := heap_on hbq hmM
        generalize x6.alloc (.cells (lg QM) 25) = y6 at hbq hl6 HBL hg hl1 ho hl3 hmM ⊢
        clear hbq hwk
        by_cases hEM : EM = 0
        · subst hEM
          have hTM := HMM.out rfl
          refine wp_region_frame (J := Js [eqv (.int .i64 0), eqv (.bool true), eqv (.bool true), eqv (.agg (tl O)), eqv (.agg (lg QO)), eqv (.int .i64 TO), eqv (.agg (tl t)), eqv (.agg (lg QT)), eqv (.int .i64 TT), eqv (.bool true), eqv (.bool true), eqv (.bool true), eqv (.int .i64 0), eqv (.bool false), eqv (.bool false), eqv (.agg (tl M)), eqv (.agg (lg QM)), eqv (.int .i64 TM), eqv (.agg (tl t)), eqv (.agg (lg QT)), eqv (.int .i64 TT), eqv (.bool true), eqv (.bool true), eqv (.bool true), eqv (.bool true), eqv (.bool true), eqv (.bool true), eqv (.bool true)]) (ds := [82, 83, 84, 85, 86, 87, 88, 89, 90, 91, 92, 93, 94, 95, 96, 97, 98, 99, 100, 101, 102, 103, 104, 105, 106, 107, 108, 10]) (N := 109)
            (B := [(5, .pointer (some ⟨w.heap.size, 0, none⟩)), (11, .pointer (some ⟨x1.heap.size, 0, none⟩)), (13, .pointer (some ⟨x2.heap.size, 0, none⟩)), (14, .pointer (some ⟨x3.heap.size, 0, none⟩)), (15, .int .i64 0), (16, .pointer (some ⟨x4.heap.size, 0, none⟩)), (17, .pointer (some ⟨x6.heap.size, 0, none⟩)), (18, .int .i64 0)]) (by kernel_rfl) (by kernel_rfl) (Js_mono ⟨eqv_mono _, eqv_mono _, eqv_mono _, eqv_mono _, eqv_mono _, eqv_mono _, eqv_mono _, eqv_mono _, eqv_mono _, eqv_mono _, eqv_mono _, eqv_mono _, eqv_mono _, eqv_mono _, eqv_mono _, eqv_mono _, eqv_mono _, eqv_mono _, eqv_mono _, eqv_mono _, eqv_mono _, eqv_mono _, eqv_mono _, eqv_mono _, eqv_mono _, eqv_mono _, eqv_mono _, eqv_mono _, trivial⟩) rfl rfl (by simp) ?_ ?_
          · refine ⟨?_, ?_, ?_, ?_, ?_, ?_, ?_, ?_, ?_, ?_, ?_, ?_, ?_, ?_, ?_, ?_, ?_, ?_, ?_, ?_, ?_, ?_, ?_, ?_, ?_, ?_, ?_, ?_, trivial⟩
            · intro a w' hb hdep K hK
              have c15 := hb.at 4 15 _ rfl
              clear hdep
              go_simp
              exact hK _ _ rfl (Below.refl _ _)
            · intro a w' hb hdep K hK
              obtain ⟨v0, e0, j0⟩ := hdep 0 (by kernel_rfl)
              replace e0 : a.tmps[82]? = some v0 := e0
              obtain rfl : v0 = _ := j0
              clear hdep
              go_simp
              exact hK _ _ rfl (Below.refl _ _)
            · intro a w' hb hdep K hK
              obtain ⟨v1, e1, j1⟩ := hdep 1 (by kernel_rfl)
              replace e1 : a.tmps[83]? = some v1 := e1
              obtain rfl : v1 = _ := j1
              clear hdep
              go_simp
              exact hK _ _ rfl (Below.refl _ _)
            · intro a w' hb hdep K hK
              have c13 := hb.at 2 13 _ rfl
              obtain ⟨v2, e2, j2⟩ := hdep 2 (by kernel_rfl)
              replace e2 : a.tmps[84]? = some v2 := e2
              obtain rfl : v2 = _ := j2
              clear hdep
              refine wanted_row 2 true rfl 84 rfl (by assumption) 23 _ rfl x2.heap.size (by simp [Act.eval, c13]) 23 (tl O) (0, 0) _ (heap_on hb.bel ho) Try.underlying23 rfl (talIk hot) ?_
              exact hK _ _ rfl (Below.refl _ _)
            · intro a w' hb hdep K hK
              have c14 := hb.at 3 14 _ rfl
              obtain ⟨v2, e2, j2⟩ := hdep 2 (by kernel_rfl)
              replace e2 : a.tmps[84]? = some v2 := e2
              obtain rfl : v2 = _ := j2
              clear hdep
              refine wanted_row 2 true rfl 84 rfl (by assumption) 25 _ rfl x3.heap.size (by simp [Act.eval, c14]) 25 (lg QO) (0, 0) _ (heap_on hb.bel hl3) Try.underlying25 rfl (lngIk hlO) ?_
              exact hK _ _ rfl (Below.refl _ _)
            · intro a w' hb hdep K hK
              obtain ⟨v3, e3, j3⟩ := hdep 3 (by kernel_rfl)
              replace e3 : a.tmps[85]? = some v3 := e3
              obtain rfl : v3 = _ := j3
              obtain ⟨v4, e4, j4⟩ := hdep 4 (by kernel_rfl)
              replace e4 : a.tmps[86]? = some v4 := e4
              obtain rfl : v4 = _ := j4
              obtain ⟨v2, e2, j2⟩ := hdep 2 (by kernel_rfl)
              replace e2 : a.tmps[84]? = some v2 := e2
              obtain rfl : v2 = _ := j2
              clear hdep
              go_simp
              go_at_call 13
              refine (HTO.out w').mono ?_
              rintro e w20 ⟨rfl, hb20⟩
              exact hK _ _ rfl hb20
            · intro a w' hb hdep K hK
              have c5 := hb.at 0 5 _ rfl
              obtain ⟨v2, e2, j2⟩ := hdep 2 (by kernel_rfl)
              replace e2 : a.tmps[84]? = some v2 := e2
              obtain rfl : v2 = _ := j2
              clear hdep
              refine wanted_row 2 true rfl 84 rfl (by assumption) 23 _ rfl w.heap.size (by simp [Act.eval, c5]) 23 (tl t) (0, 0) _ (heap_on hb.bel hg) Try.underlying23 rfl (talIk ht) ?_
              exact hK _ _ rfl (Below.refl _ _)
            · intro a w' hb hdep K hK
              have c11 := hb.at 1 11 _ rfl
              obtain ⟨v2, e2, j2⟩ := hdep 2 (by kernel_rfl)
              replace e2 : a.tmps[84]? = some v2 := e2
              obtain rfl : v2 = _ := j2
              clear hdep
              refine wanted_row 2 true rfl 84 rfl (by assumption) 25 _ rfl x1.heap.size (by simp [Act.eval, c11]) 25 (lg QT) (0, 0) _ (heap_on hb.bel hl1) Try.underlying25 rfl (lngIk hlT) ?_
              exact hK _ _ rfl (Below.refl _ _)
            · intro a w' hb hdep K hK
              obtain ⟨v6, e6, j6⟩ := hdep 6 (by kernel_rfl)
              replace e6 : a.tmps[88]? = some v6 := e6
              obtain rfl : v6 = _ := j6
              obtain ⟨v7, e7, j7⟩ := hdep 7 (by kernel_rfl)
              replace e7 : a.tmps[89]? = some v7 := e7
              obtain rfl : v7 = _ := j7
              obtain ⟨v2, e2, j2⟩ := hdep 2 (by kernel_rfl)
              replace e2 : a.tmps[84]? = some v2 := e2
              obtain rfl : v2 = _ := j2
              clear hdep
              go_simp
              go_at_call 13
              refine (HTT.out w').mono ?_
              rintro e w20 ⟨rfl, hb20⟩
              exact hK _ _ rfl hb20
            · intro a w' hb hdep K hK
              obtain ⟨v5, e5, j5⟩ := hdep 5 (by kernel_rfl)
              replace e5 : a.tmps[87]? = some v5 := e5
              obtain rfl : v5 = _ := j5
              obtain ⟨v8, e8, j8⟩ := hdep 8 (by kernel_rfl)
              replace e8 : a.tmps[90]? = some v8 := e8
              obtain rfl : v8 = _ := j8
              obtain ⟨v2, e2, j2⟩ := hdep 2 (by kernel_rfl)
              replace e2 : a.tmps[84]? = some v2 := e2
              obtain rfl : v2 = _ := j2
              have hqq := hOT
              clear hdep
              go_simp
              exact hK _ _ rfl (Below.refl _ _)
            · intro a w' hb hdep K hK
              obtain ⟨v2, e2, j2⟩ := hdep 2 (by kernel_rfl)
              replace e2 : a.tmps[84]? = some v2 := e2
              obtain rfl : v2 = _ := j2
              obtain ⟨v9, e9, j9⟩ := hdep 9 (by kernel_rfl)
              replace e9 : a.tmps[91]? = some v9 := e9
              obtain rfl : v9 = _ := j9
              clear hdep
              go_simp
              exact hK _ _ rfl (Below.refl _ _)
            · intro a w' hb hdep K hK
              obtain ⟨v10, e10, j10⟩ := hdep 10 (by kernel_rfl)
              replace e10 : a.tmps[92]? = some v10 := e10
              obtain rfl : v10 = _ := j10
              clear hdep
              go_simp
              exact hK _ _ rfl (Below.refl _ _)
            · intro a w' hb hdep K hK
              have c18 := hb.at 7 18 _ rfl
              obtain ⟨v11, e11, j11⟩ := hdep 11 (by kernel_rfl)
              replace e11 : a.tmps[93]? = some v11 := e11
              obtain rfl : v11 = _ := j11
              clear hdep
              go_simp
              exact hK _ _ rfl (Below.refl _ _)
            · intro a w' hb hdep K hK
              obtain ⟨v12, e12, j12⟩ := hdep 12 (by kernel_rfl)
              replace e12 : a.tmps[94]? = some v12 := e12
              obtain rfl : v12 = _ := j12
              obtain ⟨v11, e11, j11⟩ := hdep 11 (by kernel_rfl)
              replace e11 : a.tmps[93]? = some v11 := e11
              obtain rfl : v11 = _ := j11
              clear hdep
              go_simp
              exact hK _ _ rfl (Below.refl _ _)
            · intro a w' hb hdep K hK
              obtain ⟨v13, e13, j13⟩ := hdep 13 (by kernel_rfl)
              replace e13 : a.tmps[95]? = some v13 := e13
              obtain rfl : v13 = _ := j13
              obtain ⟨v11, e11, j11⟩ := hdep 11 (by kernel_rfl)
              replace e11 : a.tmps[93]? = some v11 := e11
              obtain rfl : v11 = _ := j11
              clear hdep
              go_simp
              exact hK _ _ rfl (Below.refl _ _)
            · intro a w' hb hdep K hK
              have c16 := hb.at 5 16 _ rfl
              obtain ⟨v14, e14, j14⟩ := hdep 14 (by kernel_rfl)
              replace e14 : a.tmps[96]? = some v14 := e14
              obtain rfl : v14 = _ := j14
              clear hdep
              refine wanted_row 14 false rfl 96 rfl (by assumption) 23 _ rfl x4.heap.size (by simp [Act.eval, c16]) 23 (tl M) (0, 0) _ (heap_on hb.bel hmM) Try.underlying23 rfl (talIk hmt) ?_
              exact hK _ _ rfl (Below.refl _ _)
            · intro a w' hb hdep K hK
              have c17 := hb.at 6 17 _ rfl
              obtain ⟨v14, e14, j14⟩ := hdep 14 (by kernel_rfl)
              replace e14 : a.tmps[96]? = some v14 := e14
              obtain rfl : v14 = _ := j14
              clear hdep
              refine wanted_row 14 false rfl 96 rfl (by assumption) 25 _ rfl x6.heap.size (by simp [Act.eval, c17]) 25 (lg QM) (0, 0) _ (heap_on hb.bel hl6) Try.underlying25 rfl (lngIk hlM) ?_
              exact hK _ _ rfl (Below.refl _ _)
            · intro a w' hb hdep K hK
              obtain ⟨v15, e15, j15⟩ := hdep 15 (by kernel_rfl)
              replace e15 : a.tmps[97]? = some v15 := e15
              obtain rfl : v15 = _ := j15
              obtain ⟨v16, e16, j16⟩ := hdep 16 (by kernel_rfl)
              replace e16 : a.tmps[98]? = some v16 := e16
              obtain rfl : v16 = _ := j16
              obtain ⟨v14, e14, j14⟩ := hdep 14 (by kernel_rfl)
              replace e14 : a.tmps[96]? = some v14 := e14
              obtain rfl : v14 = _ := j14
              clear hdep
              go_simp
              go_at_call 13
              refine (HTM.out w').mono ?_
              rintro e w20 ⟨rfl, hb20⟩
              exact hK _ _ rfl hb20
            · intro a w' hb hdep K hK
              have c5 := hb.at 0 5 _ rfl
              obtain ⟨v14, e14, j14⟩ := hdep 14 (by kernel_rfl)
              replace e14 : a.tmps[96]? = some v14 := e14
              obtain rfl : v14 = _ := j14
              clear hdep
              refine wanted_row 14 false rfl 96 rfl (by assumption) 23 _ rfl w.heap.size (by simp [Act.eval, c5]) 23 (tl t) (0, 0) _ (heap_on hb.bel hg) Try.underlying23 rfl (talIk ht) ?_
              exact hK _ _ rfl (Below.refl _ _)
            · intro a w' hb hdep K hK
              have c11 := hb.at 1 11 _ rfl
              obtain ⟨v14, e14, j14⟩ := hdep 14 (by kernel_rfl)
              replace e14 : a.tmps[96]? = some v14 := e14
              obtain rfl : v14 = _ := j14
              clear hdep
              refine wanted_row 14 false rfl 96 rfl (by assumption) 25 _ rfl x1.heap.size (by simp [Act.eval, c11]) 25 (lg QT) (0, 0) _ (heap_on hb.bel hl1) Try.underlying25 rfl (lngIk hlT) ?_
              exact hK _ _ rfl (Below.refl _ _)
            · intro a w' hb hdep K hK
              obtain ⟨v18, e18, j18⟩ := hdep 18 (by kernel_rfl)
              replace e18 : a.tmps[100]? = some v18 := e18
              obtain rfl : v18 = _ := j18
              obtain ⟨v19, e19, j19⟩ := hdep 19 (by kernel_rfl)
              replace e19 : a.tmps[101]? = some v19 := e19
              obtain rfl : v19 = _ := j19
              obtain ⟨v14, e14, j14⟩ := hdep 14 (by kernel_rfl)
              replace e14 : a.tmps[96]? = some v14 := e14
              obtain rfl : v14 = _ := j14
              clear hdep
              go_simp
              go_at_call 13
              refine (HTT.out w').mono ?_
              rintro e w20 ⟨rfl, hb20⟩
              exact hK _ _ rfl hb20
            · intro a w' hb hdep K hK
              obtain ⟨v17, e17, j17⟩ := hdep 17 (by kernel_rfl)
              replace e17 : a.tmps[99]? = some v17 := e17
              obtain rfl : v17 = _ := j17
              obtain ⟨v20, e20, j20⟩ := hdep 20 (by kernel_rfl)
              replace e20 : a.tmps[102]? = some v20 := e20
              obtain rfl : v20 = _ := j20
              obtain ⟨v14, e14, j14⟩ := hdep 14 (by kernel_rfl)
              replace e14 : a.tmps[96]? = some v14 := e14
              obtain rfl : v14 = _ := j14
              clear hdep
              go_simp
              exact hK _ _ rfl (Below.refl _ _)
            · intro a w' hb hdep K hK
              obtain ⟨v14, e14, j14⟩ := hdep 14 (by kernel_rfl)
              replace e14 : a.tmps[96]? = some v14 := e14
              obtain rfl : v14 = _ := j14
              obtain ⟨v21, e21, j21⟩ := hdep 21 (by kernel_rfl)
              replace e21 : a.tmps[103]? = some v21 := e21
              obtain rfl : v21 = _ := j21
              obtain ⟨v11, e11, j11⟩ := hdep 11 (by kernel_rfl)
              replace e11 : a.tmps[93]? = some v11 := e11
              obtain rfl : v11 = _ := j11
              clear hdep
              go_simp
              exact hK _ _ rfl (Below.refl _ _)
            · intro a w' hb hdep K hK
              obtain ⟨v11, e11, j11⟩ := hdep 11 (by kernel_rfl)
              replace e11 : a.tmps[93]? = some v11 := e11
              obtain rfl : v11 = _ := j11
              obtain ⟨v22, e22, j22⟩ := hdep 22 (by kernel_rfl)
              replace e22 : a.tmps[104]? = some v22 := e22
              obtain rfl : v22 = _ := j22
              clear hdep
              go_simp
              exact hK _ _ rfl (Below.refl _ _)
            · intro a w' hb hdep K hK
              obtain ⟨v23, e23, j23⟩ := hdep 23 (by kernel_rfl)
              replace e23 : a.tmps[105]? = some v23 := e23
              obtain rfl : v23 = _ := j23
              clear hdep
              go_simp
              exact hK _ _ rfl (Below.refl _ _)
            · intro a w' hb hdep K hK
              obtain ⟨v24, e24, j24⟩ := hdep 24 (by kernel_rfl)
              replace e24 : a.tmps[106]? = some v24 := e24
              obtain rfl : v24 = _ := j24
              clear hdep
              go_simp
              go_at_call 17
              refine (wakes_call w').mono ?_
              rintro e w20 ⟨rfl, hb20⟩
              exact hK _ _ rfl hb20
            · intro a w' hb hdep K hK
              obtain ⟨v24, e24, j24⟩ := hdep 24 (by kernel_rfl)
              replace e24 : a.tmps[106]? = some v24 := e24
              obtain rfl : v24 = _ := j24
              obtain ⟨v25, e25, j25⟩ := hdep 25 (by kernel_rfl)
              replace e25 : a.tmps[107]? = some v25 := e25
              obtain rfl : v25 = _ := j25
              clear hdep
              go_simp
              exact hK _ _ rfl (Below.refl _ _)
            · intro a w' hb hdep K hK
              obtain ⟨v26, e26, j26⟩ := hdep 26 (by kernel_rfl)
              replace e26 : a.tmps[108]? = some v26 := e26
              obtain rfl : v26 = _ := j26
              clear hdep
              go_simp
              exact hK _ _ rfl (Below.refl _ _)
          · intro vs w' hvl hall hb
            match vs, hvl with
            | [v0, v1, v2, v3, v4, v5, v6, v7, v8, v9, v10, v11, v12, v13, v14, v15, v16, v17, v18, v19, v20, v21, v22, v23, v24, v25, v26, v27], _ =>
              obtain rfl : v0 = _ := hall 0 (by decide)
              obtain rfl : v1 = _ := hall 1 (by decide)
              obtain rfl : v2 = _ := hall 2 (by decide)
              obtain rfl : v3 = _ := hall 3 (by decide)
              obtain rfl : v4 = _ := hall 4 (by decide)
              obtain rfl : v5 = _ := hall 5 (by decide)
              obtain rfl : v6 = _ := hall 6 (by decide)
              obtain rfl : v7 = _ := hall 7 (by decide)
              obtain rfl : v8 = _ := hall 8 (by decide)
              obtain rfl : v9 = _ := hall 9 (by decide)
              obtain rfl : v10 = _ := hall 10 (by decide)
              obtain rfl : v11 = _ := hall 11 (by decide)
              obtain rfl : v12 = _ := hall 12 (by decide)
              obtain rfl : v13 = _ := hall 13 (by decide)
              obtain rfl : v14 = _ := hall 14 (by decide)
              obtain rfl : v15 = _ := hall 15 (by decide)
              obtain rfl : v16 = _ := hall 16 (by decide)
              obtain rfl : v17 = _ := hall 17 (by decide)
              obtain rfl : v18 = _ := hall 18 (by decide)
              obtain rfl : v19 = _ := hall 19 (by decide)
              obtain rfl : v20 = _ := hall 20 (by decide)
              obtain rfl : v21 = _ := hall 21 (by decide)
              obtain rfl : v22 = _ := hall 22 (by decide)
              obtain rfl : v23 = _ := hall 23 (by decide)
              obtain rfl : v24 = _ := hall 24 (by decide)
              obtain rfl : v25 = _ := hall 25 (by decide)
              obtain rfl : v26 = _ := hall 26 (by decide)
              obtain rfl : v27 = _ := hall 27 (by decide)
              simp only [putAll, List.setIfInBounds_toArray, List.set_cons_zero, List.set_cons_succ]
              go_wp2
              go_ret
              exact ⟨rfl, HBL.out.trans (hb.mono HBL.out.size)⟩
        · have hd : (EM == 0) = false := by simpa using hEM
          have hd2 : (EM != 0) = true := by simpa using hEM
          refine wp_region_frame (J := Js [eqv (.int .i64 0), eqv (.bool true), eqv (.bool true), eqv (.agg (tl O)), eqv (.agg (lg QO)), eqv (.int .i64 TO), eqv (.agg (tl t)), eqv (.agg (lg QT)), eqv (.int .i64 TT), eqv (.bool true), eqv (.bool true), eqv (.bool true), eqv (.int .i64 EM), eqv (.bool true), eqv (.bool true), eqv undef, eqv undef, eqv undef, eqv undef, eqv undef, eqv undef, eqv undef, eqv (.bool true), eqv (.bool true), eqv (.bool true), eqv (.bool true), eqv (.bool true), eqv (.bool true)]) (ds := [82, 83, 84, 85, 86, 87, 88, 89, 90, 91, 92, 93, 94, 95, 96, 97, 98, 99, 100, 101, 102, 103, 104, 105, 106, 107, 108, 10]) (N := 109)
            (B := [(5, .pointer (some ⟨w.heap.size, 0, none⟩)), (11, .pointer (some ⟨x1.heap.size, 0, none⟩)), (13, .pointer (some ⟨x2.heap.size, 0, none⟩)), (14, .pointer (some ⟨x3.heap.size, 0, none⟩)), (15, .int .i64 0), (16, .pointer (some ⟨x4.heap.size, 0, none⟩)), (17, .pointer (some ⟨x6.heap.size, 0, none⟩)), (18, .int .i64 EM)]) (by kernel_rfl) (by kernel_rfl) (Js_mono ⟨eqv_mono _, eqv_mono _, eqv_mono _, eqv_mono _, eqv_mono _, eqv_mono _, eqv_mono _, eqv_mono _, eqv_mono _, eqv_mono _, eqv_mono _, eqv_mono _, eqv_mono _, eqv_mono _, eqv_mono _, eqv_mono _, eqv_mono _, eqv_mono _, eqv_mono _, eqv_mono _, eqv_mono _, eqv_mono _, eqv_mono _, eqv_mono _, eqv_mono _, eqv_mono _, eqv_mono _, eqv_mono _, trivial⟩) rfl rfl (by simp) ?_ ?_
          · refine ⟨?_, ?_, ?_, ?_, ?_, ?_, ?_, ?_, ?_, ?_, ?_, ?_, ?_, ?_, ?_, ?_, ?_, ?_, ?_, ?_, ?_, ?_, ?_, ?_, ?_, ?_, ?_, ?_, trivial⟩
            · intro a w' hb hdep K hK
              have c15 := hb.at 4 15 _ rfl
              clear hdep
              go_simp
              exact hK _ _ rfl (Below.refl _ _)
            · intro a w' hb hdep K hK
              obtain ⟨v0, e0, j0⟩ := hdep 0 (by kernel_rfl)
              replace e0 : a.tmps[82]? = some v0 := e0
              obtain rfl : v0 = _ := j0
              clear hdep
              go_simp
              exact hK _ _ rfl (Below.refl _ _)
            · intro a w' hb hdep K hK
              obtain ⟨v1, e1, j1⟩ := hdep 1 (by kernel_rfl)
              replace e1 : a.tmps[83]? = some v1 := e1
              obtain rfl : v1 = _ := j1
              clear hdep
              go_simp
              exact hK _ _ rfl (Below.refl _ _)
            · intro a w' hb hdep K hK
              have c13 := hb.at 2 13 _ rfl
              obtain ⟨v2, e2, j2⟩ := hdep 2 (by kernel_rfl)
              replace e2 : a.tmps[84]? = some v2 := e2
              obtain rfl : v2 = _ := j2
              clear hdep
              refine wanted_row 2 true rfl 84 rfl (by assumption) 23 _ rfl x2.heap.size (by simp [Act.eval, c13]) 23 (tl O) (0, 0) _ (heap_on hb.bel ho) Try.underlying23 rfl (talIk hot) ?_
              exact hK _ _ rfl (Below.refl _ _)
            · intro a w' hb hdep K hK
              have c14 := hb.at 3 14 _ rfl
              obtain ⟨v2, e2, j2⟩ := hdep 2 (by kernel_rfl)
              replace e2 : a.tmps[84]? = some v2 := e2
              obtain rfl : v2 = _ := j2
              clear hdep
              refine wanted_row 2 true rfl 84 rfl (by assumption) 25 _ rfl x3.heap.size (by simp [Act.eval, c14]) 25 (lg QO) (0, 0) _ (heap_on hb.bel hl3) Try.underlying25 rfl (lngIk hlO) ?_
              exact hK _ _ rfl (Below.refl _ _)
            · intro a w' hb hdep K hK
              obtain ⟨v3, e3, j3⟩ := hdep 3 (by kernel_rfl)
              replace e3 : a.tmps[85]? = some v3 := e3
              obtain rfl : v3 = _ := j3
              obtain ⟨v4, e4, j4⟩ := hdep 4 (by kernel_rfl)
              replace e4 : a.tmps[86]? = some v4 := e4
              obtain rfl : v4 = _ := j4
              obtain ⟨v2, e2, j2⟩ := hdep 2 (by kernel_rfl)
              replace e2 : a.tmps[84]? = some v2 := e2
              obtain rfl : v2 = _ := j2
              clear hdep
              go_simp
              go_at_call 13
              refine (HTO.out w').mono ?_
              rintro e w20 ⟨rfl, hb20⟩
              exact hK _ _ rfl hb20
            · intro a w' hb hdep K hK
              have c5 := hb.at 0 5 _ rfl
              obtain ⟨v2, e2, j2⟩ := hdep 2 (by kernel_rfl)
              replace e2 : a.tmps[84]? = some v2 := e2
              obtain rfl : v2 = _ := j2
              clear hdep
              refine wanted_row 2 true rfl 84 rfl (by assumption) 23 _ rfl w.heap.size (by simp [Act.eval, c5]) 23 (tl t) (0, 0) _ (heap_on hb.bel hg) Try.underlying23 rfl (talIk ht) ?_
              exact hK _ _ rfl (Below.refl _ _)
            · intro a w' hb hdep K hK
              have c11 := hb.at 1 11 _ rfl
              obtain ⟨v2, e2, j2⟩ := hdep 2 (by kernel_rfl)
              replace e2 : a.tmps[84]? = some v2 := e2
              obtain rfl : v2 = _ := j2
              clear hdep
              refine wanted_row 2 true rfl 84 rfl (by assumption) 25 _ rfl x1.heap.size (by simp [Act.eval, c11]) 25 (lg QT) (0, 0) _ (heap_on hb.bel hl1) Try.underlying25 rfl (lngIk hlT) ?_
              exact hK _ _ rfl (Below.refl _ _)
            · intro a w' hb hdep K hK
              obtain ⟨v6, e6, j6⟩ := hdep 6 (by kernel_rfl)
              replace e6 : a.tmps[88]? = some v6 := e6
              obtain rfl : v6 = _ := j6
              obtain ⟨v7, e7, j7⟩ := hdep 7 (by kernel_rfl)
              replace e7 : a.tmps[89]? = some v7 := e7
              obtain rfl : v7 = _ := j7
              obtain ⟨v2, e2, j2⟩ := hdep 2 (by kernel_rfl)
              replace e2 : a.tmps[84]? = some v2 := e2
              obtain rfl : v2 = _ := j2
              clear hdep
              go_simp
              go_at_call 13
              refine (HTT.out w').mono ?_
              rintro e w20 ⟨rfl, hb20⟩
              exact hK _ _ rfl hb20
            · intro a w' hb hdep K hK
              obtain ⟨v5, e5, j5⟩ := hdep 5 (by kernel_rfl)
              replace e5 : a.tmps[87]? = some v5 := e5
              obtain rfl : v5 = _ := j5
              obtain ⟨v8, e8, j8⟩ := hdep 8 (by kernel_rfl)
              replace e8 : a.tmps[90]? = some v8 := e8
              obtain rfl : v8 = _ := j8
              obtain ⟨v2, e2, j2⟩ := hdep 2 (by kernel_rfl)
              replace e2 : a.tmps[84]? = some v2 := e2
              obtain rfl : v2 = _ := j2
              have hqq := hOT
              clear hdep
              go_simp
              exact hK _ _ rfl (Below.refl _ _)
            · intro a w' hb hdep K hK
              obtain ⟨v2, e2, j2⟩ := hdep 2 (by kernel_rfl)
              replace e2 : a.tmps[84]? = some v2 := e2
              obtain rfl : v2 = _ := j2
              obtain ⟨v9, e9, j9⟩ := hdep 9 (by kernel_rfl)
              replace e9 : a.tmps[91]? = some v9 := e9
              obtain rfl : v9 = _ := j9
              clear hdep
              go_simp
              exact hK _ _ rfl (Below.refl _ _)
            · intro a w' hb hdep K hK
              obtain ⟨v10, e10, j10⟩ := hdep 10 (by kernel_rfl)
              replace e10 : a.tmps[92]? = some v10 := e10
              obtain rfl : v10 = _ := j10
              clear hdep
              go_simp
              exact hK _ _ rfl (Below.refl _ _)
            · intro a w' hb hdep K hK
              have c18 := hb.at 7 18 _ rfl
              obtain ⟨v11, e11, j11⟩ := hdep 11 (by kernel_rfl)
              replace e11 : a.tmps[93]? = some v11 := e11
              obtain rfl : v11 = _ := j11
              clear hdep
              go_simp
              exact hK _ _ rfl (Below.refl _ _)
            · intro a w' hb hdep K hK
              obtain ⟨v12, e12, j12⟩ := hdep 12 (by kernel_rfl)
              replace e12 : a.tmps[94]? = some v12 := e12
              obtain rfl : v12 = _ := j12
              obtain ⟨v11, e11, j11⟩ := hdep 11 (by kernel_rfl)
              replace e11 : a.tmps[93]? = some v11 := e11
              obtain rfl : v11 = _ := j11
              clear hdep
              go_simp
              exact hK _ _ rfl (Below.refl _ _)
            · intro a w' hb hdep K hK
              obtain ⟨v13, e13, j13⟩ := hdep 13 (by kernel_rfl)
              replace e13 : a.tmps[95]? = some v13 := e13
              obtain rfl : v13 = _ := j13
              obtain ⟨v11, e11, j11⟩ := hdep 11 (by kernel_rfl)
              replace e11 : a.tmps[93]? = some v11 := e11
              obtain rfl : v11 = _ := j11
              clear hdep
              go_simp
              exact hK _ _ rfl (Below.refl _ _)
            · intro a w' hb hdep K hK
              have c16 := hb.at 5 16 _ rfl
              obtain ⟨v14, e14, j14⟩ := hdep 14 (by kernel_rfl)
              replace e14 : a.tmps[96]? = some v14 := e14
              obtain rfl : v14 = _ := j14
              clear hdep
              go_simp
              exact hK _ _ rfl (Below.refl _ _)
            · intro a w' hb hdep K hK
              have c17 := hb.at 6 17 _ rfl
              obtain ⟨v14, e14, j14⟩ := hdep 14 (by kernel_rfl)
              replace e14 : a.tmps[96]? = some v14 := e14
              obtain rfl : v14 = _ := j14
              clear hdep
              go_simp
              exact hK _ _ rfl (Below.refl _ _)
            · intro a w' hb hdep K hK
              obtain ⟨v15, e15, j15⟩ := hdep 15 (by kernel_rfl)
              replace e15 : a.tmps[97]? = some v15 := e15
              obtain rfl : v15 = _ := j15
              obtain ⟨v16, e16, j16⟩ := hdep 16 (by kernel_rfl)
              replace e16 : a.tmps[98]? = some v16 := e16
              obtain rfl : v16 = _ := j16
              obtain ⟨v14, e14, j14⟩ := hdep 14 (by kernel_rfl)
              replace e14 : a.tmps[96]? = some v14 := e14
              obtain rfl : v14 = _ := j14
              clear hdep
              go_simp
              exact hK _ _ rfl (Below.refl _ _)
            · intro a w' hb hdep K hK
              have c5 := hb.at 0 5 _ rfl
              obtain ⟨v14, e14, j14⟩ := hdep 14 (by kernel_rfl)
              replace e14 : a.tmps[96]? = some v14 := e14
              obtain rfl : v14 = _ := j14
              clear hdep
              go_simp
              exact hK _ _ rfl (Below.refl _ _)
            · intro a w' hb hdep K hK
              have c11 := hb.at 1 11 _ rfl
              obtain ⟨v14, e14, j14⟩ := hdep 14 (by kernel_rfl)
              replace e14 : a.tmps[96]? = some v14 := e14
              obtain rfl : v14 = _ := j14
              clear hdep
              go_simp
              exact hK _ _ rfl (Below.refl _ _)
            · intro a w' hb hdep K hK
              obtain ⟨v18, e18, j18⟩ := hdep 18 (by kernel_rfl)
              replace e18 : a.tmps[100]? = some v18 := e18
              obtain rfl : v18 = _ := j18
              obtain ⟨v19, e19, j19⟩ := hdep 19 (by kernel_rfl)
              replace e19 : a.tmps[101]? = some v19 := e19
              obtain rfl : v19 = _ := j19
              obtain ⟨v14, e14, j14⟩ := hdep 14 (by kernel_rfl)
              replace e14 : a.tmps[96]? = some v14 := e14
              obtain rfl : v14 = _ := j14
              clear hdep
              go_simp
              exact hK _ _ rfl (Below.refl _ _)
            · intro a w' hb hdep K hK
              obtain ⟨v17, e17, j17⟩ := hdep 17 (by kernel_rfl)
              replace e17 : a.tmps[99]? = some v17 := e17
              obtain rfl : v17 = _ := j17
              obtain ⟨v20, e20, j20⟩ := hdep 20 (by kernel_rfl)
              replace e20 : a.tmps[102]? = some v20 := e20
              obtain rfl : v20 = _ := j20
              obtain ⟨v14, e14, j14⟩ := hdep 14 (by kernel_rfl)
              replace e14 : a.tmps[96]? = some v14 := e14
              obtain rfl : v14 = _ := j14
              clear hdep
              go_simp
              exact hK _ _ rfl (Below.refl _ _)
            · intro a w' hb hdep K hK
              obtain ⟨v14, e14, j14⟩ := hdep 14 (by kernel_rfl)
              replace e14 : a.tmps[96]? = some v14 := e14
              obtain rfl : v14 = _ := j14
              obtain ⟨v21, e21, j21⟩ := hdep 21 (by kernel_rfl)
              replace e21 : a.tmps[103]? = some v21 := e21
              obtain rfl : v21 = _ := j21
              obtain ⟨v11, e11, j11⟩ := hdep 11 (by kernel_rfl)
              replace e11 : a.tmps[93]? = some v11 := e11
              obtain rfl : v11 = _ := j11
              clear hdep
              go_simp
              exact hK _ _ rfl (Below.refl _ _)
            · intro a w' hb hdep K hK
              obtain ⟨v11, e11, j11⟩ := hdep 11 (by kernel_rfl)
              replace e11 : a.tmps[93]? = some v11 := e11
              obtain rfl : v11 = _ := j11
              obtain ⟨v22, e22, j22⟩ := hdep 22 (by kernel_rfl)
              replace e22 : a.tmps[104]? = some v22 := e22
              obtain rfl : v22 = _ := j22
              clear hdep
              go_simp
              exact hK _ _ rfl (Below.refl _ _)
            · intro a w' hb hdep K hK
              obtain ⟨v23, e23, j23⟩ := hdep 23 (by kernel_rfl)
              replace e23 : a.tmps[105]? = some v23 := e23
              obtain rfl : v23 = _ := j23
              clear hdep
              go_simp
              exact hK _ _ rfl (Below.refl _ _)
            · intro a w' hb hdep K hK
              obtain ⟨v24, e24, j24⟩ := hdep 24 (by kernel_rfl)
              replace e24 : a.tmps[106]? = some v24 := e24
              obtain rfl : v24 = _ := j24
              clear hdep
              go_simp
              go_at_call 17
              refine (wakes_call w').mono ?_
              rintro e w20 ⟨rfl, hb20⟩
              exact hK _ _ rfl hb20
            · intro a w' hb hdep K hK
              obtain ⟨v24, e24, j24⟩ := hdep 24 (by kernel_rfl)
              replace e24 : a.tmps[106]? = some v24 := e24
              obtain rfl : v24 = _ := j24
              obtain ⟨v25, e25, j25⟩ := hdep 25 (by kernel_rfl)
              replace e25 : a.tmps[107]? = some v25 := e25
              obtain rfl : v25 = _ := j25
              clear hdep
              go_simp
              exact hK _ _ rfl (Below.refl _ _)
            · intro a w' hb hdep K hK
              obtain ⟨v26, e26, j26⟩ := hdep 26 (by kernel_rfl)
              replace e26 : a.tmps[108]? = some v26 := e26
              obtain rfl : v26 = _ := j26
              clear hdep
              go_simp
              exact hK _ _ rfl (Below.refl _ _)
          · intro vs w' hvl hall hb
            match vs, hvl with
            | [v0, v1, v2, v3, v4, v5, v6, v7, v8, v9, v10, v11, v12, v13, v14, v15, v16, v17, v18, v19, v20, v21, v22, v23, v24, v25, v26, v27], _ =>
              obtain rfl : v0 = _ := hall 0 (by decide)
              obtain rfl : v1 = _ := hall 1 (by decide)
              obtain rfl : v2 = _ := hall 2 (by decide)
              obtain rfl : v3 = _ := hall 3 (by decide)
              obtain rfl : v4 = _ := hall 4 (by decide)
              obtain rfl : v5 = _ := hall 5 (by decide)
              obtain rfl : v6 = _ := hall 6 (by decide)
              obtain rfl : v7 = _ := hall 7 (by decide)
              obtain rfl : v8 = _ := hall 8 (by decide)
              obtain rfl : v9 = _ := hall 9 (by decide)
              obtain rfl : v10 = _ := hall 10 (by decide)
              obtain rfl : v11 = _ := hall 11 (by decide)
              obtain rfl : v12 = _ := hall 12 (by decide)
              obtain rfl : v13 = _ := hall 13 (by decide)
              obtain rfl : v14 = _ := hall 14 (by decide)
              obtain rfl : v15 = _ := hall 15 (by decide)
              obtain rfl : v16 = _ := hall 16 (by decide)
              obtain rfl : v17 = _ := hall 17 (by decide)
              obtain rfl : v18 = _ := hall 18 (by decide)
              obtain rfl : v19 = _ := hall 19 (by decide)
              obtain rfl : v20 = _ := hall 20 (by decide)
              obtain rfl : v21 = _ := hall 21 (by decide)
              obtain rfl : v22 = _ := hall 22 (by decide)
              obtain rfl : v23 = _ := hall 23 (by decide)
              obtain rfl : v24 = _ := hall 24 (by decide)
              obtain rfl : v25 = _ := hall 25 (by decide)
              obtain rfl : v26 = _ := hall 26 (by decide)
              obtain rfl : v27 = _ := hall 27 (by decide)
              simp only [putAll, List.setIfInBounds_toArray, List.set_cons_zero, List.set_cons_succ]
              go_wp2
              go_ret
              exact ⟨rfl, HBL.out.trans (hb.mono HBL.out.size)⟩
  · have hd : (ET == 0) = false := by simpa using hET
    go_wp2_with (with_reducible refine (hwk _).mono ?_; rintro e w5 ⟨rfl, hb5⟩)
    go_ret
    exact ⟨rfl, HBL.out.trans (hb5.mono HBL.out.size)⟩
theorem turned_law (t : List Int) (ht : Tal t) (L i k c : Int) (hL : -9223372036854775808 ≤ L ∧ L ≤ 9223372036854775807) (w : World) :
    Calls Try.prog 7 #[.agg (tl t), .int .i64 L, .int .i64 i, .int .i64 k, .int .i64 c] w fun e w' => e = .returned (.bool true) ∧ Below w.heap.size w w' := by
  by_cases h : i < 0 ∨ 258 ≤ i ∨ k < 0 ∨ 258 ≤ k ∨ c < 1 ∨ 2147483647 < c
  · exact turned_bad t ht L i k c h w
  · obtain ⟨i', rfl⟩ : ∃ i' : Nat, i = i' := ⟨i.toNat, by omega⟩
    obtain ⟨k', rfl⟩ : ∃ k' : Nat, k = k' := ⟨k.toNat, by omega⟩
    exact turned_good t ht L hL i' k' c (by omega) (by omega) (by omega) (by omega) w
end Go.Proofs.Ytemjlmeakkknbaa
