/- The developers' isValid, Valid, New (gengb.py). -/
import Derived.Test.YtbegpakjojiblabPgA
import Derived.Test.YtbegpakjojiblabPdL
import Derived.Test.YtbegpakjojiblabPdP
import Derived.Test.YtbegpakjojiblabFrm2
import Derived.Deep.MidRow
set_option linter.unusedVariables false
set_option linter.unusedSimpArgs false
namespace Go.Proofs.Ytbegpakjojiblab
open Go.RowKit

set_option maxRecDepth 100000 in
set_option maxHeartbeats 2000000 in
theorem new_call : NewC := by
  intro l h w
  have htc := fun W => table_call l h W
  have hz := stZ
  have hs0 := sg_size zL_lng 0 0
  have hsl := sg_size h 0 0
  have HT := Lib.hid (show (tableV l = true → (if tableV l then l else zL) = l ∧ (if tableV l then (0 : Int) else 2) = 0) ∧ (tableV l = false → (if tableV l then l else zL) = zL ∧ (if tableV l then (0 : Int) else 2) = 2) from ⟨fun e => by rw [e]; exact ⟨rfl, rfl⟩, fun e => by rw [e]; exact ⟨rfl, rfl⟩⟩)
  generalize (if tableV l then l else zL) = L1 at HT ⊢
  generalize (if tableV l then (0 : Int) else 2) = E1 at HT ⊢
  go_enter Try.func7, Try.ntmps7
  go_upto_region 1 with fail
  have hg := heap_alloc2_old w (.cells (lg l) 23) (.cells (sg zL 0 0) 34)
  have hr := heap_alloc2_new w (.cells (lg l) 23) (.cells (sg zL 0 0) 34)
  have hb : Below w.heap.size w ((w.alloc (.cells (lg l) 23)).alloc (.cells (sg zL 0 0) 34)) := ((Below.refl _ _).alloc (Nat.le_refl _) _).alloc (by simp) _
  generalize (w.alloc (.cells (lg l) 23)).alloc (.cells (sg zL 0 0) 34) = w1 at hg hr hb ⊢
  have HB := Lib.hid hb
  have HR := Lib.hid hr
  clear hb hr hz
  cases hT : tableV l with
  | false =>
    rw [hT] at htc
    obtain ⟨rfl, rfl⟩ := HT.out.2 hT
    clear hT HT
    go_wp2_with (first
      | (refine wpList_load_row rfl 23 _ rfl w.heap.size rfl 23 (lg l) (0, 0) _ hg Try.underlying23 rfl (lngIk h) ?_)
      | ((with_reducible refine (htc _).mono ?_)
         rintro e w2 ⟨rfl, hb2⟩
         have hr2 := heap_on hb2 HR.out
         have hbb := HB.out.trans (hb2.mono HB.out.size)
         have HB2 := Lib.hid hbb
         clear hb2 hbb)
      | (refine wpList_build_is rfl 34 _ rfl _ _ (fun W => build_0 W) rfl ?_)
      | (refine wpList_store_row rfl 34 _ _ rfl (w.heap.size + 1) (sg zL 0 0) rfl rfl 34 (sg zL 0 0) hr2 stI rfl (sg_all _ _ _) ?_))
    refine bodyPost_ret (v := .tuple #[.agg (sg zL 0 0), .int .i64 2]) ?_ rfl ⟨rfl, HB2.out.setRow (by omega) _⟩
    exact results_cell_tmp Try.results7 _ _ (w.heap.size + 1) 34 (sg zL 0 0) (0, 0) _ _ rfl rfl (setRow_heap _ _ _ _ _ _ hr2) Try.underlying34 rfl stI
  | true =>
    rw [hT] at htc
    obtain ⟨hL1, rfl⟩ := HT.out.1 hT
    have HL1 := Lib.hid hL1
    clear hT HT hL1
    go_wp2_with (first
      | (refine wpList_load_row rfl 23 _ rfl w.heap.size rfl 23 (lg l) (0, 0) _ hg Try.underlying23 rfl (lngIk h) ?_)
      | ((with_reducible refine (htc _).mono ?_)
         rintro e w2 ⟨rfl, hb2⟩
         have hr2 := heap_on hb2 HR.out
         have hg2 := heap_on hb2 hg
         have hbb := HB.out.trans (hb2.mono HB.out.size)
         have HB2 := Lib.hid hbb
         clear hb2 hbb)
      | (refine wpList_load_row rfl 23 _ rfl w.heap.size rfl 23 (lg l) (0, 0) _ hg2 Try.underlying23 rfl (lngIk h) ?_)
      | (refine wpList_build_is rfl 34 _ rfl _ _ (fun W => build_l W h) rfl ?_)
      | (refine wpList_store_row rfl 34 _ _ rfl (w.heap.size + 1) (sg l 0 0) rfl rfl 34 (sg zL 0 0) hr2 (stIk h 0 0) (by rw [hs0, hsl]) (sg_all _ _ _) ?_))
    refine bodyPost_ret (v := .tuple #[.agg (sg l 0 0), .int .i64 0]) ?_ rfl ⟨by rw [HL1.out], HB2.out.setRow (by omega) _⟩
    exact results_cell_tmp Try.results7 _ _ (w.heap.size + 1) 34 (sg l 0 0) (0, 0) _ _ rfl rfl (setRow_heap _ _ _ _ _ _ hr2) Try.underlying34 rfl (stIk h 0 0)

theorem wpList_load_mid_g {P : Program} {ops : Array Oper} {rest : List Oper} {o : Oper} {a : Act} {w : World} {Q : Exit → Act → World → Prop} (j : Nat) (want : Bool) (hgd : o.guard = some (j, want)) (s : Nat) (hs : (ops[j]?).bind (·.dst) = some s) (v : Bool) (hv : a.tmps[s]? = some (.bool v)) (hvw : v = want)
    (ty : TypeId) (x : Operand) (ho : o.op = .load ty x)
    (b off : Nat) (hx : a.eval x = .pointer (some ⟨b, off, none⟩)) (cs : List Value) (d : TypeDesc) (hc : w.rangeAt b off cs)
    (hu : P.underlying ty = some d) (hd : d.isRow = true) (hi : (P.info? ty).map (·.size) = some cs.length)
    (h : wpList P ops Q rest (a.put o.dst (.agg cs.toArray)) w) : wpList P ops Q (o :: rest) a w := by
  subst hvw
  refine BigFrame.wpList_want ?_ (fun K hK => wp_load_mid ty x ho b off hx cs d hc hu hd hi (hK _ _ h))
  unfold Region.wanted
  rw [hgd]
  simp [yielded, hs, hv]
theorem sg_range {w : World} {g : Nat} {t : TypeId} {fr : Nat × Nat} {l : List Int} {c n : Int} (hg : w.heap[g]? = some (.cells (sg l c n) t fr)) (h : Lng l) : w.rangeAt g 0 (lg l).toList := fun j v hv => by
  have hj : j < 258 := by
    have := (List.getElem?_eq_some_iff.1 hv).1
    rw [Array.length_toList, lg_size h] at this
    exact this
  rw [cell_of_row w g (0 + j) _ t fr hg, Nat.zero_add, sg_len h c n j hj]
  rw [Array.getElem?_toList, lg_get h j hj] at hv
  exact hv

set_option maxRecDepth 100000 in
set_option maxHeartbeats 2000000 in
theorem isvalid_call (l : List Int) (h : Lng l) (c n : Int) (hcw : (Lit.int .i64 c).wf = true) (hnw : (Lit.int .i64 n).wf = true) (w : World) :
    Calls Try.prog 17 #[.agg (sg l c n), .agg (xl (cntT l 258))] w fun e w' => e = .returned (.bool (valC l c n)) ∧ Below w.heap.size w w' := by
  have htc := fun W => table_call l h W
  have HV0 := Lib.hid (show ¬ (0 ≤ n ∧ n ≤ 14 ∧ tableV l = true) → valC l c n = false from fun hh => by
    unfold valC
    cases hT : tableV l with
    | false => rfl
    | true =>
      by_cases h0 : 0 ≤ n
      · rw [decide_eq_true h0, decide_eq_false (show ¬ n ≤ 14 from fun h1 => hh ⟨h0, h1, hT⟩)]
        simp
      · rw [decide_eq_false h0]
        simp)
  have HV1 := Lib.hid (fun (h0 : 0 ≤ n) (h14 : n ≤ 14) (hT : tableV l = true) => val_wh (l := l) (c := c) (n := n) ⟨h, hT⟩ h0 h14)
  have HWC := Lib.hid (fun (hT : tableV l = true) (m : Nat) (hm : m ≤ 14) W => whole_call l (TL.vl ⟨h, hT⟩) m hm W)
  have hS := cntT_sxt l 258 (by omega)
  generalize valC l c n = V at HV0 HV1 ⊢
  generalize tableV l = T at htc HV0 HV1 HWC
  have HWB := Lib.hid (show T = T from rfl)
  have hcw2 := bounds_i64 hcw
  have hnw2 := bounds_i64 hnw
  generalize cntT l 258 = ct at HV1 HWC hS ⊢
  go_enter Try.func17, Try.ntmps17
  go_upto_region 1 with fail
  have hg := heap_alloc2_old w (.cells (sg l c n) 34) (.cells (xl ct) 53)
  have hr := heap_alloc2_new w (.cells (sg l c n) 34) (.cells (xl ct) 53)
  have hb : Below w.heap.size w ((w.alloc (.cells (sg l c n) 34)).alloc (.cells (xl ct) 53)) := ((Below.refl _ _).alloc (Nat.le_refl _) _).alloc (by simp) _
  generalize (w.alloc (.cells (sg l c n) 34)).alloc (.cells (xl ct) 53) = w1 at hg hr hb ⊢
  have HB := Lib.hid hb
  have HR := Lib.hid hr
  clear hb hr
  have hcl := sg_cells hg h
  by_cases h0 : n < 0
  · have hd : decide (n < 0) = true := decide_eq_true h0
    have HX := Lib.hid (HV0.out (by omega))
    clear htc
    go_wp2_with fail
    go_ret
    exact ⟨by rw [HX.out]; rfl, HB.out⟩
  · by_cases h14 : 15 ≤ n
    · have hd : decide (n < 0) = false := decide_eq_false h0
      have hd2 : decide (15 ≤ n) = true := decide_eq_true h14
      have HX := Lib.hid (HV0.out (by omega))
      clear htc
      go_wp2_with fail
      go_ret
      exact ⟨by rw [HX.out]; rfl, HB.out⟩
    · have hd : decide (n < 0) = false := decide_eq_false h0
      have hd2 : decide (15 ≤ n) = false := decide_eq_false h14
      have hrg := sg_range hg h
      cases hT : T with
      | false =>
        subst hT
        have HX := Lib.hid (HV0.out (by rintro ⟨_, _, h⟩; cases h))
        clear hcl
        have hcl := sg_cells hg h
        go_wp2_with (first
          | (refine wpList_load_mid_g 8 false rfl 13 rfl _ rfl rfl 23 _ rfl w.heap.size 0 rfl (lg l).toList _ hrg Try.underlying23 rfl (by rw [Array.length_toList]; exact lngIk h) ?_)
          | ((with_reducible refine (htc _).mono ?_)
             rintro e w4 ⟨rfl, hb4⟩))
        go_ret
        exact ⟨by rw [HX.out]; rfl, HB.out.trans (hb4.mono HB.out.size)⟩
      | true =>
        subst hT
        have HX := Lib.hid (HV1.out (by omega) (by omega) rfl)
        obtain ⟨N, rfl⟩ : ∃ N : Nat, n = (N : Int) := ⟨n.toNat, by omega⟩
        have hwc := HWC.out rfl N (by omega)
        rw [Int.toNat_natCast] at HX
        obtain ⟨PW, hPW⟩ : ∃ PW : Nat, PW = 2 ^ N := ⟨_, rfl⟩
        rw [← hPW] at HX
        have hp1 : PW ≤ 16384 := by rw [hPW]; exact Nat.le_trans (Nat.pow_le_pow_right (by omega) (show N ≤ 14 by omega)) (by decide)
        have hp0 : (2 : Int) ^ N = (PW : Int) := by rw [hPW]; simp
        have HP2 := Lib.hid (show IntKind.i64.wrap ((2 : Int) ^ N) = (PW : Int) by rw [hp0, IntKind.wrap_i64]; omega)
        clear hp0 hp1 hPW
        clear HV0 HV1 HWC HWB
        generalize whL ct N = X at HX hwc
        have HWC := Lib.hid hwc
        clear hwc
        go_upto_region 3 with (first
          | (refine wpList_load_mid_g 8 false rfl 13 rfl _ rfl rfl 23 _ rfl w.heap.size 0 rfl (lg l).toList _ hrg Try.underlying23 rfl (by rw [Array.length_toList]; exact lngIk h) ?_)
          | ((with_reducible refine (htc _).mono ?_)
             rintro e w4 ⟨rfl, hb4⟩
             have HG4 := Lib.hid (heap_on hb4 hg)
             have HR4 := Lib.hid (heap_on hb4 HR.out)
             have HB4 := Lib.hid (HB.out.trans (hb4.mono HB.out.size))
             clear hb4))
        clear hg hcl hrg HR HB htc
        have hcx := sg_cells HG4.out h
        by_cases hA : X ≤ c
        · rw [decide_eq_true hA] at HX
          have hda : decide (X ≤ c) = true := decide_eq_true hA
          refine wp_region_inv (J := Js [eqv (.pointer (some ⟨w.heap.size, 258, none⟩)), eqv (.int .i64 (c)), eqv (.agg (xl ct)), eqv (.pointer (some ⟨w.heap.size, 259, none⟩)), eqv (.int .i64 ((N : Int))), eqv (.int .i64 (X)), eqv (.bool true), eqv (.bool true), eqv (.pointer (some ⟨w.heap.size, 258, none⟩)), eqv (.int .i64 (c)), eqv (.pointer (some ⟨w.heap.size, 259, none⟩)), eqv (.int .i64 ((N : Int))), eqv (.int .i64 ((PW : Int))), eqv (.bool (decide (c < (PW : Int)))), eqv (.bool (decide (c < (PW : Int)))), eqv (.bool (decide (c < (PW : Int))))]) (ds := [19, 20, 21, 22, 23, 24, 25, 26, 27, 28, 29, 30, 31, 32, 33, 4]) (N := 34)
            (B := [(2, .pointer (some ⟨w.heap.size, 0, none⟩)), (3, .pointer (some ⟨w.heap.size + 1, 0, none⟩))]) (by kernel_rfl) (by kernel_rfl) (Js_mono ⟨eqv_mono _, eqv_mono _, eqv_mono _, eqv_mono _, eqv_mono _, eqv_mono _, eqv_mono _, eqv_mono _, eqv_mono _, eqv_mono _, eqv_mono _, eqv_mono _, eqv_mono _, eqv_mono _, eqv_mono _, eqv_mono _, trivial⟩) rfl rfl (by simp) ?_ ?_
          · refine ⟨?_, ?_, ?_, ?_, ?_, ?_, ?_, ?_, ?_, ?_, ?_, ?_, ?_, ?_, ?_, ?_, trivial⟩
            · intro a w' hb hdep K hK
              have c2 := hb.at 0 2 _ rfl
              clear hdep
              go_simp
              exact hK _ _ rfl (Below.refl _ _)
            · intro a w' hb hdep K hK
              obtain ⟨v0, e0, j0⟩ := hdep 0 (by kernel_rfl)
              replace e0 : a.tmps[19]? = some v0 := e0
              obtain rfl : v0 = _ := j0
              have hcl := sg_cells (heap_on hb.bel HG4.out) h
              clear hdep
              go_simp
              exact hK _ _ rfl (Below.refl _ _)
            · intro a w' hb hdep K hK
              have c3 := hb.at 1 3 _ rfl
              clear hdep
              refine wp_load_row 53 _ rfl (w.heap.size + 1) (by simp [Act.eval, c3]) 53 (xl ct) (0, 0) _ (heap_on hb.bel HR4.out) Try.underlying53 rfl (sxtIk hS) ?_
              exact hK _ _ rfl (Below.refl _ _)
            · intro a w' hb hdep K hK
              have c2 := hb.at 0 2 _ rfl
              clear hdep
              go_simp
              exact hK _ _ rfl (Below.refl _ _)
            · intro a w' hb hdep K hK
              obtain ⟨v3, e3, j3⟩ := hdep 3 (by kernel_rfl)
              replace e3 : a.tmps[22]? = some v3 := e3
              obtain rfl : v3 = _ := j3
              have hcl := sg_cells (heap_on hb.bel HG4.out) h
              clear hdep
              go_simp
              exact hK _ _ rfl (Below.refl _ _)
            · intro a w' hb hdep K hK
              obtain ⟨v2, e2, j2⟩ := hdep 2 (by kernel_rfl)
              replace e2 : a.tmps[21]? = some v2 := e2
              obtain rfl : v2 = _ := j2
              obtain ⟨v4, e4, j4⟩ := hdep 4 (by kernel_rfl)
              replace e4 : a.tmps[23]? = some v4 := e4
              obtain rfl : v4 = _ := j4
              clear hdep
              go_simp
              go_at_call 25
              refine (HWC.out w').mono ?_
              rintro e w20 ⟨rfl, hb20⟩
              exact hK _ _ rfl hb20
            · intro a w' hb hdep K hK
              obtain ⟨v1, e1, j1⟩ := hdep 1 (by kernel_rfl)
              replace e1 : a.tmps[20]? = some v1 := e1
              obtain rfl : v1 = _ := j1
              obtain ⟨v5, e5, j5⟩ := hdep 5 (by kernel_rfl)
              replace e5 : a.tmps[24]? = some v5 := e5
              obtain rfl : v5 = _ := j5
              clear hdep
              go_simp
              exact hK _ _ rfl (Below.refl _ _)
            · intro a w' hb hdep K hK
              obtain ⟨v6, e6, j6⟩ := hdep 6 (by kernel_rfl)
              replace e6 : a.tmps[25]? = some v6 := e6
              obtain rfl : v6 = _ := j6
              clear hdep
              go_simp
              exact hK _ _ rfl (Below.refl _ _)
            · intro a w' hb hdep K hK
              have c2 := hb.at 0 2 _ rfl
              obtain ⟨v7, e7, j7⟩ := hdep 7 (by kernel_rfl)
              replace e7 : a.tmps[26]? = some v7 := e7
              obtain rfl : v7 = _ := j7
              clear hdep
              go_simp
              exact hK _ _ rfl (Below.refl _ _)
            · intro a w' hb hdep K hK
              obtain ⟨v8, e8, j8⟩ := hdep 8 (by kernel_rfl)
              replace e8 : a.tmps[27]? = some v8 := e8
              obtain rfl : v8 = _ := j8
              obtain ⟨v7, e7, j7⟩ := hdep 7 (by kernel_rfl)
              replace e7 : a.tmps[26]? = some v7 := e7
              obtain rfl : v7 = _ := j7
              have hcl := sg_cells (heap_on hb.bel HG4.out) h
              clear hdep
              go_simp
              exact hK _ _ rfl (Below.refl _ _)
            · intro a w' hb hdep K hK
              have c2 := hb.at 0 2 _ rfl
              obtain ⟨v7, e7, j7⟩ := hdep 7 (by kernel_rfl)
              replace e7 : a.tmps[26]? = some v7 := e7
              obtain rfl : v7 = _ := j7
              clear hdep
              go_simp
              exact hK _ _ rfl (Below.refl _ _)
            · intro a w' hb hdep K hK
              obtain ⟨v10, e10, j10⟩ := hdep 10 (by kernel_rfl)
              replace e10 : a.tmps[29]? = some v10 := e10
              obtain rfl : v10 = _ := j10
              obtain ⟨v7, e7, j7⟩ := hdep 7 (by kernel_rfl)
              replace e7 : a.tmps[26]? = some v7 := e7
              obtain rfl : v7 = _ := j7
              have hcl := sg_cells (heap_on hb.bel HG4.out) h
              clear hdep
              go_simp
              exact hK _ _ rfl (Below.refl _ _)
            · intro a w' hb hdep K hK
              obtain ⟨v11, e11, j11⟩ := hdep 11 (by kernel_rfl)
              replace e11 : a.tmps[30]? = some v11 := e11
              obtain rfl : v11 = _ := j11
              obtain ⟨v7, e7, j7⟩ := hdep 7 (by kernel_rfl)
              replace e7 : a.tmps[26]? = some v7 := e7
              obtain rfl : v7 = _ := j7
              clear hdep
              have hp2 := HP2.out
              go_simp
              exact hK _ _ rfl (Below.refl _ _)
            · intro a w' hb hdep K hK
              obtain ⟨v9, e9, j9⟩ := hdep 9 (by kernel_rfl)
              replace e9 : a.tmps[28]? = some v9 := e9
              obtain rfl : v9 = _ := j9
              obtain ⟨v12, e12, j12⟩ := hdep 12 (by kernel_rfl)
              replace e12 : a.tmps[31]? = some v12 := e12
              obtain rfl : v12 = _ := j12
              obtain ⟨v7, e7, j7⟩ := hdep 7 (by kernel_rfl)
              replace e7 : a.tmps[26]? = some v7 := e7
              obtain rfl : v7 = _ := j7
              clear hdep
              go_simp
              exact hK _ _ rfl (Below.refl _ _)
            · intro a w' hb hdep K hK
              obtain ⟨v7, e7, j7⟩ := hdep 7 (by kernel_rfl)
              replace e7 : a.tmps[26]? = some v7 := e7
              obtain rfl : v7 = _ := j7
              obtain ⟨v13, e13, j13⟩ := hdep 13 (by kernel_rfl)
              replace e13 : a.tmps[32]? = some v13 := e13
              obtain rfl : v13 = _ := j13
              clear hdep
              go_simp
              exact hK _ _ rfl (Below.refl _ _)
            · intro a w' hb hdep K hK
              obtain ⟨v14, e14, j14⟩ := hdep 14 (by kernel_rfl)
              replace e14 : a.tmps[33]? = some v14 := e14
              obtain rfl : v14 = _ := j14
              clear hdep
              go_simp
              exact hK _ _ rfl (Below.refl _ _)
          · intro a w' hb hall
            obtain ⟨v, h6, hv⟩ := hall 15 (by decide)
            obtain rfl : v = .bool (decide (c < (PW : Int))) := hv
            have HBB := Lib.hid (HB4.out.trans (hb.bel.mono HB4.out.size))
            have hd := hb.defers
            clear hall hb
            go_wp2
            replace h6 : a.tmps[4]? = some (.bool (decide (c < (PW : Int)))) := h6
            exact bodyPost_ret (v := .bool (decide (c < (PW : Int)))) (by simp [results, Try.results17, go_sem, h6]) hd ⟨by rw [HX.out]; rfl, HBB.out⟩
        · rw [decide_eq_false hA] at HX
          have hda : decide (X ≤ c) = false := decide_eq_false hA
          refine wp_region_inv (J := Js [eqv (.pointer (some ⟨w.heap.size, 258, none⟩)), eqv (.int .i64 (c)), eqv (.agg (xl ct)), eqv (.pointer (some ⟨w.heap.size, 259, none⟩)), eqv (.int .i64 ((N : Int))), eqv (.int .i64 (X)), eqv (.bool false), eqv (.bool false), eqv undef, eqv undef, eqv undef, eqv undef, eqv undef, eqv undef, eqv (.bool false), eqv (.bool false)]) (ds := [19, 20, 21, 22, 23, 24, 25, 26, 27, 28, 29, 30, 31, 32, 33, 4]) (N := 34)
            (B := [(2, .pointer (some ⟨w.heap.size, 0, none⟩)), (3, .pointer (some ⟨w.heap.size + 1, 0, none⟩))]) (by kernel_rfl) (by kernel_rfl) (Js_mono ⟨eqv_mono _, eqv_mono _, eqv_mono _, eqv_mono _, eqv_mono _, eqv_mono _, eqv_mono _, eqv_mono _, eqv_mono _, eqv_mono _, eqv_mono _, eqv_mono _, eqv_mono _, eqv_mono _, eqv_mono _, eqv_mono _, trivial⟩) rfl rfl (by simp) ?_ ?_
          · refine ⟨?_, ?_, ?_, ?_, ?_, ?_, ?_, ?_, ?_, ?_, ?_, ?_, ?_, ?_, ?_, ?_, trivial⟩
            · intro a w' hb hdep K hK
              have c2 := hb.at 0 2 _ rfl
              clear hdep
              go_simp
              exact hK _ _ rfl (Below.refl _ _)
            · intro a w' hb hdep K hK
              obtain ⟨v0, e0, j0⟩ := hdep 0 (by kernel_rfl)
              replace e0 : a.tmps[19]? = some v0 := e0
              obtain rfl : v0 = _ := j0
              have hcl := sg_cells (heap_on hb.bel HG4.out) h
              clear hdep
              go_simp
              exact hK _ _ rfl (Below.refl _ _)
            · intro a w' hb hdep K hK
              have c3 := hb.at 1 3 _ rfl
              clear hdep
              refine wp_load_row 53 _ rfl (w.heap.size + 1) (by simp [Act.eval, c3]) 53 (xl ct) (0, 0) _ (heap_on hb.bel HR4.out) Try.underlying53 rfl (sxtIk hS) ?_
              exact hK _ _ rfl (Below.refl _ _)
            · intro a w' hb hdep K hK
              have c2 := hb.at 0 2 _ rfl
              clear hdep
              go_simp
              exact hK _ _ rfl (Below.refl _ _)
            · intro a w' hb hdep K hK
              obtain ⟨v3, e3, j3⟩ := hdep 3 (by kernel_rfl)
              replace e3 : a.tmps[22]? = some v3 := e3
              obtain rfl : v3 = _ := j3
              have hcl := sg_cells (heap_on hb.bel HG4.out) h
              clear hdep
              go_simp
              exact hK _ _ rfl (Below.refl _ _)
            · intro a w' hb hdep K hK
              obtain ⟨v2, e2, j2⟩ := hdep 2 (by kernel_rfl)
              replace e2 : a.tmps[21]? = some v2 := e2
              obtain rfl : v2 = _ := j2
              obtain ⟨v4, e4, j4⟩ := hdep 4 (by kernel_rfl)
              replace e4 : a.tmps[23]? = some v4 := e4
              obtain rfl : v4 = _ := j4
              clear hdep
              go_simp
              go_at_call 25
              refine (HWC.out w').mono ?_
              rintro e w20 ⟨rfl, hb20⟩
              exact hK _ _ rfl hb20
            · intro a w' hb hdep K hK
              obtain ⟨v1, e1, j1⟩ := hdep 1 (by kernel_rfl)
              replace e1 : a.tmps[20]? = some v1 := e1
              obtain rfl : v1 = _ := j1
              obtain ⟨v5, e5, j5⟩ := hdep 5 (by kernel_rfl)
              replace e5 : a.tmps[24]? = some v5 := e5
              obtain rfl : v5 = _ := j5
              clear hdep
              go_simp
              exact hK _ _ rfl (Below.refl _ _)
            · intro a w' hb hdep K hK
              obtain ⟨v6, e6, j6⟩ := hdep 6 (by kernel_rfl)
              replace e6 : a.tmps[25]? = some v6 := e6
              obtain rfl : v6 = _ := j6
              clear hdep
              go_simp
              exact hK _ _ rfl (Below.refl _ _)
            · intro a w' hb hdep K hK
              have c2 := hb.at 0 2 _ rfl
              obtain ⟨v7, e7, j7⟩ := hdep 7 (by kernel_rfl)
              replace e7 : a.tmps[26]? = some v7 := e7
              obtain rfl : v7 = _ := j7
              clear hdep
              go_simp
              exact hK _ _ rfl (Below.refl _ _)
            · intro a w' hb hdep K hK
              obtain ⟨v8, e8, j8⟩ := hdep 8 (by kernel_rfl)
              replace e8 : a.tmps[27]? = some v8 := e8
              obtain rfl : v8 = _ := j8
              obtain ⟨v7, e7, j7⟩ := hdep 7 (by kernel_rfl)
              replace e7 : a.tmps[26]? = some v7 := e7
              obtain rfl : v7 = _ := j7
              clear hdep
              go_simp
              exact hK _ _ rfl (Below.refl _ _)
            · intro a w' hb hdep K hK
              have c2 := hb.at 0 2 _ rfl
              obtain ⟨v7, e7, j7⟩ := hdep 7 (by kernel_rfl)
              replace e7 : a.tmps[26]? = some v7 := e7
              obtain rfl : v7 = _ := j7
              clear hdep
              go_simp
              exact hK _ _ rfl (Below.refl _ _)
            · intro a w' hb hdep K hK
              obtain ⟨v10, e10, j10⟩ := hdep 10 (by kernel_rfl)
              replace e10 : a.tmps[29]? = some v10 := e10
              obtain rfl : v10 = _ := j10
              obtain ⟨v7, e7, j7⟩ := hdep 7 (by kernel_rfl)
              replace e7 : a.tmps[26]? = some v7 := e7
              obtain rfl : v7 = _ := j7
              clear hdep
              go_simp
              exact hK _ _ rfl (Below.refl _ _)
            · intro a w' hb hdep K hK
              obtain ⟨v11, e11, j11⟩ := hdep 11 (by kernel_rfl)
              replace e11 : a.tmps[30]? = some v11 := e11
              obtain rfl : v11 = _ := j11
              obtain ⟨v7, e7, j7⟩ := hdep 7 (by kernel_rfl)
              replace e7 : a.tmps[26]? = some v7 := e7
              obtain rfl : v7 = _ := j7
              clear hdep
              go_simp
              exact hK _ _ rfl (Below.refl _ _)
            · intro a w' hb hdep K hK
              obtain ⟨v9, e9, j9⟩ := hdep 9 (by kernel_rfl)
              replace e9 : a.tmps[28]? = some v9 := e9
              obtain rfl : v9 = _ := j9
              obtain ⟨v12, e12, j12⟩ := hdep 12 (by kernel_rfl)
              replace e12 : a.tmps[31]? = some v12 := e12
              obtain rfl : v12 = _ := j12
              obtain ⟨v7, e7, j7⟩ := hdep 7 (by kernel_rfl)
              replace e7 : a.tmps[26]? = some v7 := e7
              obtain rfl : v7 = _ := j7
              clear hdep
              go_simp
              exact hK _ _ rfl (Below.refl _ _)
            · intro a w' hb hdep K hK
              obtain ⟨v7, e7, j7⟩ := hdep 7 (by kernel_rfl)
              replace e7 : a.tmps[26]? = some v7 := e7
              obtain rfl : v7 = _ := j7
              obtain ⟨v13, e13, j13⟩ := hdep 13 (by kernel_rfl)
              replace e13 : a.tmps[32]? = some v13 := e13
              obtain rfl : v13 = _ := j13
              clear hdep
              go_simp
              exact hK _ _ rfl (Below.refl _ _)
            · intro a w' hb hdep K hK
              obtain ⟨v14, e14, j14⟩ := hdep 14 (by kernel_rfl)
              replace e14 : a.tmps[33]? = some v14 := e14
              obtain rfl : v14 = _ := j14
              clear hdep
              go_simp
              exact hK _ _ rfl (Below.refl _ _)
          · intro a w' hb hall
            obtain ⟨v, h6, hv⟩ := hall 15 (by decide)
            obtain rfl : v = .bool false := hv
            have HBB := Lib.hid (HB4.out.trans (hb.bel.mono HB4.out.size))
            have hd := hb.defers
            clear hall hb
            go_wp2
            replace h6 : a.tmps[4]? = some (.bool false) := h6
            exact bodyPost_ret (v := .bool false) (by simp [results, Try.results17, go_sem, h6]) hd ⟨by rw [HX.out]; rfl, HBB.out⟩

set_option maxRecDepth 100000 in
set_option maxHeartbeats 2000000 in
theorem val_call : ValC := by
  intro l h c n hcw hnw w
  have HCC := Lib.hid (fun W => counts_call l h W)
  have HIC := Lib.hid (fun W => isvalid_call l h c n hcw hnw W)
  generalize cntT l 258 = ct at HCC HIC
  generalize valC l c n = VV at HIC ⊢
  go_enter Try.func13, Try.ntmps13
  go_upto_region 1 with fail
  have HG := Lib.hid (heap_alloc_last w (.cells (sg l c n) 34))
  have HB := Lib.hid ((Below.refl w.heap.size w).alloc (Nat.le_refl _) (.cells (sg l c n) 34))
  generalize w.alloc (.cells (sg l c n) 34) = w1 at HG HB ⊢
  refine wp_region_inv (J := Js [eqv (.agg (sg l c n)), eqv (.pointer (some ⟨w.heap.size, 0, none⟩)), eqv (.agg (lg l)), eqv (.agg (xl ct)), eqv (.bool VV), eqv (.bool VV)]) (ds := [3, 4, 5, 6, 7, 2]) (N := 8)
    (B := [(1, .pointer (some ⟨w.heap.size, 0, none⟩))]) (by kernel_rfl) (by kernel_rfl) (Js_mono ⟨eqv_mono _, eqv_mono _, eqv_mono _, eqv_mono _, eqv_mono _, eqv_mono _, trivial⟩) rfl rfl (by simp) ?_ ?_
  · refine ⟨?_, ?_, ?_, ?_, ?_, ?_, trivial⟩
    · intro a w' hb hdep K hK
      have c1 := hb.at 0 1 _ rfl
      clear hdep
      refine wp_load_row 34 _ rfl w.heap.size (by simp [Act.eval, c1]) 34 (sg l c n) (0, 0) _ (heap_on hb.bel HG.out) Try.underlying34 rfl (stIk h c n) ?_
      exact hK _ _ rfl (Below.refl _ _)
    · intro a w' hb hdep K hK
      have c1 := hb.at 0 1 _ rfl
      clear hdep
      go_simp
      exact hK _ _ rfl (Below.refl _ _)
    · intro a w' hb hdep K hK
      obtain ⟨v1, e1, j1⟩ := hdep 1 (by kernel_rfl)
      replace e1 : a.tmps[4]? = some v1 := e1
      obtain rfl : v1 = _ := j1
      clear hdep
      refine wp_load_mid 23 _ rfl w.heap.size 0 (by simp [Act.eval, e1]) (lg l).toList _ (sg_range (heap_on hb.bel HG.out) h) Try.underlying23 rfl (by rw [Array.length_toList]; exact lngIk h) ?_
      exact hK _ _ rfl (Below.refl _ _)
    · intro a w' hb hdep K hK
      obtain ⟨v2, e2, j2⟩ := hdep 2 (by kernel_rfl)
      replace e2 : a.tmps[5]? = some v2 := e2
      obtain rfl : v2 = _ := j2
      clear hdep
      go_simp
      go_at_call 16
      refine (HCC.out w').mono ?_
      rintro e w20 ⟨rfl, hb20⟩
      exact hK _ _ rfl hb20
    · intro a w' hb hdep K hK
      obtain ⟨v0, e0, j0⟩ := hdep 0 (by kernel_rfl)
      replace e0 : a.tmps[3]? = some v0 := e0
      obtain rfl : v0 = _ := j0
      obtain ⟨v3, e3, j3⟩ := hdep 3 (by kernel_rfl)
      replace e3 : a.tmps[6]? = some v3 := e3
      obtain rfl : v3 = _ := j3
      clear hdep
      go_simp
      go_at_call 17
      refine (HIC.out w').mono ?_
      rintro e w20 ⟨rfl, hb20⟩
      exact hK _ _ rfl hb20
    · intro a w' hb hdep K hK
      obtain ⟨v4, e4, j4⟩ := hdep 4 (by kernel_rfl)
      replace e4 : a.tmps[7]? = some v4 := e4
      obtain rfl : v4 = _ := j4
      clear hdep
      go_simp
      exact hK _ _ rfl (Below.refl _ _)
  · intro a w' hb hall
    obtain ⟨v, h6, hv⟩ := hall 5 (by decide)
    obtain rfl : v = .bool VV := hv
    have HBB := Lib.hid (HB.out.trans (hb.bel.mono HB.out.size))
    have hd := hb.defers
    clear hall hb
    go_wp2
    replace h6 : a.tmps[2]? = some (.bool VV) := h6
    exact bodyPost_ret (v := .bool VV) (by simp [results, Try.results13, go_sem, h6]) hd ⟨rfl, HBB.out⟩
end Go.Proofs.Ytbegpakjojiblab
