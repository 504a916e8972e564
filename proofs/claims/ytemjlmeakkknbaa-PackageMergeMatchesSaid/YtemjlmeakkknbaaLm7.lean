/- Law PackageMergeMatches. -/
import Derived.Test.YtemjlmeakkknbaaWk7
import Derived.Test.YtemjlmeakkknbaaRl
import Derived.Test.YtemjlmeakkknbaaPs
import Derived.Test.YtemjlmeakkknbaaLc
import Derived.Test.YtemjlmeakkknbaaOp
import Derived.Test.YtemjlmeakkknbaaOl
import Derived.Test.YtemjlmeakkknbaaFrm2
set_option linter.unusedVariables false
set_option linter.unusedSimpArgs false
namespace Go.Proofs.Ytemjlmeakkknbaa
open Go.RowKit

theorem lcons7 {α : Type} {n : Nat} {l : List α} (h : l.length = n + 1) : ∃ a r, l = a :: r ∧ r.length = n := by
  cases l with
  | nil => simp at h
  | cons a r => exact ⟨a, r, rfl, by simpa using h⟩

set_option maxRecDepth 100000 in
set_option maxHeartbeats 8000000 in
theorem match7_call (t : List Int) (ht : Tal t) (L : Int) (hL : -9223372036854775808 ≤ L ∧ L ≤ 9223372036854775807) (l : List Int) (hl : Lng l) (w : World) :
    Calls Try.prog 3 #[.agg (tl t), .int .i64 L, .agg (lg l)] w fun e w' => e = .returned (.bool true) ∧ Below w.heap.size w w' := by
  have hzL := lngZ
  have hlQ := lenQ_lng ht L
  have hkT := fun w => lengths_call t ht L hL w
  have hkR := fun w => rlengths_call t ht L hL w
  have HOC := Lib.hid (fun (W : World) => order_call t ht W)
  have HRO := Lib.hid (fun (W : World) => rorder_call t ht W)
  have HTC := Lib.hid (fun (W : World) => total_call t l ht hl W)
  have HRT := Lib.hid (fun (W : World) => rtotal_call t l ht hl W)
  have HVC := Lib.hid (fun (W : World) => valid_call t ht W)
  have HRV := Lib.hid (fun (W : World) => rvalid_call t ht W)
  have hou : (ordV t).length ≤ 258 := by
    unfold ordV
    split
    · rw [ordL_len, ← ht.1]; exact lvT_le t
    · exact Nat.zero_le _
  generalize lenQ t L = Q at hlQ hkT hkR
  generalize lenE t L = E at hkT hkR
  generalize ordV t = u at HOC HRO hou
  generalize decide (VT t) = V at HVC HRV
  generalize totV t l = T at HTC HRT
  have heq := fun w => run_eqi_lng w hlQ hlQ
  rw [decide_eq_true rfl] at heq
  have HEQ := Lib.hid heq
  clear heq
  go_enter Try.func3, Try.ntmps3
  go_upto_region 1 with fail
  have hg := heap_alloc2_old w (.cells (tl t) 23) (.cells (lg l) 25)
  have hm := heap_alloc2_new w (.cells (tl t) 23) (.cells (lg l) 25)
  have hb : Below w.heap.size w ((w.alloc (.cells (tl t) 23)).alloc (.cells (lg l) 25)) := ((Below.refl _ _).alloc (Nat.le_refl _) _).alloc (by simp) _
  generalize (w.alloc (.cells (tl t) 23)).alloc (.cells (lg l) 25) = w1 at hg hm hb ⊢
  have HBL := Lib.hid hb
  clear hb
  go_upto_region 2 with (first
    | (refine wpList_load_row rfl 23 _ rfl w.heap.size rfl 23 (tl t) (0, 0) _ hg Try.underlying23 rfl (talIk ht) ?_)
    | (with_reducible refine (hkT _).mono ?_
       rintro e x1 ⟨rfl, hb⟩
       replace HBL := Lib.hid (HBL.out.trans (hb.mono HBL.out.size))
       replace hg := heap_on hb hg
       replace hm := heap_on hb hm
       clear hb hkT)
    | (refine wpList_store_row rfl 25 _ _ rfl x1.heap.size (lg Q) rfl rfl 25 (lg zL) (heap_alloc_last x1 _) (lngIk hlQ) (by rw [lg_size zL_lng, lg_size hlQ]) (lg_all _) ?_))
  rw [World.setRow_alloc_new]
  have hbq := below_al x1 (.cells (lg Q) 25)
  have ha := heap_alloc_last x1 (.cells (lg Q) 25)
  replace HBL := Lib.hid (HBL.out.trans (hbq.mono HBL.out.size))
  replace hg := heap_on hbq hg
  replace hm := heap_on hbq hm
  generalize x1.alloc (.cells (lg Q) 25) = y1 at hbq ha HBL hg hm ⊢
  clear hbq
  go_upto_region 3 with (first
    | (refine wpList_load_row rfl 23 _ rfl w.heap.size rfl 23 (tl t) (0, 0) _ hg Try.underlying23 rfl (talIk ht) ?_)
    | (with_reducible refine (hkR _).mono ?_
       rintro e x2 ⟨rfl, hb⟩
       replace HBL := Lib.hid (HBL.out.trans (hb.mono HBL.out.size))
       replace hg := heap_on hb hg
       replace hm := heap_on hb hm
       replace ha := heap_on hb ha
       clear hb hkR)
    | (refine wpList_store_row rfl 25 _ _ rfl x2.heap.size (lg Q) rfl rfl 25 (lg zL) (heap_alloc_last x2 _) (lngIk hlQ) (by rw [lg_size zL_lng, lg_size hlQ]) (lg_all _) ?_))
  rw [World.setRow_alloc_new]
  have hbq := below_al x2 (.cells (lg Q) 25)
  have hc := heap_alloc_last x2 (.cells (lg Q) 25)
  replace HBL := Lib.hid (HBL.out.trans (hbq.mono HBL.out.size))
  replace hg := heap_on hbq hg
  replace hm := heap_on hbq hm
  replace ha := heap_on hbq ha
  generalize x2.alloc (.cells (lg Q) 25) = y2 at hbq hc HBL hg hm ha ⊢
  clear hbq
  refine wp_region_frame (J := Js [eqv (.agg (lg Q)), eqv (.agg (lg Q)), eqv (.bool true), eqv (.bool true), eqv (.int .i64 E), eqv (.int .i64 E), eqv (.bool true), eqv (.bool true), eqv (.bool true), eqv (.agg (tl t)), IsL u.length u, eqv (.agg (tl t)), IsL u.length u, eqv (.bool true), eqv (.bool true), eqv (.bool true), eqv (.agg (tl t)), eqv (.agg (lg l)), eqv (.int .i64 T), eqv (.agg (tl t)), eqv (.agg (lg l)), eqv (.int .i64 T), eqv (.bool true), eqv (.bool true), eqv (.bool true), eqv (.agg (tl t)), eqv (.bool V), eqv (.agg (tl t)), eqv (.bool V), eqv (.bool true), eqv (.bool true), eqv (.bool true), eqv (.bool true), eqv (.bool true), eqv (.bool true)]) (ds := [23, 24, 25, 26, 27, 28, 29, 30, 31, 32, 33, 34, 35, 36, 37, 38, 39, 40, 41, 42, 43, 44, 45, 46, 47, 48, 49, 50, 51, 52, 53, 54, 55, 56, 6]) (N := 57)
    (B := [(3, .pointer (some ⟨w.heap.size, 0, none⟩)), (5, .pointer (some ⟨w.heap.size + 1, 0, none⟩)), (7, .pointer (some ⟨x1.heap.size, 0, none⟩)), (8, .int .i64 E), (9, .pointer (some ⟨x2.heap.size, 0, none⟩)), (10, .int .i64 E)]) (by kernel_rfl) (by kernel_rfl) (Js_mono ⟨eqv_mono _, eqv_mono _, eqv_mono _, eqv_mono _, eqv_mono _, eqv_mono _, eqv_mono _, eqv_mono _, eqv_mono _, eqv_mono _, IsL_mono _ _, eqv_mono _, IsL_mono _ _, eqv_mono _, eqv_mono _, eqv_mono _, eqv_mono _, eqv_mono _, eqv_mono _, eqv_mono _, eqv_mono _, eqv_mono _, eqv_mono _, eqv_mono _, eqv_mono _, eqv_mono _, eqv_mono _, eqv_mono _, eqv_mono _, eqv_mono _, eqv_mono _, eqv_mono _, eqv_mono _, eqv_mono _, eqv_mono _, trivial⟩) rfl rfl (by simp) ?_ ?_
  · refine ⟨?_, ?_, ?_, ?_, ?_, ?_, ?_, ?_, ?_, ?_, ?_, ?_, ?_, ?_, ?_, ?_, ?_, ?_, ?_, ?_, ?_, ?_, ?_, ?_, ?_, ?_, ?_, ?_, ?_, ?_, ?_, ?_, ?_, ?_, ?_, trivial⟩
    · intro a w' hb hdep K hK
      have c7 := hb.at 2 7 _ rfl
      clear hdep
      exact wp_load_row 25 _ rfl (x1.heap.size) (by simp [Act.eval, c7]) 25 (lg Q) (0, 0) _ (heap_on hb.bel ha) Try.underlying25 rfl (lngIk hlQ) (hK _ _ rfl (Below.refl _ _))
    · intro a w' hb hdep K hK
      have c9 := hb.at 4 9 _ rfl
      clear hdep
      exact wp_load_row 25 _ rfl (x2.heap.size) (by simp [Act.eval, c9]) 25 (lg Q) (0, 0) _ (heap_on hb.bel hc) Try.underlying25 rfl (lngIk hlQ) (hK _ _ rfl (Below.refl _ _))
    · intro a w' hb hdep K hK
      obtain ⟨v0, e0, j0⟩ := hdep 0 (by kernel_rfl)
      replace e0 : a.tmps[23]? = some v0 := e0
      obtain rfl : v0 = _ := j0
      obtain ⟨v1, e1, j1⟩ := hdep 1 (by kernel_rfl)
      replace e1 : a.tmps[24]? = some v1 := e1
      obtain rfl : v1 = _ := j1
      have hqe := HEQ.out
      clear hdep
      go_simp
      exact hK _ _ rfl (Below.refl _ _)
    · intro a w' hb hdep K hK
      obtain ⟨v2, e2, j2⟩ := hdep 2 (by kernel_rfl)
      replace e2 : a.tmps[25]? = some v2 := e2
      obtain rfl : v2 = _ := j2
      clear hdep
      go_simp
      exact hK _ _ rfl (Below.refl _ _)
    · intro a w' hb hdep K hK
      have c8 := hb.at 3 8 _ rfl
      obtain ⟨v3, e3, j3⟩ := hdep 3 (by kernel_rfl)
      replace e3 : a.tmps[26]? = some v3 := e3
      obtain rfl : v3 = _ := j3
      clear hdep
      go_simp
      exact hK _ _ rfl (Below.refl _ _)
    · intro a w' hb hdep K hK
      have c10 := hb.at 5 10 _ rfl
      obtain ⟨v3, e3, j3⟩ := hdep 3 (by kernel_rfl)
      replace e3 : a.tmps[26]? = some v3 := e3
      obtain rfl : v3 = _ := j3
      clear hdep
      go_simp
      exact hK _ _ rfl (Below.refl _ _)
    · intro a w' hb hdep K hK
      obtain ⟨v4, e4, j4⟩ := hdep 4 (by kernel_rfl)
      replace e4 : a.tmps[27]? = some v4 := e4
      obtain rfl : v4 = _ := j4
      obtain ⟨v5, e5, j5⟩ := hdep 5 (by kernel_rfl)
      replace e5 : a.tmps[28]? = some v5 := e5
      obtain rfl : v5 = _ := j5
      obtain ⟨v3, e3, j3⟩ := hdep 3 (by kernel_rfl)
      replace e3 : a.tmps[26]? = some v3 := e3
      obtain rfl : v3 = _ := j3
      clear hdep
      go_simp
      exact hK _ _ rfl (Below.refl _ _)
    · intro a w' hb hdep K hK
      obtain ⟨v3, e3, j3⟩ := hdep 3 (by kernel_rfl)
      replace e3 : a.tmps[26]? = some v3 := e3
      obtain rfl : v3 = _ := j3
      obtain ⟨v6, e6, j6⟩ := hdep 6 (by kernel_rfl)
      replace e6 : a.tmps[29]? = some v6 := e6
      obtain rfl : v6 = _ := j6
      clear hdep
      go_simp
      exact hK _ _ rfl (Below.refl _ _)
    · intro a w' hb hdep K hK
      obtain ⟨v7, e7, j7⟩ := hdep 7 (by kernel_rfl)
      replace e7 : a.tmps[30]? = some v7 := e7
      obtain rfl : v7 = _ := j7
      clear hdep
      go_simp
      exact hK _ _ rfl (Below.refl _ _)
    · intro a w' hb hdep K hK
      have c3 := hb.at 0 3 _ rfl
      obtain ⟨v8, e8, j8⟩ := hdep 8 (by kernel_rfl)
      replace e8 : a.tmps[31]? = some v8 := e8
      obtain rfl : v8 = _ := j8
      clear hdep
      refine wanted_row 8 true rfl 31 rfl (by assumption) 23 _ rfl (w.heap.size) (by simp [Act.eval, c3]) 23 (tl t) (0, 0) _ (heap_on hb.bel hg) Try.underlying23 rfl (talIk ht) ?_
      exact hK _ _ rfl (Below.refl _ _)
    · intro a w' hb hdep K hK
      obtain ⟨v9, e9, j9⟩ := hdep 9 (by kernel_rfl)
      replace e9 : a.tmps[32]? = some v9 := e9
      obtain rfl : v9 = _ := j9
      obtain ⟨v8, e8, j8⟩ := hdep 8 (by kernel_rfl)
      replace e8 : a.tmps[31]? = some v8 := e8
      obtain rfl : v8 = _ := j8
      clear hdep
      go_simp
      go_at_call 11
      refine (HOC.out w').mono ?_
      rintro e w20 ⟨a20, c20, rfl, hs20, hb20⟩
      exact hK _ _ ⟨_, _, rfl, hs20⟩ hb20
    · intro a w' hb hdep K hK
      have c3 := hb.at 0 3 _ rfl
      obtain ⟨v8, e8, j8⟩ := hdep 8 (by kernel_rfl)
      replace e8 : a.tmps[31]? = some v8 := e8
      obtain rfl : v8 = _ := j8
      clear hdep
      refine wanted_row 8 true rfl 31 rfl (by assumption) 23 _ rfl (w.heap.size) (by simp [Act.eval, c3]) 23 (tl t) (0, 0) _ (heap_on hb.bel hg) Try.underlying23 rfl (talIk ht) ?_
      exact hK _ _ rfl (Below.refl _ _)
    · intro a w' hb hdep K hK
      obtain ⟨v11, e11, j11⟩ := hdep 11 (by kernel_rfl)
      replace e11 : a.tmps[34]? = some v11 := e11
      obtain rfl : v11 = _ := j11
      obtain ⟨v8, e8, j8⟩ := hdep 8 (by kernel_rfl)
      replace e8 : a.tmps[31]? = some v8 := e8
      obtain rfl : v8 = _ := j8
      clear hdep
      go_simp
      go_at_call 12
      refine (HRO.out w').mono ?_
      rintro e w20 ⟨a20, c20, rfl, hs20, hb20⟩
      exact hK _ _ ⟨_, _, rfl, hs20⟩ hb20
    · intro a w' hb hdep K hK
      obtain ⟨v10, e10, j10⟩ := hdep 10 (by kernel_rfl)
      replace e10 : a.tmps[33]? = some v10 := e10
      obtain ⟨v12, e12, j12⟩ := hdep 12 (by kernel_rfl)
      replace e12 : a.tmps[35]? = some v12 := e12
      obtain ⟨v8, e8, j8⟩ := hdep 8 (by kernel_rfl)
      replace e8 : a.tmps[31]? = some v8 := e8
      obtain rfl : v8 = _ := j8
      clear hdep
      obtain ⟨a10, c10, rfl, s10⟩ := j10
      obtain ⟨a12, c12, rfl, s12⟩ := j12
      go_simp
      go_at_call 10
      refine (ints_call a10 a12 u.length u.length c10 c12 u u w' rfl rfl s10 s12 (by omega) (by omega)).mono ?_
      rintro e w20 ⟨rfl, hb20⟩
      exact hK _ _ (by rw [decide_eq_true rfl]; rfl) hb20
    · intro a w' hb hdep K hK
      obtain ⟨v8, e8, j8⟩ := hdep 8 (by kernel_rfl)
      replace e8 : a.tmps[31]? = some v8 := e8
      obtain rfl : v8 = _ := j8
      obtain ⟨v13, e13, j13⟩ := hdep 13 (by kernel_rfl)
      replace e13 : a.tmps[36]? = some v13 := e13
      obtain rfl : v13 = _ := j13
      clear hdep
      go_simp
      exact hK _ _ rfl (Below.refl _ _)
    · intro a w' hb hdep K hK
      obtain ⟨v14, e14, j14⟩ := hdep 14 (by kernel_rfl)
      replace e14 : a.tmps[37]? = some v14 := e14
      obtain rfl : v14 = _ := j14
      clear hdep
      go_simp
      exact hK _ _ rfl (Below.refl _ _)
    · intro a w' hb hdep K hK
      have c3 := hb.at 0 3 _ rfl
      obtain ⟨v15, e15, j15⟩ := hdep 15 (by kernel_rfl)
      replace e15 : a.tmps[38]? = some v15 := e15
      obtain rfl : v15 = _ := j15
      clear hdep
      refine wanted_row 15 true rfl 38 rfl (by assumption) 23 _ rfl (w.heap.size) (by simp [Act.eval, c3]) 23 (tl t) (0, 0) _ (heap_on hb.bel hg) Try.underlying23 rfl (talIk ht) ?_
      exact hK _ _ rfl (Below.refl _ _)
    · intro a w' hb hdep K hK
      have c5 := hb.at 1 5 _ rfl
      obtain ⟨v15, e15, j15⟩ := hdep 15 (by kernel_rfl)
      replace e15 : a.tmps[38]? = some v15 := e15
      obtain rfl : v15 = _ := j15
      clear hdep
      refine wanted_row 15 true rfl 38 rfl (by assumption) 25 _ rfl (w.heap.size + 1) (by simp [Act.eval, c5]) 25 (lg l) (0, 0) _ (heap_on hb.bel hm) Try.underlying25 rfl (lngIk hl) ?_
      exact hK _ _ rfl (Below.refl _ _)
    · intro a w' hb hdep K hK
      obtain ⟨v16, e16, j16⟩ := hdep 16 (by kernel_rfl)
      replace e16 : a.tmps[39]? = some v16 := e16
      obtain rfl : v16 = _ := j16
      obtain ⟨v17, e17, j17⟩ := hdep 17 (by kernel_rfl)
      replace e17 : a.tmps[40]? = some v17 := e17
      obtain rfl : v17 = _ := j17
      obtain ⟨v15, e15, j15⟩ := hdep 15 (by kernel_rfl)
      replace e15 : a.tmps[38]? = some v15 := e15
      obtain rfl : v15 = _ := j15
      clear hdep
      go_simp
      go_at_call 13
      refine (HTC.out w').mono ?_
      rintro e w20 ⟨rfl, hb20⟩
      exact hK _ _ rfl hb20
    · intro a w' hb hdep K hK
      have c3 := hb.at 0 3 _ rfl
      obtain ⟨v15, e15, j15⟩ := hdep 15 (by kernel_rfl)
      replace e15 : a.tmps[38]? = some v15 := e15
      obtain rfl : v15 = _ := j15
      clear hdep
      refine wanted_row 15 true rfl 38 rfl (by assumption) 23 _ rfl (w.heap.size) (by simp [Act.eval, c3]) 23 (tl t) (0, 0) _ (heap_on hb.bel hg) Try.underlying23 rfl (talIk ht) ?_
      exact hK _ _ rfl (Below.refl _ _)
    · intro a w' hb hdep K hK
      have c5 := hb.at 1 5 _ rfl
      obtain ⟨v15, e15, j15⟩ := hdep 15 (by kernel_rfl)
      replace e15 : a.tmps[38]? = some v15 := e15
      obtain rfl : v15 = _ := j15
      clear hdep
      refine wanted_row 15 true rfl 38 rfl (by assumption) 25 _ rfl (w.heap.size + 1) (by simp [Act.eval, c5]) 25 (lg l) (0, 0) _ (heap_on hb.bel hm) Try.underlying25 rfl (lngIk hl) ?_
      exact hK _ _ rfl (Below.refl _ _)
    · intro a w' hb hdep K hK
      obtain ⟨v19, e19, j19⟩ := hdep 19 (by kernel_rfl)
      replace e19 : a.tmps[42]? = some v19 := e19
      obtain rfl : v19 = _ := j19
      obtain ⟨v20, e20, j20⟩ := hdep 20 (by kernel_rfl)
      replace e20 : a.tmps[43]? = some v20 := e20
      obtain rfl : v20 = _ := j20
      obtain ⟨v15, e15, j15⟩ := hdep 15 (by kernel_rfl)
      replace e15 : a.tmps[38]? = some v15 := e15
      obtain rfl : v15 = _ := j15
      clear hdep
      go_simp
      go_at_call 14
      refine (HRT.out w').mono ?_
      rintro e w20 ⟨rfl, hb20⟩
      exact hK _ _ rfl hb20
    · intro a w' hb hdep K hK
      obtain ⟨v18, e18, j18⟩ := hdep 18 (by kernel_rfl)
      replace e18 : a.tmps[41]? = some v18 := e18
      obtain rfl : v18 = _ := j18
      obtain ⟨v21, e21, j21⟩ := hdep 21 (by kernel_rfl)
      replace e21 : a.tmps[44]? = some v21 := e21
      obtain rfl : v21 = _ := j21
      obtain ⟨v15, e15, j15⟩ := hdep 15 (by kernel_rfl)
      replace e15 : a.tmps[38]? = some v15 := e15
      obtain rfl : v15 = _ := j15
      clear hdep
      go_simp
      exact hK _ _ rfl (Below.refl _ _)
    · intro a w' hb hdep K hK
      obtain ⟨v15, e15, j15⟩ := hdep 15 (by kernel_rfl)
      replace e15 : a.tmps[38]? = some v15 := e15
      obtain rfl : v15 = _ := j15
      obtain ⟨v22, e22, j22⟩ := hdep 22 (by kernel_rfl)
      replace e22 : a.tmps[45]? = some v22 := e22
      obtain rfl : v22 = _ := j22
      clear hdep
      go_simp
      exact hK _ _ rfl (Below.refl _ _)
    · intro a w' hb hdep K hK
      obtain ⟨v23, e23, j23⟩ := hdep 23 (by kernel_rfl)
      replace e23 : a.tmps[46]? = some v23 := e23
      obtain rfl : v23 = _ := j23
      clear hdep
      go_simp
      exact hK _ _ rfl (Below.refl _ _)
    · intro a w' hb hdep K hK
      have c3 := hb.at 0 3 _ rfl
      obtain ⟨v24, e24, j24⟩ := hdep 24 (by kernel_rfl)
      replace e24 : a.tmps[47]? = some v24 := e24
      obtain rfl : v24 = _ := j24
      clear hdep
      refine wanted_row 24 true rfl 47 rfl (by assumption) 23 _ rfl (w.heap.size) (by simp [Act.eval, c3]) 23 (tl t) (0, 0) _ (heap_on hb.bel hg) Try.underlying23 rfl (talIk ht) ?_
      exact hK _ _ rfl (Below.refl _ _)
    · intro a w' hb hdep K hK
      obtain ⟨v25, e25, j25⟩ := hdep 25 (by kernel_rfl)
      replace e25 : a.tmps[48]? = some v25 := e25
      obtain rfl : v25 = _ := j25
      obtain ⟨v24, e24, j24⟩ := hdep 24 (by kernel_rfl)
      replace e24 : a.tmps[47]? = some v24 := e24
      obtain rfl : v24 = _ := j24
      clear hdep
      go_simp
      go_at_call 15
      refine (HVC.out w').mono ?_
      rintro e w20 ⟨rfl, hb20⟩
      exact hK _ _ rfl hb20
    · intro a w' hb hdep K hK
      have c3 := hb.at 0 3 _ rfl
      obtain ⟨v24, e24, j24⟩ := hdep 24 (by kernel_rfl)
      replace e24 : a.tmps[47]? = some v24 := e24
      obtain rfl : v24 = _ := j24
      clear hdep
      refine wanted_row 24 true rfl 47 rfl (by assumption) 23 _ rfl (w.heap.size) (by simp [Act.eval, c3]) 23 (tl t) (0, 0) _ (heap_on hb.bel hg) Try.underlying23 rfl (talIk ht) ?_
      exact hK _ _ rfl (Below.refl _ _)
    · intro a w' hb hdep K hK
      obtain ⟨v27, e27, j27⟩ := hdep 27 (by kernel_rfl)
      replace e27 : a.tmps[50]? = some v27 := e27
      obtain rfl : v27 = _ := j27
      obtain ⟨v24, e24, j24⟩ := hdep 24 (by kernel_rfl)
      replace e24 : a.tmps[47]? = some v24 := e24
      obtain rfl : v24 = _ := j24
      clear hdep
      go_simp
      go_at_call 16
      refine (HRV.out w').mono ?_
      rintro e w20 ⟨rfl, hb20⟩
      exact hK _ _ rfl hb20
    · intro a w' hb hdep K hK
      obtain ⟨v26, e26, j26⟩ := hdep 26 (by kernel_rfl)
      replace e26 : a.tmps[49]? = some v26 := e26
      obtain rfl : v26 = _ := j26
      obtain ⟨v28, e28, j28⟩ := hdep 28 (by kernel_rfl)
      replace e28 : a.tmps[51]? = some v28 := e28
      obtain rfl : v28 = _ := j28
      obtain ⟨v24, e24, j24⟩ := hdep 24 (by kernel_rfl)
      replace e24 : a.tmps[47]? = some v24 := e24
      obtain rfl : v24 = _ := j24
      clear hdep
      go_simp
      exact hK _ _ rfl (Below.refl _ _)
    · intro a w' hb hdep K hK
      obtain ⟨v24, e24, j24⟩ := hdep 24 (by kernel_rfl)
      replace e24 : a.tmps[47]? = some v24 := e24
      obtain rfl : v24 = _ := j24
      obtain ⟨v29, e29, j29⟩ := hdep 29 (by kernel_rfl)
      replace e29 : a.tmps[52]? = some v29 := e29
      obtain rfl : v29 = _ := j29
      clear hdep
      go_simp
      exact hK _ _ rfl (Below.refl _ _)
    · intro a w' hb hdep K hK
      obtain ⟨v30, e30, j30⟩ := hdep 30 (by kernel_rfl)
      replace e30 : a.tmps[53]? = some v30 := e30
      obtain rfl : v30 = _ := j30
      clear hdep
      go_simp
      exact hK _ _ rfl (Below.refl _ _)
    · intro a w' hb hdep K hK
      obtain ⟨v31, e31, j31⟩ := hdep 31 (by kernel_rfl)
      replace e31 : a.tmps[54]? = some v31 := e31
      obtain rfl : v31 = _ := j31
      clear hdep
      go_simp
      go_at_call 17
      refine (wakes_call w').mono ?_
      rintro e w20 ⟨rfl, hb20⟩
      exact hK _ _ rfl hb20
    · intro a w' hb hdep K hK
      obtain ⟨v31, e31, j31⟩ := hdep 31 (by kernel_rfl)
      replace e31 : a.tmps[54]? = some v31 := e31
      obtain rfl : v31 = _ := j31
      obtain ⟨v32, e32, j32⟩ := hdep 32 (by kernel_rfl)
      replace e32 : a.tmps[55]? = some v32 := e32
      obtain rfl : v32 = _ := j32
      clear hdep
      go_simp
      exact hK _ _ rfl (Below.refl _ _)
    · intro a w' hb hdep K hK
      obtain ⟨v33, e33, j33⟩ := hdep 33 (by kernel_rfl)
      replace e33 : a.tmps[56]? = some v33 := e33
      obtain rfl : v33 = _ := j33
      clear hdep
      go_simp
      exact hK _ _ rfl (Below.refl _ _)
  · intro vs w' hvl hall hb
    obtain ⟨v0, vs0, rfl, hvl0⟩ := lcons7 hvl
    obtain ⟨v1, vs1, rfl, hvl1⟩ := lcons7 hvl0
    obtain ⟨v2, vs2, rfl, hvl2⟩ := lcons7 hvl1
    obtain ⟨v3, vs3, rfl, hvl3⟩ := lcons7 hvl2
    obtain ⟨v4, vs4, rfl, hvl4⟩ := lcons7 hvl3
    obtain ⟨v5, vs5, rfl, hvl5⟩ := lcons7 hvl4
    obtain ⟨v6, vs6, rfl, hvl6⟩ := lcons7 hvl5
    obtain ⟨v7, vs7, rfl, hvl7⟩ := lcons7 hvl6
    obtain ⟨v8, vs8, rfl, hvl8⟩ := lcons7 hvl7
    obtain ⟨v9, vs9, rfl, hvl9⟩ := lcons7 hvl8
    obtain ⟨v10, vs10, rfl, hvl10⟩ := lcons7 hvl9
    obtain ⟨v11, vs11, rfl, hvl11⟩ := lcons7 hvl10
    obtain ⟨v12, vs12, rfl, hvl12⟩ := lcons7 hvl11
    obtain ⟨v13, vs13, rfl, hvl13⟩ := lcons7 hvl12
    obtain ⟨v14, vs14, rfl, hvl14⟩ := lcons7 hvl13
    obtain ⟨v15, vs15, rfl, hvl15⟩ := lcons7 hvl14
    obtain ⟨v16, vs16, rfl, hvl16⟩ := lcons7 hvl15
    obtain ⟨v17, vs17, rfl, hvl17⟩ := lcons7 hvl16
    obtain ⟨v18, vs18, rfl, hvl18⟩ := lcons7 hvl17
    obtain ⟨v19, vs19, rfl, hvl19⟩ := lcons7 hvl18
    obtain ⟨v20, vs20, rfl, hvl20⟩ := lcons7 hvl19
    obtain ⟨v21, vs21, rfl, hvl21⟩ := lcons7 hvl20
    obtain ⟨v22, vs22, rfl, hvl22⟩ := lcons7 hvl21
    obtain ⟨v23, vs23, rfl, hvl23⟩ := lcons7 hvl22
    obtain ⟨v24, vs24, rfl, hvl24⟩ := lcons7 hvl23
    obtain ⟨v25, vs25, rfl, hvl25⟩ := lcons7 hvl24
    obtain ⟨v26, vs26, rfl, hvl26⟩ := lcons7 hvl25
    obtain ⟨v27, vs27, rfl, hvl27⟩ := lcons7 hvl26
    obtain ⟨v28, vs28, rfl, hvl28⟩ := lcons7 hvl27
    obtain ⟨v29, vs29, rfl, hvl29⟩ := lcons7 hvl28
    obtain ⟨v30, vs30, rfl, hvl30⟩ := lcons7 hvl29
    obtain ⟨v31, vs31, rfl, hvl31⟩ := lcons7 hvl30
    obtain ⟨v32, vs32, rfl, hvl32⟩ := lcons7 hvl31
    obtain ⟨v33, vs33, rfl, hvl33⟩ := lcons7 hvl32
    obtain ⟨v34, vs34, rfl, hvl34⟩ := lcons7 hvl33
    obtain rfl := List.eq_nil_of_length_eq_zero hvl34
    obtain rfl : v0 = _ := hall 0 (by decide)
    obtain rfl : v1 = _ := hall 1 (by decide)
    obtain rfl : v2 = _ := hall 2 (by decide)
    obtain rfl : v3 = _ := hall 3 (by decide)
    obtain rfl : v4 = _ := hall 4 (by decide)
    obtain rfl : v5 = _ := hall 5 (by decide)
    obtain rfl : v6 = _ := hall 6 (by decide)
    obtain rfl : v7 = _ := hall 7 (by decide)
    obtain rfl : v8 = _ := hall 8 (by decide)
    obtain rfl : v9 = _ := hall 9 (by decide)
    have hj10 := hall 10 (by decide)
    obtain rfl : v11 = _ := hall 11 (by decide)
    have hj12 := hall 12 (by decide)
    obtain rfl : v13 = _ := hall 13 (by decide)
    obtain rfl : v14 = _ := hall 14 (by decide)
    obtain rfl : v15 = _ := hall 15 (by decide)
    obtain rfl : v16 = _ := hall 16 (by decide)
    obtain rfl : v17 = _ := hall 17 (by decide)
    obtain rfl : v18 = _ := hall 18 (by decide)
    obtain rfl : v19 = _ := hall 19 (by decide)
    obtain rfl : v20 = _ := hall 20 (by decide)
    obtain rfl : v21 = _ := hall 21 (by decide)
    obtain rfl : v22 = _ := hall 22 (by decide)
    obtain rfl : v23 = _ := hall 23 (by decide)
    obtain rfl : v24 = _ := hall 24 (by decide)
    obtain rfl : v25 = _ := hall 25 (by decide)
    obtain rfl : v26 = _ := hall 26 (by decide)
    obtain rfl : v27 = _ := hall 27 (by decide)
    obtain rfl : v28 = _ := hall 28 (by decide)
    obtain rfl : v29 = _ := hall 29 (by decide)
    obtain rfl : v30 = _ := hall 30 (by decide)
    obtain rfl : v31 = _ := hall 31 (by decide)
    obtain rfl : v32 = _ := hall 32 (by decide)
    obtain rfl : v33 = _ := hall 33 (by decide)
    obtain rfl : v34 = _ := hall 34 (by decide)
    simp only [putAll, List.setIfInBounds_toArray, List.set_cons_zero, List.set_cons_succ]
    have HBF := Lib.hid (HBL.out.trans (hb.mono HBL.out.size))
    clear hb
    go_wp2
    go_ret
    exact ⟨rfl, HBF.out⟩
end Go.Proofs.Ytemjlmeakkknbaa
