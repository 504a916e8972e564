/- What winepresslaw12.wakes calls. -/
import Derived.Test.YtbegpakjojiblabPdP
import Derived.Deep.QuietTactic
import Derived.BigQuiet
set_option linter.unusedVariables false
set_option linter.unusedSimpArgs false
namespace Go.Proofs.Ytbegpakjojiblab
open Go.RowKit

def L3 : List Int := ((zL.set 0 1).set 1 2).set 257 2
theorem L3_lng : Lng L3 := ((zL_lng.set 0 1 (by decide)).set 1 2 (by decide)).set 257 2 (by decide)
theorem take_eq_step {l m : List Int} {k : Nat} (h : l.take k = m.take k) (hk : k < l.length) (hm : k < m.length) (e : l.getD k 0 = m.getD k 0) : l.take (k + 1) = m.take (k + 1) := by
  rw [List.take_add_one, List.take_add_one, h, List.getElem?_eq_getElem hk, List.getElem?_eq_getElem hm]
  rw [List.getD_eq_getElem?_getD, List.getD_eq_getElem?_getD, List.getElem?_eq_getElem hk, List.getElem?_eq_getElem hm] at e
  simp only [Option.getD_some] at e
  rw [e]
set_option maxRecDepth 100000 in
set_option maxHeartbeats 1000000 in
theorem ints2_call (a b : Option Addr) (m n c e : Nat) (p q : List Int) (w : World) (hp : p.length = m) (hq : q.length = n) (hs : Src w .i64 a p) (ht : Src w .i64 b q) (hm : m ≤ 1000000) (hn : n ≤ 1000000) :
    Calls Try.prog 12 #[.slice a m c, .slice b n e] w fun r w' => r = .returned (.bool (decide (p = q))) ∧ Below w.heap.size w w' := by
  go_enter Try.func12, Try.ntmps12
  by_cases hmn : m = n
  · subst hmn
    go_wp2_with fail
    go_loopw [5] (fun vi wr => ∃ k : Nat, k ≤ m ∧ vi = .int .i64 k ∧ p.take k = q.take k ∧ Below w.heap.size w wr) (fun vi _ => m - (intOf vi).toNat)
    case atStart => exact ⟨0, by omega, rfl, rfl, Below.refl _ _⟩
    case round =>
      obtain ⟨k, hk, rfl, he, hb⟩ := hrel
      have HE := Lib.hid he
      have HB := Lib.hid hb
      clear he hb
      by_cases hlt : k < m
      · obtain ⟨g1, o1, rfl, h1⟩ := (hs.below HB.out).get (j := k) (by omega)
        obtain ⟨g2, o2, rfl, h2⟩ := (ht.below HB.out).get (j := k) (by omega)
        have HST := Lib.hid (take_eq_step HE.out (by omega) (by omega))
        have HNO := Lib.hid (show p = q → p.getD k 0 = q.getD k 0 from fun e => by rw [e])
        generalize p.getD k 0 = X at h1 HST HNO
        generalize q.getD k 0 = Y at h2 HST HNO
        by_cases hxy : X = Y
        · subst hxy
          go_upto_region 6 with fail
          go_quiet (fail)
          go_wp2_with fail
          exact ⟨⟨k + 1, by omega, by go_num, HST.out rfl, HB.out.drewN _⟩, by simp [intOf]; omega⟩
        · have HD := Lib.hid (show decide (p = q) = false from decide_eq_false (fun e => hxy (HNO.out e)))
          go_upto_region 6 with fail
          go_quiet (fail)
          go_wp2_with fail
          go_ret
          exact ⟨by rw [HD.out]; rfl, HB.out.drewN _⟩
      · obtain rfl : k = m := by omega
        have hpq : p = q := by
          have := HE.out
          rwa [List.take_of_length_le (by omega), List.take_of_length_le (by omega)] at this
        have HD := Lib.hid (decide_eq_true hpq)
        clear hpq
        go_wp2_with fail
        go_ret
        exact ⟨by rw [HD.out]; rfl, HB.out⟩
  · have HD := Lib.hid (show decide (p = q) = false from decide_eq_false (fun e => hmn (by rw [← hp, ← hq, e])))
    go_wp2_with fail
    go_ret
    exact ⟨by rw [HD.out]; rfl, Below.refl _ _⟩
set_option maxRecDepth 100000 in
set_option maxHeartbeats 1000000 in
theorem three_call (w : World) :
    Calls Try.prog 11 #[] w fun e w' => e = .returned (.agg (lg L3)) ∧ Below w.heap.size w w' := by
  have hzL := lngZ
  have hg := heap_alloc2_new w (.cells (lg zL) 23) (.cells (lg zL) 23)
  have hr := heap_alloc2_old w (.cells (lg zL) 23) (.cells (lg zL) 23)
  have HB := Lib.hid (show Below w.heap.size w ((w.alloc (.cells (lg zL) 23)).alloc (.cells (lg zL) 23)) from ((Below.refl _ _).alloc (Nat.le_refl _) _).alloc (by simp) _)
  go_enter Try.func11, Try.ntmps11
  go_upto_region 2 with fail
  clear hzL
  generalize (w.alloc (.cells (lg zL) 23)).alloc (.cells (lg zL) 23) = w1 at hg hr HB ⊢
  have c0 := lg_cell hg zL_lng 0 (by omega)
  have c1 := lg_cell hg zL_lng 1 (by omega)
  have c2 := lg_cell hg zL_lng 257 (by omega)
  have f0 := frozen_of_row w1 (w.heap.size + 1) 0 _ _ hg
  have f1 := frozen_of_row w1 (w.heap.size + 1) 1 _ _ hg
  have f2 := frozen_of_row w1 (w.heap.size + 1) 257 _ _ hg
  rw [zL_get] at c0 c1 c2
  have h1 : (w1.setCell ⟨w.heap.size + 1, 0, none⟩ (.int .u8 1)).heap[w.heap.size + 1]? = some (.cells (lg (zL.set 0 1)) 23 (0, 0)) := by rw [heap_setCell_same _ _ _ _ _ _ hg, lg_set]
  have h2 : ((w1.setCell ⟨w.heap.size + 1, 0, none⟩ (.int .u8 1)).setCell ⟨w.heap.size + 1, 1, none⟩ (.int .u8 2)).heap[w.heap.size + 1]? = some (.cells (lg ((zL.set 0 1).set 1 2)) 23 (0, 0)) := by rw [heap_setCell_same _ _ _ _ _ _ h1, lg_set]
  have HG := Lib.hid (show (((w1.setCell ⟨w.heap.size + 1, 0, none⟩ (.int .u8 1)).setCell ⟨w.heap.size + 1, 1, none⟩ (.int .u8 2)).setCell ⟨w.heap.size + 1, 257, none⟩ (.int .u8 2)).heap[w.heap.size + 1]? = some (.cells (lg L3) 23 (0, 0)) by rw [heap_setCell_same _ _ _ _ _ _ h2, lg_set]; rfl)
  have HR := Lib.hid (show (((w1.setCell ⟨w.heap.size + 1, 0, none⟩ (.int .u8 1)).setCell ⟨w.heap.size + 1, 1, none⟩ (.int .u8 2)).setCell ⟨w.heap.size + 1, 257, none⟩ (.int .u8 2)).heap[w.heap.size]? = some (.cells (lg zL) 23 (0, 0)) by
    rw [heap_setCell_other _ _ _ _ (by simp), heap_setCell_other _ _ _ _ (by simp), heap_setCell_other _ _ _ _ (by simp)]; exact hr)
  have HB3 := Lib.hid (((HB.out.setCell (p := ⟨w.heap.size + 1, 0, none⟩) (by simp) (.int .u8 1)).setCell (p := ⟨w.heap.size + 1, 1, none⟩) (by simp) (.int .u8 2)).setCell (p := ⟨w.heap.size + 1, 257, none⟩) (by simp) (.int .u8 2))
  clear h1 h2 hg hr HB
  go_upto_region 3 with fail
  clear c0 c1 c2 f0 f1 f2
  generalize ((w1.setCell ⟨w.heap.size + 1, 0, none⟩ (.int .u8 1)).setCell ⟨w.heap.size + 1, 1, none⟩ (.int .u8 2)).setCell ⟨w.heap.size + 1, 257, none⟩ (.int .u8 2) = w2 at HG HR HB3 ⊢
  have hg := HG.out
  have hr := HR.out
  go_wp2_with (first
    | (refine wpList_load_row rfl 23 _ rfl (w.heap.size + 1) rfl 23 (lg L3) (0, 0) _ hg Try.underlying23 rfl (lngIk L3_lng) ?_)
    | (refine wpList_store_row rfl 23 _ _ rfl w.heap.size (lg L3) rfl rfl 23 (lg zL) hr (lngIk L3_lng) (by rw [lg_size zL_lng, lg_size L3_lng]) (lg_all _) ?_))
  refine bodyPost_ret (v := .agg (lg L3)) ?_ rfl ⟨rfl, HB3.out.setRow (Nat.le_refl _) _⟩
  exact results_cell1 Try.results11 _ _ w.heap.size 23 (lg L3) (0, 0) _ rfl (setRow_heap _ _ _ _ _ _ hr) Try.underlying23 rfl (lngIk L3_lng)
theorem k_tab : tableV L3 = true ∧ tableV zL = false := by decide +kernel
theorem k_val : valC L3 1 1 = true ∧ valC L3 0 1 = false := by decide +kernel
theorem k_st : stC L3 0 0 1 = (1, 1, 0, false) ∧ stC L3 1 1 1 = (0, 0, 257, true) := by decide +kernel
theorem k_qu : quF L3 0 = (0, 1) ∧ quF L3 255 = (0, 1) ∧ quF L3 256 = (1, 2) ∧ quF L3 383 = (1, 2) ∧ quF L3 384 = (257, 2) ∧ quF L3 511 = (257, 2) := by decide +kernel
theorem k_al : alR L3 3 [1, 0, 0, 1, 1, 1] = ([1, 0, 257], 5, 0) ∧ alR L3 3 [1, 0, 0, 1] = ([], 0, 50) ∧ alR zL 0 [] = ([], 0, 2) ∧ alR L3 1 [2] = ([], 0, 2) := by decide +kernel
/-- All that wakes calls, with its lengths named. -/
theorem wk_all (CN : NewC) (CV : ValC) (CS : StpC) (CQ : QckC) (CA : AllC) : ∃ (L Z : List Int) (F Y : Nat → Int × Int), Lng L ∧ Lng Z ∧ (F 0 = (0, 1) ∧ F 255 = (0, 1) ∧ F 256 = (1, 2) ∧ F 383 = (1, 2) ∧ F 384 = (257, 2) ∧ F 511 = (257, 2)) ∧
    (∀ w, Calls Try.prog 11 #[] w fun e w' => e = .returned (.agg (lg L)) ∧ Below w.heap.size w w') ∧
    (∀ (W : World), (Instr.build 23 #[]).run Try.prog W = .ok (.agg (lg Z)) W) ∧
    (∀ w, Calls Try.prog 10 #[.agg (lg L), .int .i64 3, .slice (some ⟨w.heap.size, 0, none⟩) 6 6] (w.alloc (.cells #[.int .i64 1, .int .i64 0, .int .i64 0, .int .i64 1, .int .i64 1, .int .i64 1] 3)) fun e w' => ∃ A c, e = .returned (.tuple #[.slice (ad0 A) 3 c, .int .i64 5, .int .i64 0]) ∧ Src w' .i64 (ad0 A) [1, 0, 257] ∧ Below w.heap.size w w') ∧
    (∀ w, Calls Try.prog 10 #[.agg (lg L), .int .i64 3, .slice (some ⟨w.heap.size, 0, none⟩) 4 4] (w.alloc (.cells #[.int .i64 1, .int .i64 0, .int .i64 0, .int .i64 1] 3)) fun e w' => ∃ A c, e = .returned (.tuple #[.slice (ad0 A) 0 c, .int .i64 0, .int .i64 50]) ∧ Below w.heap.size w w') ∧
    (∀ w, Calls Try.prog 10 #[.agg (lg Z), .int .i64 0, .slice none 0 0] w fun e w' => ∃ A c, e = .returned (.tuple #[.slice (ad0 A) 0 c, .int .i64 0, .int .i64 2]) ∧ Below w.heap.size w w') ∧
    (∀ w, Calls Try.prog 10 #[.agg (lg L), .int .i64 1, .slice (some ⟨w.heap.size, 0, none⟩) 1 1] (w.alloc (.cells #[.int .i64 2] 3)) fun e w' => ∃ A c, e = .returned (.tuple #[.slice (ad0 A) 0 c, .int .i64 0, .int .i64 2]) ∧ Below w.heap.size w w') ∧
    (∀ w, Calls Try.prog 6 #[.agg (lg L)] w fun e w' => e = .returned (.tuple #[.agg (qg F), .int .i64 0]) ∧ Below w.heap.size w w') ∧
    (∀ w, Calls Try.prog 6 #[.agg (lg Z)] w fun e w' => e = .returned (.tuple #[.agg (qg Y), .int .i64 2]) ∧ Below w.heap.size w w') ∧
    (∀ w, Calls Try.prog 7 #[.agg (lg L)] w fun e w' => e = .returned (.tuple #[.agg (sg L 0 0), .int .i64 0]) ∧ Below w.heap.size w w') ∧
    (∀ w, Calls Try.prog 7 #[.agg (lg Z)] w fun e w' => e = .returned (.tuple #[.agg (sg Z 0 0), .int .i64 2]) ∧ Below w.heap.size w w') ∧
    (∀ w, Calls Try.prog 8 #[.agg (sg L 0 0), .int .i64 1] w fun e w' => e = .returned (.tuple #[.agg (sg L 1 1), .int .i64 0, .bool false]) ∧ Below w.heap.size w w') ∧
    (∀ w, Calls Try.prog 8 #[.agg (sg L 1 1), .int .i64 1] w fun e w' => e = .returned (.tuple #[.agg (sg L 0 0), .int .i64 257, .bool true]) ∧ Below w.heap.size w w') ∧
    (∀ w, Calls Try.prog 13 #[.agg (sg L 1 1)] w fun e w' => e = .returned (.bool true) ∧ Below w.heap.size w w') ∧
    (∀ w, Calls Try.prog 13 #[.agg (sg L 0 1)] w fun e w' => e = .returned (.bool false) ∧ Below w.heap.size w w') ∧
    (∀ w, (zeroValue 34).run Try.prog w = .ok (.agg (sg Z 0 0)) w) ∧ (∀ w, (zeroValue 29).run Try.prog w = .ok (.agg (qg Y)) w) := by
  have h := L3_lng
  have al := fun (w : World) (ob : Obj) => (Below.refl w.heap.size w).alloc (Nat.le_refl _) ob
  refine ⟨L3, zL, quF L3, zQ, h, zL_lng, k_qu, three_call, fun W => ?_, fun w => ?_, fun w => ?_, fun w => ?_, fun w => ?_, fun w => ?_, fun w => ?_, fun w => ?_, fun w => ?_, fun w => ?_, fun w => ?_, fun w => ?_, fun w => ?_, stZ, qgZ⟩
  · refine run_build W _ _ _ ?_
    have hi : (Try.prog.info? 23).map (fun i => (i.zero, i.size)) = some (some (.agg (lg zL)), 258) := by kernel_rfl
    unfold Program.built
    rw [Try.underlying23]
    cases hq : Try.prog.info? 23 with
    | none => rw [hq] at hi; cases hi
    | some it =>
      rw [hq] at hi
      injection hi with hi
      injection hi with hz _
      simp [hz, Value.cells]
      first | done | rfl | trivial
  · refine (CA L3 h 3 (by decide) (some ⟨w.heap.size, 0, none⟩) 6 6 [1, 0, 0, 1, 1, 1] rfl (by decide) _ (Src.whole (l := [1, 0, 0, 1, 1, 1]) (heap_alloc_last w _))).mono ?_
    rintro e w' ⟨A, c, rfl, hs, hb⟩
    rw [k_al.1] at *
    exact ⟨A, c, rfl, hs, (al w _).trans (hb.mono (al w _).size)⟩
  · refine (CA L3 h 3 (by decide) (some ⟨w.heap.size, 0, none⟩) 4 4 [1, 0, 0, 1] rfl (by decide) _ (Src.whole (l := [1, 0, 0, 1]) (heap_alloc_last w _))).mono ?_
    rintro e w' ⟨A, c, rfl, hs, hb⟩
    rw [k_al.2.1] at *
    exact ⟨A, c, rfl, (al w _).trans (hb.mono (al w _).size)⟩
  · refine (CA zL zL_lng 0 (by decide) none 0 0 [] rfl (by decide) w (.inl rfl)).mono ?_
    rintro e w' ⟨A, c, rfl, hs, hb⟩
    rw [k_al.2.2.1] at *
    exact ⟨A, c, rfl, hb⟩
  · refine (CA L3 h 1 (by decide) (some ⟨w.heap.size, 0, none⟩) 1 1 [2] rfl (by decide) _ (Src.whole (l := [2]) (heap_alloc_last w _))).mono ?_
    rintro e w' ⟨A, c, rfl, hs, hb⟩
    rw [k_al.2.2.2] at *
    exact ⟨A, c, rfl, (al w _).trans (hb.mono (al w _).size)⟩
  · have := CQ L3 h w
    rw [k_tab.1, if_pos rfl, if_pos rfl] at this
    exact this
  · have := CQ zL zL_lng w
    rw [k_tab.2, if_neg Bool.false_ne_true, if_neg Bool.false_ne_true] at this
    exact this
  · have := CN L3 h w
    rw [k_tab.1] at this
    exact this
  · have := CN zL zL_lng w
    rw [k_tab.2] at this
    exact this
  · have := CS L3 h 0 0 1 (by decide) (by decide) (by decide) w
    rw [k_st.1] at this
    exact this
  · have := CS L3 h 1 1 1 (by decide) (by decide) (by decide) w
    rw [k_st.2] at this
    exact this
  · have := CV L3 h 1 1 (by decide) (by decide) w
    rw [k_val.1] at this
    exact this
  · have := CV L3 h 0 1 (by decide) (by decide) w
    rw [k_val.2] at this
    exact this
end Go.Proofs.Ytbegpakjojiblab
