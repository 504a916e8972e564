/- Package histogram and its reference: bounded, Valid, Sum. -/
import Derived.Test.YtcekjibkifdchaaTal
import Derived.Test.YtcekjibkifdchaaAny
import Derived.RegionTactic
import Derived.Deep.RegionHeld3
import Derived.Deep.DeepMust
import Derived.Deep.CutBlock
import Derived.Deep.DeepCutAuto
import Derived.Lib.SmallJoins
set_option linter.unusedVariables false
set_option linter.unusedSimpArgs false
namespace Go.Proofs.Ytcekjibkifdchaa
open Go.RowKit

/-- The nearest frequency that is allowed. -/
def clp (z : Int) : Int := min (max z 0) 2147483647
/-- The first k are moved. -/
def bndL (l : List Int) (k : Nat) : List Int := (l.take k).map clp ++ l.drop k
theorem bndL_length (l : List Int) (k : Nat) : (bndL l k).length = l.length := by
  simp only [bndL, List.length_append, List.length_map, List.length_take, List.length_drop]
  omega
theorem bndL_zero (l : List Int) : bndL l 0 = l := by simp [bndL]
theorem bndL_all {l : List Int} (k : Nat) (h : l.length ≤ k) : bndL l k = l.map clp := by simp [bndL, List.take_of_length_le h, List.drop_of_length_le h]
theorem bndL_step (l : List Int) (k : Nat) (h : k < l.length) : (bndL l k).set k (clp (l.getD k 0)) = bndL l (k + 1) := by
  have hd : l.drop k = l[k] :: l.drop (k + 1) := List.drop_eq_getElem_cons h
  have hg : l.getD k 0 = l[k] := by simp [List.getD_eq_getElem?_getD, h]
  have ht : l.take (k + 1) = l.take k ++ [l[k]] := by rw [List.take_add_one, List.getElem?_eq_getElem h]; rfl
  unfold bndL
  have hn : ((l.take k).map clp).length = k := by rw [List.length_map, List.length_take]; omega
  rw [hg, ht, List.map_append, List.set_append_right _ _ (by rw [hn]; exact Nat.le_refl _), hn, Nat.sub_self, hd, List.set_cons_zero, List.map_singleton, List.append_assoc]
  rfl
theorem clp_wf (z : Int) : (Lit.int .i64 (clp z)).wf = true := by
  have : 0 ≤ clp z ∧ clp z ≤ 2147483647 := by unfold clp; omega
  exact WalkArith.wf_i64 ⟨by omega, by omega⟩
theorem bndL_tal {l : List Int} (h : Tal l) (k : Nat) : Tal (bndL l k) := by
  refine ⟨(bndL_length l k).trans h.1, fun z hz => ?_⟩
  rcases List.mem_append.1 hz with hz | hz
  · obtain ⟨y, _, rfl⟩ := List.mem_map.1 hz
    exact clp_wf y
  · exact h.2 z (List.mem_of_mem_drop hz)
/-- A valid tally. -/
def VT (l : List Int) : Prop := ∀ z ∈ l, 0 ≤ z ∧ z ≤ 2147483647
instance (l : List Int) : Decidable (VT l) := inferInstanceAs (Decidable (∀ z ∈ l, 0 ≤ z ∧ z ≤ 2147483647))
theorem clp_eq (z : Int) : clp z = z ↔ 0 ≤ z ∧ z ≤ 2147483647 := by unfold clp; omega
theorem vt_iff (l : List Int) : l = l.map clp ↔ VT l := by
  unfold VT
  induction l with
  | nil => simp
  | cons a l ih =>
    rw [List.map_cons, List.cons.injEq, ih]
    simp only [List.mem_cons, forall_eq_or_imp, ← clp_eq]
    constructor
    · rintro ⟨h1, h2⟩; exact ⟨h1.symm, h2⟩
    · rintro ⟨h1, h2⟩; exact ⟨h1.symm, h2⟩
theorem VT.get {l : List Int} (h : VT l) (i : Nat) : 0 ≤ l.getD i 0 ∧ l.getD i 0 ≤ 2147483647 := by
  by_cases hi : i < l.length
  · have := h _ (List.getElem_mem hi)
    simpa [List.getD_eq_getElem?_getD, hi] using this
  · simp [List.getD_eq_getElem?_getD, show l.length ≤ i by omega]

theorem tl_cell {w : World} {g : Nat} {t : TypeId} {fr : Nat × Nat} {l : List Int} (hg : w.heap[g]? = some (.cells (tl l) t fr)) (h : Tal l) (i : Nat) (hi : i < 258) : w.cell? ⟨g, i, none⟩ = some (.int .i64 (l.getD i 0)) := by
  rw [cell_of_row w g i _ t fr hg, tl_get h i hi]

/-- While the frequencies are moved. -/
structure Bd (w : World) (l : List Int) (k : Nat) (wr : World) : Prop where
  box : wr.heap[w.heap.size]? = some (.cells (tl (bndL l k)) 25 (0, 0))
  res : wr.heap[w.heap.size + 1]? = some (.cells (tl zT) 25 (0, 0))
  bel : Below w.heap.size w wr
theorem Bd.start (w : World) (l : List Int) : Bd w l 0 ((w.alloc (.cells (tl l) 25)).alloc (.cells (tl zT) 25)) :=
  ⟨by rw [bndL_zero]; exact heap_alloc2_old w _ _, heap_alloc2_new w _ _, ((Below.refl _ _).alloc (Nat.le_refl _) _).alloc (by simp) _⟩
theorem Bd.set {w wr : World} {l : List Int} {k : Nat} (h : Bd w l k wr) (hk : k < l.length) : Bd w l (k + 1) (wr.setCell ⟨w.heap.size, k, none⟩ (.int .i64 (clp (l.getD k 0)))) :=
  ⟨by rw [heap_setCell_same _ _ _ _ _ _ h.box, tl_set, bndL_step l k hk], by rw [heap_setCell_other _ _ _ _ (by simp)]; exact h.res, h.bel.setCell (by simp) _⟩

set_option maxRecDepth 100000 in
set_option maxHeartbeats 1000000 in
theorem bounded_call (l : List Int) (h : Tal l) (w : World) :
    Calls Try.prog 24 #[.agg (tl l)] w fun e w' => e = .returned (.agg (tl (l.map clp))) ∧ Below w.heap.size w w' := by
  have hz := talZ
  go_enter Try.func24, Try.ntmps24
  go_wp2_with (refine wpList_load_row rfl 25 _ rfl w.heap.size rfl 25 (tl l) (0, 0) _ (heap_alloc2_old w _ _) Try.underlying25 rfl (talIk h) ?_)
  go_loopw [6] (fun i wr => ∃ k : Nat, k ≤ 258 ∧ i = .int .i64 k ∧ Bd w l k wr) (fun i _ => 258 - (intOf i).toNat)
  case atStart => exact ⟨0, by omega, rfl, Bd.start w l⟩
  case round =>
    obtain ⟨k, hk, rfl, hm⟩ := hrel
    by_cases hlt : k < 258
    · have hfz : wr.frozen? ⟨w.heap.size, k, none⟩ = false := frozen_of_row wr w.heap.size k _ _ hm.box
      have hcl := tl_cell hm.box (bndL_tal h k) k hlt
      have hix := fun w => run_index_tal w h k hlt
      have HM := Lib.hid hm
      clear hm
      go_wp2_with fail
      have hv : (if 2147483647 < (if l[k]?.getD 0 < 0 then 0 else l[k]?.getD 0) then (2147483647 : Int) else if l[k]?.getD 0 < 0 then 0 else l[k]?.getD 0) = clp (l.getD k 0) := by
        rw [List.getD_eq_getElem?_getD]
        unfold clp
        omega
      rw [hv]
      exact ⟨⟨k + 1, by omega, by go_num, HM.out.set (by rw [h.1]; exact hlt)⟩, by simp [intOf]; omega⟩
    · obtain rfl : k = 258 := by omega
      have HM := Lib.hid hm
      have he : bndL l 258 = l.map clp := bndL_all 258 (by rw [h.1]; exact Nat.le_refl _)
      have hc : Tal (l.map clp) := he ▸ bndL_tal h 258
      have hg := hm.box
      rw [he] at hg
      clear hm
      go_wp2_with (first
        | (refine wpList_load_row rfl 25 _ rfl w.heap.size rfl 25 (tl (l.map clp)) (0, 0) _ hg Try.underlying25 rfl (talIk hc) ?_)
        | (refine wpList_store_row rfl 25 _ _ rfl (w.heap.size + 1) (tl (l.map clp)) rfl rfl 25 (tl zT) HM.out.res (talIk hc) (by rw [tl_size zT_tal, tl_size hc]) (tl_all _) ?_))
      refine bodyPost_ret (v := .agg (tl (l.map clp))) ?_ rfl ⟨rfl, HM.out.bel.setRow (by omega) _⟩
      exact results_cell_row Try.results24 _ _ (w.heap.size + 1) 25 (tl (l.map clp)) (0, 0) _ rfl (setRow_heap _ _ _ _ _ _ HM.out.res) Try.underlying25 rfl (talIk hc)

set_option maxRecDepth 100000 in
set_option maxHeartbeats 1000000 in
theorem valid_call (l : List Int) (h : Tal l) (w : World) :
    Calls Try.prog 22 #[.agg (tl l)] w fun e w' => e = .returned (.bool (decide (VT l))) ∧ Below w.heap.size w w' := by
  have hc : Tal (l.map clp) := bndL_all (l := l) 258 (by rw [h.1]; exact Nat.le_refl _) ▸ bndL_tal h 258
  have hq : decide (l = l.map clp) = decide (VT l) := by
    rw [Bool.eq_iff_iff, decide_eq_true_eq, decide_eq_true_eq]
    exact vt_iff l
  go_enter Try.func22, Try.ntmps22
  go_upto_region 1 with fail
  have hg := heap_alloc_last w (.cells (tl l) 25)
  have hb1 : Below w.heap.size w (w.alloc (.cells (tl l) 25)) := (Below.refl _ _).alloc (Nat.le_refl _) _
  generalize w.alloc (.cells (tl l) 25) = w1 at hg hb1 ⊢
  -- REGION
  refine wp_region_inv (J := Js [eqv (.agg (tl l)), eqv (.agg (tl l)), eqv (.agg (tl (l.map clp))), eqv (.bool (decide (VT l))), eqv (.bool (decide (VT l)))]) (ds := [3, 4, 5, 6, 2]) (N := 7)
    (B := [(1, .pointer (some ⟨w.heap.size, 0, none⟩))]) (by kernel_rfl) (by kernel_rfl) (Js_mono ⟨eqv_mono _, eqv_mono _, eqv_mono _, eqv_mono _, eqv_mono _, trivial⟩) rfl rfl (by simp) ?_ ?_
  · refine ⟨?_, ?_, ?_, ?_, ?_, trivial⟩
    · intro a w' hb hdep K hK
      have c1 := hb.at 0 1 _ rfl
      clear hdep
      exact wp_load_row 25 _ rfl w.heap.size (by simp [Act.eval, c1]) 25 (tl l) (0, 0) _ (heap_on hb.bel hg) Try.underlying25 rfl (talIk h) (hK _ _ rfl (Below.refl _ _))
    · intro a w' hb hdep K hK
      have c1 := hb.at 0 1 _ rfl
      clear hdep
      exact wp_load_row 25 _ rfl w.heap.size (by simp [Act.eval, c1]) 25 (tl l) (0, 0) _ (heap_on hb.bel hg) Try.underlying25 rfl (talIk h) (hK _ _ rfl (Below.refl _ _))
    · intro a w' hb hdep K hK
      obtain ⟨v1, e1, j1⟩ := hdep 1 (by kernel_rfl)
      replace e1 : a.tmps[4]? = some v1 := e1
      obtain rfl : v1 = _ := j1
      clear hdep
      go_simp
      go_at_call 24
      refine (bounded_call l h w').mono ?_
      rintro e w2 ⟨rfl, hb2⟩
      go_simp
      exact hK _ _ rfl hb2
    · intro a w' hb hdep K hK
      obtain ⟨v0, e0, j0⟩ := hdep 0 (by kernel_rfl)
      replace e0 : a.tmps[3]? = some v0 := e0
      obtain rfl : v0 = _ := j0
      obtain ⟨v2, e2, j2⟩ := hdep 2 (by kernel_rfl)
      replace e2 : a.tmps[5]? = some v2 := e2
      obtain rfl : v2 = _ := j2
      clear hdep
      have hqe := run_eqi_tal w' h hc
      rw [hq] at hqe
      go_simp
      exact hK _ _ rfl (Below.refl _ _)
    · intro a w' hb hdep K hK
      obtain ⟨v3, e3, j3⟩ := hdep 3 (by kernel_rfl)
      replace e3 : a.tmps[6]? = some v3 := e3
      obtain rfl : v3 = _ := j3
      clear hdep
      go_simp
      exact hK _ _ rfl (Below.refl _ _)
  · intro a w' hb hall
    obtain ⟨v4, h4, j4⟩ := hall 4 (by decide)
    obtain rfl : v4 = _ := j4
    have HB := Lib.hid (hb1.trans (hb.bel.mono hb1.size))
    have hd := hb.defers
    clear hall hb
    go_wp2
    replace h4 : a.tmps[2]? = some (.bool (decide (VT l))) := h4
    exact bodyPost_ret (v := .bool (decide (VT l))) (by simp [results, Try.results22, go_sem, h4]) hd ⟨rfl, HB.out⟩
  -- END REGION
end Go.Proofs.Ytcekjibkifdchaa
