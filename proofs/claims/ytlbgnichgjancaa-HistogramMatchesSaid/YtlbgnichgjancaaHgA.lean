/- Add and Of, both. -/
import Derived.Test.YtlbgnichgjancaaHgU
import Derived.Test.YtlbgnichgjancaaHgM
set_option linter.unusedVariables false
set_option linter.unusedSimpArgs false
namespace Go.Proofs.Ytlbgnichgjancaa
open Go.RowKit

/-- A whole row and a slot as the results. -/
theorem results_cell_tmp {P : Program} {fn : Func} {p q : Tmp} {ty : TypeId} (h : fn.results = #[.cell p ty, .tmp q]) (tmps : Array Value) (w : World) (g : Nat) (t : TypeId) (cs : Array Value) (fr : Nat × Nat) (d : TypeDesc) (v : Value)
    (hp : tmps.getD p undef = .pointer (some ⟨g, 0, none⟩)) (hq : tmps.getD q undef = v) (hg : w.heap[g]? = some (.cells cs t fr))
    (hu : P.underlying ty = some d) (hd : (match d with | .struct _ | .array _ _ => true | _ => false) = true) (hi : (P.info? ty).map (·.size) = some cs.size) :
    (results fn tmps).run P w = .ok (.tuple #[.agg cs, v]) w := by
  have hp' : tmps[p]?.getD undef = .pointer (some ⟨g, 0, none⟩) := by simpa using hp
  have hq' : tmps[q]?.getD undef = v := by simpa using hq
  simp [results, h, hp', hq', asAddr, run_loadVar_row w g t ty cs fr d hg hu hd hi]
theorem Src.get {w : World} {k : IntKind} {sp : Option Addr} {l : List Int} (h : Src w k sp l) {j : Nat} (hj : j < l.length) : ∃ g o, sp = some ⟨g, o, none⟩ ∧ w.cell? ⟨g, o + j, none⟩ = some (.int k (l.getD j 0)) := by
  rcases h with rfl | ⟨g, o, hx, hc⟩
  · simp at hj
  · exact ⟨g, o, hx, hc j hj⟩

/-- While symbols are added. -/
structure Ad (w : World) (l q : List Int) (g k : Nat) (wr : World) : Prop where
  box : wr.heap[w.heap.size]? = some (.cells (tl l) 23 (0, 0))
  res : wr.heap[w.heap.size + 1]? = some (.cells (tl zT) 23 (0, 0))
  own : wr.heap[g]? = some (.cells (tl (addN l (q.take k))) 23 (0, 0))
  gt : w.heap.size + 1 < g
  bel : Below w.heap.size w wr
theorem Ad.step {w wr : World} {l q : List Int} {g k : Nat} (h : Ad w l q g k wr) (hk : k < q.length) (s : Nat) (hs : q.getD k 0 = s) :
    Ad w l q g (k + 1) (wr.setCell ⟨g, s, none⟩ (.int .i64 ((addN l (q.take k)).getD s 0 + 1))) := by
  have hgt := h.gt
  refine ⟨by rw [heap_setCell_other _ _ _ _ (by simp; omega)]; exact h.box, by rw [heap_setCell_other _ _ _ _ (by simp; omega)]; exact h.res, ?_, hgt, h.bel.setCell (by simp; omega) _⟩
  rw [heap_setCell_same _ _ _ _ _ _ h.own, tl_set, addN_step l q k hk, hs]
  rfl

set_option maxRecDepth 100000 in
set_option maxHeartbeats 2000000 in
theorem add_call (l : List Int) (h : Tal l) (sp : Option Addr) (n c : Nat) (q : List Int) (w : World) (hl : q.length = n) (hs : Src w .i64 sp q) (hm : n ≤ 1000000) :
    Calls Try.prog 10 #[.agg (tl l), .slice sp n c] w fun e w' => e = .returned (.tuple #[.agg (tl (addV l q)), .int .i64 (addE l q)]) ∧ Below w.heap.size w w' := by
  have hz := talZ
  go_enter Try.func10, Try.ntmps10
  go_upto_region 1 with fail
  have hg := heap_alloc2_old w (.cells (tl l) 23) (.cells (tl zT) 23)
  have hr := heap_alloc2_new w (.cells (tl l) 23) (.cells (tl zT) 23)
  have hb : Below w.heap.size w ((w.alloc (.cells (tl l) 23)).alloc (.cells (tl zT) 23)) := ((Below.refl _ _).alloc (Nat.le_refl _) _).alloc (by simp) _
  generalize (w.alloc (.cells (tl l) 23)).alloc (.cells (tl zT) 23) = w1 at hg hr hb ⊢
  have HB := Lib.hid hb
  have HSR := Lib.hid hs
  clear hb hs hz
  have hvc := valid_call l h w1
  by_cases hv : VT l
  · rw [decide_eq_true hv] at hvc
    go_upto_region 4 with (first
      | (refine wpList_load_row rfl 23 _ rfl w.heap.size rfl 23 (tl l) (0, 0) _ hg Try.underlying23 rfl (talIk h) ?_)
      | (refine hvc.mono ?_; rintro e w2 ⟨rfl, hb2⟩
         have hg2 := heap_on hb2 hg
         have hr2 := heap_on hb2 hr
         have HB2 := Lib.hid (HB.out.trans (hb2.mono HB.out.size))
         have hz := talZ
         clear hb2 hg hr)
      | (refine wpList_load_row rfl 23 _ rfl w.heap.size rfl 23 (tl l) (0, 0) _ hg2 Try.underlying23 rfl (talIk h) ?_)
      | (refine wpList_store_row rfl 23 _ _ rfl w2.heap.size (tl l) rfl rfl 23 (tl zT) (heap_alloc_last w2 _) (talIk h) (by rw [tl_size zT_tal, tl_size h]) (tl_all _) ?_))
    rw [World.setRow_alloc_new]
    have hA : Ad w l q w2.heap.size 0 (w2.alloc (.cells (tl l) 23)) :=
      ⟨by rw [heap_alloc_old _ _ (Array.getElem?_eq_some_iff.1 hg2).1]; exact hg2, by rw [heap_alloc_old _ _ (Array.getElem?_eq_some_iff.1 hr2).1]; exact hr2, heap_alloc_last _ _, (Array.getElem?_eq_some_iff.1 hr2).1, HB2.out.alloc HB2.out.size _⟩
    have HA := Lib.hid hA
    generalize w2.alloc (.cells (tl l) 23) = w3 at HA ⊢
    obtain ⟨g, hgg⟩ : ∃ g, g = w2.heap.size := ⟨_, rfl⟩
    rw [← hgg] at HA ⊢
    clear hA hg2 hr2 HB2 hz hgg hvc
    go_wp2_with fail
    go_loopw [16] (fun i wr => ∃ k : Nat, k ≤ n ∧ i = .int .i64 k ∧ Ad w l q g k wr ∧ Sy (q.take k) ∧ VT (addN l (q.take k))) (fun i _ => n - (intOf i).toNat)
    case atStart => exact ⟨0, by omega, rfl, HA.out, by intro z hz; simp at hz, hv⟩
    case round =>
      obtain ⟨k, hk, rfl, hA, hsy, hvt⟩ := hrel
      have HA := Lib.hid hA
      have HSY := Lib.hid hsy
      have HVT := Lib.hid hvt
      have HV := Lib.hid hv
      clear hA hsy hvt hv
      by_cases hlt : k < n
      · obtain ⟨sg, so, hspe, hcell⟩ := (HSR.out.below HA.out.bel).get (j := k) (by omega)
        subst hspe
        by_cases hzr : 0 ≤ q.getD k 0 ∧ q.getD k 0 < 258
        · obtain ⟨s, hs⟩ : ∃ s : Nat, q.getD k 0 = s := ⟨(q.getD k 0).toNat, by omega⟩
          have hs258 : s < 258 := by omega
          have HT : Tal (addN l (q.take k)) := addN_tal h.1 HV.out _ (by rw [List.length_take]; omega)
          have hcl := tl_cell HA.out.own HT s hs258
          have hfz : wr.frozen? ⟨g, s, none⟩ = false := frozen_of_row wr g s _ _ HA.out.own
          have HST := Lib.hid (HA.out.step (by omega) s hs)
          have HF := Lib.hid (addOk_full (l := l) (q := q) h.1 k (by omega) hzr)
          have HSY2 := Lib.hid (sy_step (k := k) (by omega) HSY.out hzr)
          have HVT2 := Lib.hid (vt_step (l := l) (q := q) (k := k) (by omega) HVT.out)
          have hbd := HVT.out.get s
          rw [hs] at hcell HF HVT2
          rw [Int.toNat_natCast] at HF HVT2
          clear hs hzr HT
          generalize (addN l (q.take k)).getD s 0 = F at hcl HST HF HVT2 hbd
          by_cases hF : F = 2147483647
          · obtain ⟨e1, e2⟩ := add_no (HF.out hF)
            have E1 := Lib.hid e1
            have E2 := Lib.hid e2
            subst hF
            have hbx := HA.out.box
            have hre := HA.out.res
            clear e1 e2 HST HF HVT2
            go_wp2_with (first
              | (refine wpList_load_row rfl 23 _ rfl w.heap.size rfl 23 (tl l) (0, 0) _ hbx Try.underlying23 rfl (talIk h) ?_)
              | (refine wpList_store_row rfl 23 _ _ rfl (w.heap.size + 1) (tl l) rfl rfl 23 (tl zT) hre (talIk h) (by rw [tl_size zT_tal, tl_size h]) (tl_all _) ?_))
            refine bodyPost_ret (v := .tuple #[.agg (tl l), .int .i64 2]) ?_ rfl ⟨by rw [E1.out, E2.out], HA.out.bel.setRow (by omega) _⟩
            exact results_cell_tmp Try.results10 _ _ (w.heap.size + 1) 23 (tl l) (0, 0) _ _ rfl rfl (setRow_heap _ _ _ _ _ _ hre) Try.underlying23 rfl (talIk h)
          · have hFb : (F == 2147483647) = false := by simpa using hF
            go_wp2_with fail
            exact ⟨⟨k + 1, by omega, by go_num, HST.out, HSY2.out, HVT2.out hF⟩, by simp [intOf]; omega⟩
        · obtain ⟨e1, e2⟩ := add_no (addOk_stranger (l := l) (q := q) k (by omega) (by omega))
          have E1 := Lib.hid e1
          have E2 := Lib.hid e2
          have hbx := HA.out.box
          have hre := HA.out.res
          have hzr' : q.getD k 0 < 0 ∨ 258 ≤ q.getD k 0 := by omega
          clear e1 e2 hzr
          generalize q.getD k 0 = Z at hcell hzr'
          rcases hzr' with hZ | hZ
          · go_wp2_with (first
              | (refine wpList_load_row rfl 23 _ rfl w.heap.size rfl 23 (tl l) (0, 0) _ hbx Try.underlying23 rfl (talIk h) ?_)
              | (refine wpList_store_row rfl 23 _ _ rfl (w.heap.size + 1) (tl l) rfl rfl 23 (tl zT) hre (talIk h) (by rw [tl_size zT_tal, tl_size h]) (tl_all _) ?_))
            refine bodyPost_ret (v := .tuple #[.agg (tl l), .int .i64 2]) ?_ rfl ⟨by rw [E1.out, E2.out], HA.out.bel.setRow (by omega) _⟩
            exact results_cell_tmp Try.results10 _ _ (w.heap.size + 1) 23 (tl l) (0, 0) _ _ rfl rfl (setRow_heap _ _ _ _ _ _ hre) Try.underlying23 rfl (talIk h)
          · have hZ2 : ¬ Z < 0 := by omega
            go_wp2_with (first
              | (refine wpList_load_row rfl 23 _ rfl w.heap.size rfl 23 (tl l) (0, 0) _ hbx Try.underlying23 rfl (talIk h) ?_)
              | (refine wpList_store_row rfl 23 _ _ rfl (w.heap.size + 1) (tl l) rfl rfl 23 (tl zT) hre (talIk h) (by rw [tl_size zT_tal, tl_size h]) (tl_all _) ?_))
            refine bodyPost_ret (v := .tuple #[.agg (tl l), .int .i64 2]) ?_ rfl ⟨by rw [E1.out, E2.out], HA.out.bel.setRow (by omega) _⟩
            exact results_cell_tmp Try.results10 _ _ (w.heap.size + 1) 23 (tl l) (0, 0) _ _ rfl rfl (setRow_heap _ _ _ _ _ _ hre) Try.underlying23 rfl (talIk h)
      · obtain rfl : k = n := by omega
        have htk : q.take k = q := List.take_of_length_le (by omega)
        rw [htk] at HSY HVT
        obtain ⟨e1, e2⟩ := add_yes (show addOk l q from ⟨HV.out, HSY.out, HVT.out⟩)
        have hT := addN_tal h.1 HV.out q (by omega)
        have E1 := Lib.hid e1
        have E2 := Lib.hid e2
        have hre := HA.out.res
        have how := HA.out.own
        rw [htk] at how
        clear e1 e2 htk
        generalize addN l q = L at how hT E1
        go_wp2_with (first
          | (refine wpList_load_row rfl 23 _ rfl g rfl 23 (tl L) (0, 0) _ how Try.underlying23 rfl (talIk hT) ?_)
          | (refine wpList_store_row rfl 23 _ _ rfl (w.heap.size + 1) (tl L) rfl rfl 23 (tl zT) hre (talIk hT) (by rw [tl_size zT_tal, tl_size hT]) (tl_all _) ?_))
        refine bodyPost_ret (v := .tuple #[.agg (tl L), .int .i64 0]) ?_ rfl ⟨by rw [E1.out, E2.out], HA.out.bel.setRow (by omega) _⟩
        exact results_cell_tmp Try.results10 _ _ (w.heap.size + 1) 23 (tl L) (0, 0) _ _ rfl rfl (setRow_heap _ _ _ _ _ _ hre) Try.underlying23 rfl (talIk hT)
  · rw [decide_eq_false hv] at hvc
    obtain ⟨e1, e2⟩ := add_no (show ¬ addOk l q from fun ho => hv ho.1)
    have E1 := Lib.hid e1
    have E2 := Lib.hid e2
    clear e1 e2
    go_wp2_with (first
      | (refine wpList_load_row rfl 23 _ rfl w.heap.size rfl 23 (tl l) (0, 0) _ hg Try.underlying23 rfl (talIk h) ?_)
      | (refine hvc.mono ?_; rintro e w2 ⟨rfl, hb2⟩
         have hg2 := heap_on hb2 hg
         have hr2 := heap_on hb2 hr
         have HB2 := Lib.hid (HB.out.trans (hb2.mono HB.out.size))
         clear hb2 hg hr)
      | (refine wpList_load_row rfl 23 _ rfl w.heap.size rfl 23 (tl l) (0, 0) _ hg2 Try.underlying23 rfl (talIk h) ?_)
      | (refine wpList_store_row rfl 23 _ _ rfl (w.heap.size + 1) (tl l) rfl rfl 23 (tl zT) hr2 (talIk h) (by rw [tl_size zT_tal, tl_size h]) (tl_all _) ?_))
    refine bodyPost_ret (v := .tuple #[.agg (tl l), .int .i64 2]) ?_ rfl ⟨by rw [E1.out, E2.out], HB2.out.setRow (by omega) _⟩
    exact results_cell_tmp Try.results10 _ _ (w.heap.size + 1) 23 (tl l) (0, 0) _ _ rfl rfl (setRow_heap _ _ _ _ _ _ hr2) Try.underlying23 rfl (talIk h)
end Go.Proofs.Ytlbgnichgjancaa
