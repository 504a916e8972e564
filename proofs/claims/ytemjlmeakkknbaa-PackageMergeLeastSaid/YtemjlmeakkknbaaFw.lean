/- few. -/
import Derived.Test.YtemjlmeakkknbaaLe5
set_option linter.unusedVariables false
set_option linter.unusedSimpArgs false
namespace Go.Proofs.Ytemjlmeakkknbaa
open Go.RowKit

theorem results_cell_tmp2 {P : Program} {fn : Func} {p q r : Tmp} {ty : TypeId} (h : fn.results = #[.cell p ty, .tmp q, .tmp r]) (tmps : Array Value) (w : World) (g : Nat) (t : TypeId) (cs : Array Value) (fr : Nat × Nat) (d : TypeDesc) (v u : Value)
    (hp : tmps.getD p undef = .pointer (some ⟨g, 0, none⟩)) (hq : tmps.getD q undef = v) (hr : tmps.getD r undef = u) (hg : w.heap[g]? = some (.cells cs t fr))
    (hu : P.underlying ty = some d) (hd : (match d with | .struct _ | .array _ _ => true | _ => false) = true) (hi : (P.info? ty).map (·.size) = some cs.size) :
    (results fn tmps).run P w = .ok (.tuple #[.agg cs, v, u]) w := by
  have hp' : tmps[p]?.getD undef = .pointer (some ⟨g, 0, none⟩) := by simpa using hp
  have hq' : tmps[q]?.getD undef = v := by simpa using hq
  have hr' : tmps[r]?.getD undef = u := by simpa using hr
  simp [results, h, hp', hq', hr', asAddr, run_loadVar_row w g t ty cs fr d hg hu hd hi]
/-- While the counts are laid. -/
structure Fw (w : World) (q T : List Int) (k : Nat) (wr : World) : Prop where
  few : Few q T k
  bd : ∀ i, i < k → 0 ≤ q.getD i 0 ∧ q.getD i 0 ≤ 2147483647
  res : wr.heap[w.heap.size]? = some (.cells (tl zT) 23 (0, 0))
  box : wr.heap[w.heap.size + 1]? = some (.cells (tl T) 23 (0, 0))
  bel : Below w.heap.size w wr
theorem Fw.step {w wr : World} {q T : List Int} {k : Nat} (h : Fw w q T k wr) (hk : k < 5) (h0 : 0 ≤ q.getD k 0 ∧ q.getD k 0 ≤ 2147483647) : Fw w q (T.set (51 * k) (q.getD k 0)) (k + 1) (wr.setCell ⟨w.heap.size + 1, 51 * k, none⟩ (.int .i64 (q.getD k 0))) := by
  refine ⟨h.few.step hk, fun i hi => ?_, ?_, ?_, h.bel.setCell (by simp) _⟩
  · by_cases e : i = k
    · rw [e]; exact h0
    · exact h.bd i (by omega)
  · rw [heap_setCell_other _ _ _ _ (by simp)]
    exact h.res
  · rw [heap_setCell_same _ _ _ _ _ _ h.box, tl_set]
/-- What few gives. -/
def FewOk (q T : List Int) (n : Int) : Prop := ∃ m, m ≤ 5 ∧ Few q T m ∧ (∀ i, i < m → 0 ≤ q.getD i 0 ∧ q.getD i 0 ≤ 2147483647) ∧ n = cntF q m
def FewR (w : World) (q : List Int) (e : Ending) (w' : World) : Prop := ∃ T m ok, e = .returned (.tuple #[.agg (tl T), .int .i64 m, .bool ok]) ∧ Tal T ∧ (ok = true → FewOk q T m) ∧ Below w.heap.size w w'

set_option maxRecDepth 100000 in
set_option maxHeartbeats 2000000 in
theorem few_call (sp : Option Addr) (n c : Nat) (q : List Int) (hl : q.length = n) (hn63 : n ≤ 9223372036854775807) (w : World) (hs : Src w .i64 sp q) (hwf : ∀ z ∈ q, (Lit.int .i64 z).wf = true) :
    Calls Try.prog 18 #[.slice sp n c] w (FewR w q) := by
  have hz := talZ
  have HS := Lib.hid hs
  have HL := Lib.hid hl
  have HWF := Lib.hid hwf
  clear hs hl hwf
  go_enter Try.func18, Try.ntmps18
  go_wp2_with fail
  have hF0 : Fw w q zT 0 ((w.alloc (.cells (tl zT) 23)).alloc (.cells (tl zT) 23)) := ⟨Few.start q, fun i hi => by omega, heap_alloc2_old w _ _, heap_alloc2_new w _ _, ((Below.refl _ _).alloc (Nat.le_refl _) _).alloc (by simp) _⟩
  generalize (w.alloc (.cells (tl zT) 23)).alloc (.cells (tl zT) 23) = w1 at hF0 ⊢
  go_loopw [6, 7] (fun s6 s7 wr => ∃ (k : Nat) (T : List Int), k ≤ 5 ∧ k ≤ n ∧ s7 = .int .i64 k ∧ s6 = .int .i64 (cntF q k) ∧ Fw w q T k wr) (fun _ s7 _ => 5 - (intOf s7).toNat)
  case atStart => exact ⟨0, zT, by omega, by omega, rfl, rfl, hF0⟩
  case round =>
    clear hF0
    obtain ⟨k, T, hk5, hkn, rfl, rfl, hf⟩ := hrel
    have HF := Lib.hid hf
    have htal := hf.few.tal hf.bd
    have hbox := hf.box
    have hres := hf.res
    clear hf
    have hcb := cntF_bd q k
    have HCS := Lib.hid (cntF_succ q k)
    obtain ⟨C, hC⟩ : ∃ C, C = cntF q k := ⟨_, rfl⟩
    rw [← hC] at hcb HCS
    rw [← hC]
    have HCC := Lib.hid hC
    clear hC
    by_cases hlt : k < n ∧ k < 5
    · obtain ⟨h1, h5⟩ := hlt
      have h1I : (k : Int) < (n : Int) := by omega
      obtain ⟨g, o, rfl, hc⟩ := (HS.out.below HF.out.bel).get (j := k) (by rw [HL.out]; exact h1)
      have hb64 : -9223372036854775808 ≤ q.getD k 0 ∧ q.getD k 0 ≤ 9223372036854775807 := bounds_i64 (HWF.out _ (by rw [List.getD_eq_getElem?_getD, List.getElem?_eq_getElem (by rw [HL.out]; exact h1)]; exact List.getElem_mem _))
      have HST := Lib.hid (fun h0 => HF.out.step h5 h0)
      have hcT := tl_cell hbox htal (51 * k) (by omega)
      have hfT := frozen_of_row _ _ (51 * k) _ _ hbox
      generalize q.getD k 0 = V at hc hb64 HST HCS
      generalize T.getD (51 * k) 0 = Z at hcT
      have w1 : IntKind.i64.wrap ((k : Int) * 50) = (k : Int) * 50 := by rw [IntKind.wrap_i64]; omega
      have w2 : IntKind.i64.wrap ((k : Int) * 50 + k) = (k : Int) * 50 + k := by rw [IntKind.wrap_i64]; omega
      have w3 : ((k : Int) * 50 + k).toNat = 51 * k := by omega
      have w4 : (k : Int) * 50 + k < 258 := by omega
      have w5 : (0 : Int) ≤ (k : Int) * 50 + k := by omega
      have hld : ∀ wx : World, wx.heap[w.heap.size + 1]? = some (.cells (tl T) 23 (0, 0)) → True := fun _ _ => trivial
      by_cases hbad : V < 0 ∨ 2147483647 < V
      · have harm : ∀ (hv : V < 0 ∨ 2147483647 < V), True := fun _ => trivial
        rcases hbad with hv | hv
        · go_wp2_with (first
            | (refine wpList_load_row rfl 23 _ rfl (w.heap.size + 1) rfl 23 (tl T) (0, 0) _ hbox Try.underlying23 rfl (talIk htal) ?_)
            | (refine wpList_store_row rfl 23 _ _ rfl w.heap.size (tl T) rfl rfl 23 (tl zT) hres (talIk htal) (by rw [tl_size zT_tal, tl_size htal]) (tl_all _) ?_))
          refine bodyPost_ret (v := .tuple #[.agg (tl T), .int .i64 0, .bool false]) ?_ rfl ⟨T, 0, false, rfl, htal, (fun h => by cases h), HF.out.bel.setRow (Nat.le_refl _) _⟩
          exact results_cell_tmp2 Try.results18 _ _ w.heap.size 23 (tl T) (0, 0) _ _ _ rfl rfl rfl (setRow_heap _ _ _ _ _ _ hres) Try.underlying23 rfl (talIk htal)
        · have hv0 : ¬ V < 0 := by omega
          go_wp2_with (first
            | (refine wpList_load_row rfl 23 _ rfl (w.heap.size + 1) rfl 23 (tl T) (0, 0) _ hbox Try.underlying23 rfl (talIk htal) ?_)
            | (refine wpList_store_row rfl 23 _ _ rfl w.heap.size (tl T) rfl rfl 23 (tl zT) hres (talIk htal) (by rw [tl_size zT_tal, tl_size htal]) (tl_all _) ?_))
          refine bodyPost_ret (v := .tuple #[.agg (tl T), .int .i64 0, .bool false]) ?_ rfl ⟨T, 0, false, rfl, htal, (fun h => by cases h), HF.out.bel.setRow (Nat.le_refl _) _⟩
          exact results_cell_tmp2 Try.results18 _ _ w.heap.size 23 (tl T) (0, 0) _ _ _ rfl rfl rfl (setRow_heap _ _ _ _ _ _ hres) Try.underlying23 rfl (talIk htal)
      · have hv0 : ¬ V < 0 := by omega
        have hv1 : ¬ 2147483647 < V := by omega
        have hst := HST.out ⟨by omega, by omega⟩
        have HST2 := Lib.hid hst
        have hne : ¬ (g = w.heap.size + 1) := by
          obtain ⟨g', o', e, hc'⟩ := HS.out.get (j := k) (by rw [HL.out]; exact h1)
          injection e with e
          injection e with e1 e2 _
          subst e1
          have := World.block_lt_of_cell? _ _ hc'
          simp at this
          omega
        clear hst hbad
        by_cases hV0 : 0 < V
        · go_wp2_with fail
          exact ⟨⟨k + 1, _, by omega, by omega, by go_num, by rw [HCS.out, if_pos hV0], HST2.out⟩, by simp [intOf]; omega⟩
        · go_wp2_with fail
          exact ⟨⟨k + 1, _, by omega, by omega, by go_num, by rw [HCS.out, if_neg hV0, Int.add_zero], HST2.out⟩, by simp [intOf]; omega⟩
    · by_cases h1 : k < n
      · have h5 : ¬ k < 5 := fun h => hlt ⟨h1, h⟩
        obtain rfl : k = 5 := by omega
        clear hlt
        go_wp2_with (first
          | (refine wpList_load_row rfl 23 _ rfl (w.heap.size + 1) rfl 23 (tl T) (0, 0) _ hbox Try.underlying23 rfl (talIk htal) ?_)
          | (refine wpList_store_row rfl 23 _ _ rfl w.heap.size (tl T) rfl rfl 23 (tl zT) hres (talIk htal) (by rw [tl_size zT_tal, tl_size htal]) (tl_all _) ?_))
        refine bodyPost_ret (v := .tuple #[.agg (tl T), .int .i64 C, .bool true]) ?_ rfl ⟨T, C, true, rfl, htal, (fun _ => ⟨5, Nat.le_refl _, HF.out.few, HF.out.bd, HCC.out⟩), HF.out.bel.setRow (Nat.le_refl _) _⟩
        exact results_cell_tmp2 Try.results18 _ _ w.heap.size 23 (tl T) (0, 0) _ _ _ rfl rfl rfl (setRow_heap _ _ _ _ _ _ hres) Try.underlying23 rfl (talIk htal)
      · obtain rfl : k = n := by omega
        clear hlt
        go_wp2_with (first
          | (refine wpList_load_row rfl 23 _ rfl (w.heap.size + 1) rfl 23 (tl T) (0, 0) _ hbox Try.underlying23 rfl (talIk htal) ?_)
          | (refine wpList_store_row rfl 23 _ _ rfl w.heap.size (tl T) rfl rfl 23 (tl zT) hres (talIk htal) (by rw [tl_size zT_tal, tl_size htal]) (tl_all _) ?_))
        refine bodyPost_ret (v := .tuple #[.agg (tl T), .int .i64 C, .bool true]) ?_ rfl ⟨T, C, true, rfl, htal, (fun _ => ⟨k, hk5, HF.out.few, HF.out.bd, HCC.out⟩), HF.out.bel.setRow (Nat.le_refl _) _⟩
        exact results_cell_tmp2 Try.results18 _ _ w.heap.size 23 (tl T) (0, 0) _ _ _ rfl rfl rfl (setRow_heap _ _ _ _ _ _ hres) Try.underlying23 rfl (talIk htal)
end Go.Proofs.Ytemjlmeakkknbaa
