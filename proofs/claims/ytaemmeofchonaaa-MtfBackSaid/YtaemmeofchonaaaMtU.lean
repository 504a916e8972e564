/- winepressref13.Take whole; Put; New. -/
import Derived.Test.YtaemmeofchonaaaMtS
set_option linter.unusedVariables false
set_option linter.unusedSimpArgs false
namespace Go.Proofs.Ytaemmeofchonaaa
open Go.RowKit

theorem rtake_call (l : List Int) (h : Lst l) (p : Int) (w : World) :
    Calls Try.prog 12 #[.agg (ll l), .int .i64 p] w fun e w' => e = .returned (.tuple #[.agg (ll (tkR l p).1), .int .u8 (tkR l p).2.1, .bool (tkR l p).2.2]) ∧ Below w.heap.size w w' := by
  by_cases hp : 0 ≤ p ∧ p ≤ 255
  · obtain ⟨n, rfl⟩ : ∃ n : Nat, p = (n : Int) := ⟨p.toNat, by omega⟩
    rw [show tkR l (n : Int) = (tkV l n, l.getD n 0, true) by unfold tkR; rw [if_pos hp, Int.toNat_natCast]]
    exact rtake_yes l h n (by omega) w
  · rw [show tkR l p = (l, 0, false) from if_neg hp]
    exact rtake_no l h p hp w
theorem results_cell_tmp {P : Program} {fn : Func} {p q : Tmp} {ty : TypeId} (h : fn.results = #[.cell p ty, .tmp q]) (tmps : Array Value) (w : World) (g : Nat) (t : TypeId) (cs : Array Value) (fr : Nat × Nat) (d : TypeDesc) (v : Value)
    (hp : tmps.getD p undef = .pointer (some ⟨g, 0, none⟩)) (hq : tmps.getD q undef = v) (hg : w.heap[g]? = some (.cells cs t fr))
    (hu : P.underlying ty = some d) (hd : (match d with | .struct _ | .array _ _ => true | _ => false) = true) (hi : (P.info? ty).map (·.size) = some cs.size) :
    (results fn tmps).run P w = .ok (.tuple #[.agg cs, v]) w := by
  have hp' : tmps[p]?.getD undef = .pointer (some ⟨g, 0, none⟩) := by simpa using hp
  have hq' : tmps[q]?.getD undef = v := by simpa using hq
  simp [results, h, hp', hq', asAddr, run_loadVar_row w g t ty cs fr d hg hu hd hi]
theorem posV_more (l : List Int) (c : Int) (k : Nat) (hk : k < l.length) (hno : ∀ j, j < k → l.getD j 0 ≠ c) : (l.getD k 0 = c → posV l c = some k) := fun e => posV_first hk e hno
theorem posV_out {l : List Int} {c : Int} (hno : ∀ j, j < l.length → l.getD j 0 ≠ c) : posV l c = none := by
  rw [posV_none]
  intro hm
  obtain ⟨i, hi, e⟩ := List.getElem_of_mem hm
  exact hno i hi (by rw [List.getD_eq_getElem?_getD, List.getElem?_eq_getElem hi]; exact e)

set_option maxRecDepth 100000 in
set_option maxHeartbeats 1000000 in
theorem rput_call (l : List Int) (h : Lst l) (c : Int) (hc : 0 ≤ c ∧ c ≤ 255) (w : World) :
    Calls Try.prog 10 #[.agg (ll l), .int .u8 c] w fun e w' => e = .returned (.tuple #[.agg (ll (ptV l c).1), .int .i64 (ptV l c).2]) ∧ Below w.heap.size w w' := by
  have hz := lstZ
  have hg := heap_alloc2_old w (.cells (ll l) 23) (.cells (ll zS) 23)
  have hr := heap_alloc2_new w (.cells (ll l) 23) (.cells (ll zS) 23)
  have HB := Lib.hid (show Below w.heap.size w ((w.alloc (.cells (ll l) 23)).alloc (.cells (ll zS) 23)) from ((Below.refl _ _).alloc (Nat.le_refl _) _).alloc (by simp) _)
  have HYES := Lib.hid (fun k => posV_more l c k)
  have HPT := Lib.hid (fun k (e : posV l c = some k) => ptV_some e)
  have HNO := Lib.hid (show (∀ j, j < l.length → l.getD j 0 ≠ c) → ptV l c = (l, -1) from fun e => ptV_none (posV_out e))
  have hlen := h.1
  obtain ⟨L, P, hLP⟩ : ∃ L P, ptV l c = (L, P) := ⟨_, _, rfl⟩
  rw [hLP] at HPT HNO ⊢
  clear hLP
  go_enter Try.func10, Try.ntmps10
  go_upto_region 1 with fail
  generalize (w.alloc (.cells (ll l) 23)).alloc (.cells (ll zS) 23) = w1 at HB hg hr ⊢
  have HG := Lib.hid hg
  have HR := Lib.hid hr
  clear hg hr
  go_wp2_with fail
  go_loopw [6] (fun v wr => ∃ i : Nat, i ≤ 256 ∧ v = .int .i64 i ∧ (∀ j, j < i → l.getD j 0 ≠ c) ∧ wr.heap[w.heap.size]? = some (.cells (ll l) 23 (0, 0)) ∧ wr.heap[w.heap.size + 1]? = some (.cells (ll zS) 23 (0, 0)) ∧ Below w.heap.size w wr) (fun v _ => 256 - (intOf v).toNat)
  case atStart => exact ⟨0, by omega, rfl, fun j hj => by omega, HG.out, HR.out, HB.out⟩
  case round =>
    obtain ⟨i, hi, rfl, hno, hg, hr, hb⟩ := hrel
    clear HG HR HB
    have HG := Lib.hid hg
    have HR := Lib.hid hr
    have HB := Lib.hid hb
    have HN := Lib.hid hno
    clear hr hb hno
    by_cases hlt : i < 256
    · have hcl := ll_cell hg h i hlt
      have hbd := h.bd i
      have hiI : (i : Int) < 256 := by omega
      by_cases he : l.getD i 0 = c
      · have hpos := HYES.out i (by omega) HN.out he
        have hpt := HPT.out i hpos
        rw [he] at hcl
        injection hpt with e1 e2
        have HTC := Lib.hid (fun W => rtake_yes l h i hlt W)
        have HLL := Lib.hid (show Lst (tkV l i) from tkV_lst h hlt)
        subst e2
        rw [← e1] at HTC HLL
        have hs1 := ll_size HLL.out
        have hs0 := ll_size zS_lst
        clear HYES HPT HNO HN hbd hpos e1
        generalize l.getD i 0 = c2 at he HTC
        go_upto_region 6 with (first
          | (refine wpList_load_row rfl 23 _ rfl w.heap.size rfl 23 (ll l) (0, 0) _ HG.out Try.underlying23 rfl (lstIk h) ?_)
          | ((with_reducible refine (HTC.out _).mono ?_)
             rintro e w2 ⟨rfl, hb2⟩)
          | (refine wpList_store_row rfl 23 _ _ rfl w2.heap.size (ll L) rfl rfl 23 (ll zS) (heap_alloc_last w2 _) (lstIk HLL.out) (by rw [hs0, hs1]) (ll_all _) ?_))
        rw [World.setRow_alloc_new]
        try simp only [Act.put]
        have hby := hb2.alloc (o := .cells (ll L) 23) hb2.size
        have h7 := heap_alloc_last w2 (.cells (ll L) 23)
        have hr := heap_on hby HR.out
        have HB2 := Lib.hid (HB.out.trans (hby.mono HB.out.size))
        clear hby hb2
        generalize w2.alloc (.cells (ll L) 23) = w3 at h7 hr HB2 ⊢
        go_wp2_with (first
          | (refine wpList_load_row rfl 23 _ rfl w2.heap.size rfl 23 (ll L) (0, 0) _ h7 Try.underlying23 rfl (lstIk HLL.out) ?_)
          | (refine wpList_store_row rfl 23 _ _ rfl (w.heap.size + 1) (ll L) rfl rfl 23 (ll zS) hr (lstIk HLL.out) (by rw [hs0, hs1]) (ll_all _) ?_))
        refine bodyPost_ret (v := .tuple #[.agg (ll L), .int .i64 (i : Int)]) ?_ rfl ⟨rfl, HB2.out.setRow (by omega) _⟩
        exact results_cell_tmp Try.results10 _ _ (w.heap.size + 1) 23 (ll L) (0, 0) _ _ rfl rfl (setRow_heap _ _ _ _ _ _ hr) Try.underlying23 rfl (lstIk HLL.out)
      · have HN2 := Lib.hid (show ∀ j, j < i + 1 → l.getD j 0 ≠ c from fun j hj => by
          by_cases e : j = i
          · rw [e]; exact he
          · exact HN.out j (by omega))
        have hbe : (l.getD i 0 == c) = false := beq_eq_false_iff_ne.2 he
        clear HYES HPT HNO HN
        generalize l.getD i 0 = x at hcl hbd hbe
        clear he
        go_wp2_with fail
        exact ⟨⟨i + 1, by omega, by go_num, HN2.out, HG.out, HR.out, HB.out⟩, by simp [intOf] <;> omega⟩
    · obtain rfl : i = 256 := by omega
      have hpt := HNO.out (fun j hj => HN.out j (by omega))
      injection hpt with e1 e2
      subst e1 e2
      have hs1 := ll_size h
      have hs0 := ll_size zS_lst
      have hr := HR.out
      have hg2 := HG.out
      clear HYES HPT HNO HN hg
      go_wp2_with (first
        | (refine wpList_load_row rfl 23 _ rfl w.heap.size rfl 23 (ll L) (0, 0) _ hg2 Try.underlying23 rfl (lstIk h) ?_)
        | (refine wpList_store_row rfl 23 _ _ rfl (w.heap.size + 1) (ll L) rfl rfl 23 (ll zS) hr (lstIk h) (by rw [hs0, hs1]) (ll_all _) ?_))
      refine bodyPost_ret (v := .tuple #[.agg (ll L), .int .i64 (-1)]) ?_ rfl ⟨rfl, HB.out.setRow (by omega) _⟩
      exact results_cell_tmp Try.results10 _ _ (w.heap.size + 1) 23 (ll L) (0, 0) _ _ rfl rfl (setRow_heap _ _ _ _ _ _ hr) Try.underlying23 rfl (lstIk h)
end Go.Proofs.Ytaemmeofchonaaa
