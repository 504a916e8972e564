/- Used of both. -/
import Derived.Test.YtlbgnichgjancaaHgS
set_option linter.unusedVariables false
set_option linter.unusedSimpArgs false
namespace Go.Proofs.Ytlbgnichgjancaa
open Go.RowKit

theorem intsT : Try.prog.underlying 24 = some (.slice 3) := Try.underlying24
theorem intI : (Try.prog.info? 3).map (fun i => (i.zero, i.size, i.bytes)) = some (some (.int .i64 0), 1, 8) := by kernel_rfl
/-- The symbols below k that occur. -/
def usedN (l : List Int) (k : Nat) : List Nat := (List.range k).filter fun i => decide (0 < l.getD i 0)
def usedL (l : List Int) (k : Nat) : List Int := (usedN l k).map Int.ofNat
theorem usedN_succ (l : List Int) (k : Nat) : usedN l (k + 1) = usedN l k ++ (if 0 < l.getD k 0 then [k] else []) := by
  unfold usedN
  rw [List.range_succ, List.filter_append, List.filter_cons, List.filter_nil]
  by_cases h : 0 < l.getD k 0
  · rw [if_pos (decide_eq_true h), if_pos h]
  · rw [if_neg (by simpa using h), if_neg h]
theorem usedN_le (l : List Int) (k : Nat) : (usedN l k).length ≤ k := by
  have := List.length_filter_le (fun i => decide (0 < l.getD i 0)) (List.range k)
  rwa [List.length_range] at this
theorem usedL_length (l : List Int) (k : Nat) : (usedL l k).length ≤ k := by rw [usedL, List.length_map]; exact usedN_le l k
theorem usedL_yes (l : List Int) (k : Nat) (h : 0 < l.getD k 0) : usedL l (k + 1) = usedL l k ++ [(k : Int)] := by
  rw [usedL, usedN_succ, if_pos h, List.map_append]; rfl
theorem usedL_no (l : List Int) (k : Nat) (h : ¬ 0 < l.getD k 0) : usedL l (k + 1) = usedL l k := by
  rw [usedL, usedN_succ, if_neg h, List.append_nil]; rfl
/-- What Used returns. -/
def usedV (l : List Int) : List Int := if VT l then usedL l 258 else []
theorem usedV_le (l : List Int) : (usedV l).length ≤ 258 := by
  unfold usedV
  split
  · exact usedL_length l 258
  · exact Nat.zero_le _

/-- A slice made by the call (or none). -/
structure NewS (w w' : World) (a : Option Addr) (c : Nat) (q : List Int) : Prop where
  win : WinS w' .i64 3 a c q
  new : ∀ g, blk a = some g → w.heap.size ≤ g
  bel : Below w.heap.size w w'
theorem NewS.nil {w w' : World} (h : Below w.heap.size w w') : NewS w w' none 0 [] := ⟨WinS.nil _ _ _, (fun g e => by cases e), h⟩
theorem NewS.on {w w' w'' : World} {a : Option Addr} {c : Nat} {q : List Int} (h : NewS w w' a c q) (hb : Below w'.heap.size w' w'') : NewS w w'' a c q :=
  ⟨h.win.below hb, h.new, h.bel.trans (hb.mono h.bel.size)⟩
theorem NewS.alloc {w w' : World} {a : Option Addr} {c : Nat} {q : List Int} (h : NewS w w' a c q) (o : Obj) : NewS w (w'.alloc o) a c q := h.on ((Below.refl _ _).alloc (Nat.le_refl _) _)
theorem NewS.app {w w' w'' : World} {a a' : Option Addr} {c c' : Nat} {q q' : List Int} (h : NewS w w' a c q) (h1 : WinS w'' .i64 3 a' c' q') (h2 : w'.grownBy w'' (blk a)) (h3 : blk a' = blk a ∨ blk a' = some w'.heap.size) : NewS w w'' a' c' q' :=
by
  refine ⟨h1, fun g e => ?_, h.bel.grown h2 h.bel.size (fun g e => h.new g e)⟩
  rcases h3 with h3 | h3
  · exact h.new g (h3 ▸ e)
  · rw [h3] at e
    injection e with e
    subst e
    exact h.bel.size

set_option maxRecDepth 100000 in
set_option maxHeartbeats 1000000 in
theorem used_call (l : List Int) (h : Tal l) (w : World) :
    Calls Try.prog 17 #[.agg (tl l)] w fun e w' => ∃ a c, e = .returned (.slice a (usedV l).length c) ∧ NewS w w' a c (usedV l) := by
  go_enter Try.func17, Try.ntmps17
  go_upto_region 1 with fail
  have hg := heap_alloc_last w (.cells (tl l) 23)
  have hb := (Below.refl w.heap.size w).alloc (Nat.le_refl _) (.cells (tl l) 23)
  generalize w.alloc (.cells (tl l) 23) = w1 at hg hb ⊢
  have HB := Lib.hid hb
  clear hb
  by_cases hv : VT l
  · have HS := Lib.hid (show usedV l = usedL l 258 from if_pos hv)
    have hvc := valid_call l h w1
    rw [decide_eq_true hv] at hvc
    go_upto_region 4 with (first
      | (refine wpList_load_row rfl 23 _ rfl w.heap.size rfl 23 (tl l) (0, 0) _ hg Try.underlying23 rfl (talIk h) ?_)
      | (refine hvc.mono ?_; rintro e w2 ⟨rfl, hb2⟩))
    have hg2 := heap_on hb2 hg
    have HB2 := Lib.hid (HB.out.trans (hb2.mono HB.out.size))
    clear hb2 hvc HB
    go_wp2_with (refine wpList_load_row rfl 23 _ rfl w.heap.size rfl 23 (tl l) (0, 0) _ hg2 Try.underlying23 rfl (talIk h) ?_)
    go_loopw [3, 10] (fun s i wr => ∃ (k : Nat) (a : Option Addr) (n c : Nat), k ≤ 258 ∧ i = .int .i64 k ∧ s = .slice a n c ∧ n = (usedL l k).length ∧ NewS w wr a c (usedL l k)) (fun _ i _ => 258 - (intOf i).toNat)
    case atStart => exact ⟨0, none, 0, 0, by omega, rfl, rfl, rfl, NewS.nil HB2.out⟩
    case round =>
      obtain ⟨k, a, n, c, hk, rfl, rfl, hn, hs⟩ := hrel
      have HL := Lib.hid hn
      have HSS := Lib.hid hs
      have hnk : n ≤ 258 := by rw [hn]; have := usedL_length l k; omega
      clear hn hs
      by_cases hlt : k < 258
      · have hix := fun w => run_index_tal w h k hlt
        have hbd := h.bd k
        have HY := Lib.hid (usedL_yes l k)
        have HN := Lib.hid (usedL_no l k)
        generalize l.getD k 0 = V at hix hbd HY HN
        by_cases hV : 0 < V
        · have hy := HY.out hV
          go_wp2_with (
            refine wpList_appendW rfl _ _ 24 rfl 3 .i64 8 intsT intI a c (usedL l k) n HL.out.symm rfl (HSS.out.alloc _).win (some ⟨wr.heap.size, 0, none⟩) 1 1 rfl [(k : Int)] rfl (Src.one (by simp)) (by unfold maxLen; omega) (by omega) ?_
            intro a2 c2 w4 h1 h2 h3)
          rw [← hy] at h1
          exact ⟨⟨k + 1, a2, n + 1, c2, by omega, by go_num, rfl, by rw [hy, List.length_append, ← HL.out]; rfl, (HSS.out.alloc _).app h1 h2 h3⟩, by simp [intOf]; omega⟩
        · have hy := HN.out hV
          go_wp2_with fail
          exact ⟨⟨k + 1, a, n, c, by omega, by go_num, rfl, by rw [hy]; exact HL.out, by rw [hy]; exact HSS.out⟩, by simp [intOf]; omega⟩
      · obtain rfl : k = 258 := by omega
        go_wp2_with fail
        go_ret
        rw [HS.out]
        exact ⟨a, c, by rw [← HL.out]; rfl, HSS.out⟩
  · have HS := Lib.hid (show usedV l = [] from if_neg hv)
    have hvc := valid_call l h w1
    rw [decide_eq_false hv] at hvc
    go_wp2_with (first
      | (refine wpList_load_row rfl 23 _ rfl w.heap.size rfl 23 (tl l) (0, 0) _ hg Try.underlying23 rfl (talIk h) ?_)
      | (refine hvc.mono ?_; rintro e w2 ⟨rfl, hb2⟩))
    go_ret
    rw [HS.out]
    exact ⟨none, 0, rfl, NewS.nil (HB.out.trans (hb2.mono HB.out.size))⟩

set_option maxRecDepth 100000 in
set_option maxHeartbeats 1000000 in
theorem rused_call (l : List Int) (h : Tal l) (w : World) :
    Calls Try.prog 18 #[.agg (tl l)] w fun e w' => ∃ a c, e = .returned (.slice a (usedV l).length c) ∧ NewS w w' a c (usedV l) := by
  go_enter Try.func18, Try.ntmps18
  go_wp2_with fail
  have hg := heap_alloc_last w (.cells (tl l) 23)
  have hb := (Below.refl w.heap.size w).alloc (Nat.le_refl _) (.cells (tl l) 23)
  generalize w.alloc (.cells (tl l) 23) = w1 at hg hb ⊢
  by_cases hv : VT l
  · have HS := Lib.hid (show usedV l = usedL l 258 from if_pos hv)
    have hvc := fun w => rvalid_call l h w
    rw [decide_eq_true hv] at hvc
    go_loopw [3, 4] (fun s i wr => ∃ (k : Nat) (a : Option Addr) (n c : Nat), k ≤ 258 ∧ i = .int .i64 k ∧ s = .slice a n c ∧ n = (usedL l k).length ∧ wr.heap[w.heap.size]? = some (.cells (tl l) 23 (0, 0)) ∧ w.heap.size < wr.heap.size ∧ NewS w1 wr a c (usedL l k)) (fun _ i _ => 258 - (intOf i).toNat)
    case atStart => exact ⟨0, none, 0, 0, by omega, rfl, rfl, rfl, hg, (Array.getElem?_eq_some_iff.1 hg).1, NewS.nil (Below.refl _ _)⟩
    case round =>
      obtain ⟨k, a, n, c, hk, rfl, rfl, hn, hg1, hsz, hs⟩ := hrel
      have HL := Lib.hid hn
      have HSS := Lib.hid hs
      have hnk : n ≤ 258 := by rw [hn]; have := usedL_length l k; omega
      have HB := Lib.hid hb
      clear hn hs hb
      by_cases hlt : k < 258
      · have hbd := h.bd k
        have HY := Lib.hid (usedL_yes l k)
        have HN := Lib.hid (usedL_no l k)
        have HC := Lib.hid (fun (w' : World) (hg2 : w'.heap[w.heap.size]? = some (.cells (tl l) 23 (0, 0))) => tl_cell hg2 h k hlt)
        generalize l.getD k 0 = V at HC hbd HY HN
        by_cases hV : 0 < V
        · have hy := HY.out hV
          go_wp2_with (first
            | (refine wpList_load_row_g 2 true rfl 7 rfl _ rfl (decide_eq_true (by omega)) 23 _ rfl w.heap.size rfl 23 (tl l) (0, 0) _ hg1 Try.underlying23 rfl (talIk h) ?_)
            | (refine (hvc _).mono ?_; rintro e w2 ⟨rfl, hb2⟩
               have hg2 := heap_on hb2 hg1
               have hcl := HC.out w2 hg2
               have HSS2 := Lib.hid (HSS.out.on hb2)
               clear hb2 hg1)
            | (refine wpList_appendW rfl _ _ 24 rfl 3 .i64 8 intsT intI a c (usedL l k) n HL.out.symm rfl (HSS2.out.alloc _).win (some ⟨w2.heap.size, 0, none⟩) 1 1 rfl [(k : Int)] rfl (Src.one (by simp)) (by unfold maxLen; omega) (by omega) ?_
               intro a2 c2 w4 h1 h2 h3))
          rw [← hy] at h1
          have hN := (HSS2.out.alloc (.cells #[.int .i64 k] 3)).app h1 h2 h3
          have hold : w4.heap[w.heap.size]? = w2.heap[w.heap.size]? := by
            have hlt2 := (Array.getElem?_eq_some_iff.1 hg2).1
            have hw1 := (Array.getElem?_eq_some_iff.1 hg).1
            have e1 := h2.block w.heap.size (by simp; omega) (fun e => by have := HSS2.out.new _ e.symm; omega)
            rw [e1, heap_alloc_old _ _ hlt2]
          exact ⟨⟨k + 1, a2, n + 1, c2, by omega, by go_num, rfl, by rw [hy, List.length_append, ← HL.out]; rfl, hold.trans hg2, Nat.lt_of_lt_of_le (Array.getElem?_eq_some_iff.1 hg).1 hN.bel.size, hN⟩, by simp [intOf]; omega⟩
        · have hy := HN.out hV
          go_wp2_with (first
            | (refine wpList_load_row_g 2 true rfl 7 rfl _ rfl (decide_eq_true (by omega)) 23 _ rfl w.heap.size rfl 23 (tl l) (0, 0) _ hg1 Try.underlying23 rfl (talIk h) ?_)
            | (refine (hvc _).mono ?_; rintro e w2 ⟨rfl, hb2⟩
               have hg2 := heap_on hb2 hg1
               have hcl := HC.out w2 hg2
               have HSS2 := Lib.hid (HSS.out.on hb2)
               clear hb2 hg1))
          exact ⟨⟨k + 1, a, n, c, by omega, by go_num, rfl, by rw [hy]; exact HL.out, hg2, Nat.lt_of_lt_of_le (Array.getElem?_eq_some_iff.1 hg).1 HSS2.out.bel.size, by rw [hy]; exact HSS2.out⟩, by simp [intOf]; omega⟩
      · obtain rfl : k = 258 := by omega
        go_wp2_with fail
        go_ret
        rw [HS.out]
        exact ⟨a, c, by rw [← HL.out]; rfl, HSS.out.win, fun g e => Nat.le_trans HB.out.size (HSS.out.new g e), HB.out.trans (HSS.out.bel.mono HB.out.size)⟩
  · have HS := Lib.hid (show usedV l = [] from if_neg hv)
    have hvc := rvalid_call l h w1
    rw [decide_eq_false hv] at hvc
    have HB := Lib.hid hb
    clear hb
    go_loopw [3, 4] (fun s i wr => i = .int .i64 0 ∧ s = .slice none 0 0 ∧ wr = w1) (fun _ i _ => 0)
    case atStart => exact ⟨rfl, rfl, rfl⟩
    case round =>
      obtain ⟨rfl, rfl, rfl⟩ := hrel
      go_wp2_with (first
        | (refine wpList_load_row_g 2 true rfl 7 rfl _ rfl rfl 23 _ rfl w.heap.size rfl 23 (tl l) (0, 0) _ hg Try.underlying23 rfl (talIk h) ?_)
        | (refine hvc.mono ?_; rintro e w2 ⟨rfl, hb2⟩))
      go_ret
      rw [HS.out]
      exact ⟨none, 0, rfl, NewS.nil (HB.out.trans (hb2.mono HB.out.size))⟩
end Go.Proofs.Ytlbgnichgjancaa
