/- Order of package canonical. -/
import Derived.Test.YtdbpdnfniidfhaaCnS
import Derived.Test.YtdbpdnfniidfhaaCnN
set_option linter.unusedVariables false
set_option linter.unusedSimpArgs false
namespace Go.Proofs.Ytdbpdnfniidfhaa
open Go.RowKit Go.Sort

/-- The symbols with a length among the first k. -/
def useN (l : List Int) (k : Nat) : List Nat := (List.range k).filter fun s => decide (0 < l.getD s 0)
def useL (l : List Int) (k : Nat) : List Int := (useN l k).map fun s : Nat => (s : Int)
theorem useL_zero (l : List Int) : useL l 0 = [] := rfl
theorem useL_yes (l : List Int) (k : Nat) (h : 0 < l.getD k 0) : useL l (k + 1) = useL l k ++ [(k : Int)] := by
  unfold useL useN
  rw [List.range_succ, List.filter_append, List.map_append, List.filter_cons_of_pos (by simpa using h)]
  rfl
theorem useL_no (l : List Int) (k : Nat) (h : ¬ 0 < l.getD k 0) : useL l (k + 1) = useL l k := by
  unfold useL useN
  rw [List.range_succ, List.filter_append, List.map_append, List.filter_cons_of_neg (by simpa using h)]
  exact List.append_nil _
theorem useL_len (l : List Int) (k : Nat) : (useL l k).length ≤ k := by
  unfold useL useN
  rw [List.length_map]
  have := List.length_filter_le (fun s => decide (0 < l.getD s 0)) (List.range k)
  rwa [List.length_range] at this
theorem useL_sym (l : List Int) : ∀ x ∈ useL l 258, 0 ≤ x ∧ x < 258 := fun x hx => by
  unfold useL useN at hx
  obtain ⟨s, hs, rfl⟩ := List.mem_map.1 hx
  have := List.mem_range.1 (List.mem_filter.1 hs).1
  omega
/-- The symbols in order, as integers. -/
def ordI (l : List Int) : List Int := (ordN l 15).map fun s : Nat => (s : Int)
theorem ordI_perm {l : List Int} (h : ∀ s, l.getD s 0 ≤ 15) : (ordI l).Perm (useL l 258) := by
  refine List.Perm.map _ ?_
  refine (List.perm_ext_iff_of_nodup (ordN_nodup l 15) (List.Pairwise.filter _ List.nodup_range)).2 fun s => ?_
  rw [mem_ordN]
  simp only [useN, List.mem_filter, List.mem_range, decide_eq_true_eq]
  have := h s
  constructor
  · rintro ⟨a, b, c⟩
    exact ⟨a, by omega⟩
  · rintro ⟨a, b⟩
    exact ⟨a, by omega, by omega⟩
theorem ordI_pw (l : List Int) : (ordI l).Pairwise fun x y => slt l y x = false := by
  unfold ordI
  rw [List.pairwise_map]
  refine List.Pairwise.imp ?_ (ordN_pw l 15)
  intro a b hab
  rw [slt_no, Int.toNat_natCast, Int.toNat_natCast]
  unfold befN at hab
  omega
theorem ordI_len {l : List Int} (h : ∀ s, l.getD s 0 ≤ 15) : (ordI l).length ≤ 258 := by
  rw [(ordI_perm h).length_eq]
  exact useL_len l 258
/-- What Order returns. -/
def ordR (l : List Int) : List Int := if ks l ≤ 32768 then ordI l else []
theorem intsT : Try.prog.underlying 32 = some (.slice 3) := Try.underlying32
theorem intI : (Try.prog.info? 3).map (fun i => (i.zero, i.size, i.bytes)) = some (some (.int .i64 0), 1, 8) := by kernel_rfl

/-- While the symbols are gathered: the variable's cell, the slice. -/
structure Gth (w : World) (l : List Int) (pv : Nat) (A : Option Nat) (c : Nat) (q : List Int) (wr : World) : Prop where
  box : wr.heap[w.heap.size]? = some (.cells (lg l) 23 (0, 0))
  var : wr.heap[pv]? = some (.cells #[.slice (ad0 A) q.length c] 32 (0, 0))
  own : OwnS wr .i64 3 A c q
  old : w.heap.size < pv
  new : ∀ g, A = some g → pv < g
  bel : Below w.heap.size w wr
theorem Gth.alloc {w wr : World} {l : List Int} {pv : Nat} {A : Option Nat} {c : Nat} {q : List Int} (h : Gth w l pv A c q wr) (o : Obj) : Gth w l pv A c q (wr.alloc o) :=
  ⟨heap_on ((Below.refl _ _).alloc (Nat.le_refl _) _) h.box, heap_on ((Below.refl _ _).alloc (Nat.le_refl _) _) h.var, h.own.alloc _, h.old, h.new, h.bel.alloc h.bel.size _⟩
theorem Gth.kept {w wr w2 : World} {l : List Int} {pv : Nat} {A : Option Nat} {c : Nat} {q : List Int} (h : Gth w l pv A c q wr) (h2 : wr.grownBy w2 A) : w2.heap[pv]? = some (.cells #[.slice (ad0 A) q.length c] 32 (0, 0)) := by
  rw [h2.block _ (Array.getElem?_eq_some_iff.1 h.var).1 (fun e => by have := h.new _ e.symm; omega)]
  exact h.var
theorem Gth.app {w wr w2 : World} {l : List Int} {pv : Nat} {A A' : Option Nat} {c c' : Nat} {q q' : List Int} (h : Gth w l pv A c q wr) (h1 : OwnS w2 .i64 3 A' c' q') (h2 : wr.grownBy w2 A) (h3 : A' = A ∨ A' = some wr.heap.size) :
    Gth w l pv A' c' q' (w2.setCell ⟨pv, 0, none⟩ (.slice (ad0 A') q'.length c')) := by
  have hsz : pv < wr.heap.size := (Array.getElem?_eq_some_iff.1 h.var).1
  have ho := h.old
  have hnew : ∀ g, A' = some g → pv < g := fun g e => by
    rcases h3 with h3 | h3
    · exact h.new g (h3 ▸ e)
    · rw [h3] at e
      injection e with e
      omega
  have hb : Below w.heap.size w w2 := h.bel.grown h2 h.bel.size (fun g e => by have := h.new g e; omega)
  have hbox : w2.heap[w.heap.size]? = some (.cells (lg l) 23 (0, 0)) := by
    rw [h2.block _ (Array.getElem?_eq_some_iff.1 h.box).1 (fun e => by have := h.new _ e.symm; omega)]
    exact h.box
  refine ⟨?_, ?_, ?_, ho, hnew, hb.setCell (by simp only; omega) _⟩
  · rw [heap_setCell_other _ _ _ _ (by simp only; omega)]
    exact hbox
  · rw [heap_setCell_same _ _ _ _ _ _ (h.kept h2)]
    rfl
  · exact h1.ch ((Ch.refl (fun k => k = pv) w2).setCell _ _ (.inl rfl)) (fun g e => by have := hnew g e; omega)

set_option maxRecDepth 100000 in
set_option maxHeartbeats 1000000 in
theorem order_call (l : List Int) (h : Lng l) (w : World) :
    Calls Try.prog 8 #[.agg (lg l)] w fun e w' => ∃ A c, e = .returned (.slice (ad0 A) (ordR l).length c) ∧ OwnS w' .i64 3 A c (ordR l) ∧ (∀ g, A = some g → w.heap.size ≤ g) ∧ Below w.heap.size w w' := by
  have zS : ∀ w, (zeroValue 32).run Try.prog w = .ok (.slice none 0 0) w := (zero_of_info (show (Try.prog.info? 32).map (fun i => (i.zero, i.size)) = some (some (.slice none 0 0), 1) by kernel_rfl)).1
  go_enter Try.func8, Try.ntmps8
  go_upto_region 1 with fail
  have hg := heap_alloc_last w (.cells (lg l) 23)
  have hb := (Below.refl w.heap.size w).alloc (Nat.le_refl _) (.cells (lg l) 23)
  generalize w.alloc (.cells (lg l) 23) = w1 at hg hb ⊢
  have hvc := valid_call l h w1
  by_cases hv : ks l ≤ 32768
  · have HPM : Unit → (ordI l).Perm (useL l 258) := fun _ => ordI_perm (ks_small hv)
    have HS := Lib.hid (show ordR l = ordI l from if_pos hv)
    rw [decide_eq_true hv] at hvc
    clear hv
    go_upto_region 3 with (first
      | (refine wpList_load_row rfl 23 _ rfl w.heap.size rfl 23 (lg l) (0, 0) _ hg Try.underlying23 rfl (lngIk h) ?_)
      | (refine hvc.mono ?_; rintro e w2 ⟨rfl, hb2⟩))
    have hg2 := heap_on hb2 hg
    have hbw := hb.trans (hb2.mono hb.size)
    have hsz2 : w.heap.size < w2.heap.size := (Array.getElem?_eq_some_iff.1 hg2).1
    have hG0 : Gth w l w2.heap.size none 0 [] (w2.alloc (.cells #[.slice none 0 0] 32)) :=
      ⟨heap_on ((Below.refl _ _).alloc (Nat.le_refl _) _) hg2, heap_alloc_last w2 _, OwnS.nil _ _ _, hsz2, (fun g e => by cases e), hbw.alloc hbw.size _⟩
    have hg3 := hG0.box
    have HG0 := Lib.hid hG0
    clear hg hb hb2 hvc hG0 hbw hg2 hsz2
    obtain ⟨pv, hpv⟩ : ∃ pv, pv = w2.heap.size := ⟨_, rfl⟩
    go_upto_region 4 with fail
    rw [← hpv] at HG0 ⊢
    clear hpv zS
    generalize w2.alloc (.cells #[.slice none 0 0] 32) = w3 at HG0 hg3 ⊢
    go_wp2_with (refine wpList_load_row rfl 23 _ rfl w.heap.size rfl 23 (lg l) (0, 0) _ hg3 Try.underlying23 rfl (lngIk h) ?_)
    go_loopw [10] (fun i wr => ∃ (k : Nat) (A : Option Nat) (c : Nat), k ≤ 258 ∧ i = .int .i64 k ∧ Gth w l pv A c (useL l k) wr) (fun i _ => 258 - (intOf i).toNat)
    case atStart => exact ⟨0, none, 0, by omega, rfl, HG0.out⟩
    case round =>
      obtain ⟨k, A, c, hk, rfl, hG⟩ := hrel
      have HGt := Lib.hid hG
      have hcell : wr.cell? ⟨pv, 0, none⟩ = some (.slice (ad0 A) (useL l k).length c) := by rw [cell_of_row _ _ _ _ _ _ hG.var]; rfl
      clear hG
      by_cases hlt : k < 258
      · have hix := fun w => run_index_lng w h k hlt
        have hbd := h.bd k
        have hle := useL_len l k
        have HY := Lib.hid (useL_yes l k)
        have HN := Lib.hid (useL_no l k)
        generalize l.getD k 0 = V at hix hbd HY HN
        by_cases hV : 0 < V
        · have HYY := Lib.hid (HY.out hV)
          obtain ⟨n, hn⟩ : ∃ n, n = (useL l k).length := ⟨_, rfl⟩
          rw [← hn] at hcell hle
          have HN2 := Lib.hid hn
          clear hn
          go_wp2_with (
            refine wpList_appendI rfl _ _ 32 rfl 3 .i64 8 intsT intI A c (useL l k) n HN2.out.symm rfl (HGt.out.own.alloc _) (some ⟨wr.heap.size, 0, none⟩) 1 1 rfl [(k : Int)] rfl (Src.one (by simp)) (by unfold maxLen; omega) (by omega) ?_
            intro A' c' w4 h1 h2 h3
            have hkp := (HGt.out.alloc _).kept h2
            have hf2 := frozen_of_row w4 _ 0 _ _ hkp
            have hc2 : w4.cell? ⟨pv, 0, none⟩ = some (.slice (ad0 A) (useL l k).length c) := by rw [cell_of_row _ _ _ _ _ _ hkp]; rfl)
          have e : (useL l (k + 1)).length = n + 1 := by rw [HYY.out, List.length_append, ← HN2.out]; rfl
          have ho : OwnS w4 .i64 3 A' c' (useL l (k + 1)) := by
            rw [HYY.out]
            exact h1
          have hN := (HGt.out.alloc _).app ho h2 h3
          rw [e] at hN
          exact ⟨⟨k + 1, A', c', by omega, by go_num, hN⟩, by simp [intOf]; omega⟩
        · have HYY := Lib.hid (HN.out hV)
          go_wp2_with fail
          exact ⟨⟨k + 1, A, c, by omega, by go_num, by rw [HYY.out]; exact HGt.out⟩, by simp [intOf]; omega⟩
      · obtain rfl : k = 258 := by omega
        have hR : RI l A c (useL l 258).length pv w.heap.size (useL l 258).toArray wr := ⟨by simp, by simpa using HGt.out.own, hcell, HGt.out.box, fun g e => by have := HGt.out.new g e; omega, fun g e => by have := HGt.out.new g e; have := HGt.out.old; omega, by simpa using useL_sym l⟩
        have hsl := slice_call l h A c _ _ _ _ wr hR (Nat.le_trans (useL_len l 258) (by omega))
        obtain ⟨q, hq⟩ : ∃ q, q = useL l 258 := ⟨_, rfl⟩
        rw [← hq] at hsl hcell HPM HGt
        clear hq hR
        obtain ⟨n, hn⟩ : ∃ n, n = q.length := ⟨_, rfl⟩
        rw [← hn] at hsl hcell
        have HN := Lib.hid hn
        clear hn
        go_wp2_with (
          with_reducible refine hsl.mono ?_
          rintro e w2 ⟨rfl, d', hon, hRI, hp, hs⟩
          have hc2 := hRI.var
          have HRI := Lib.hid hRI
          have HON := Lib.hid hon
          have HSI := Lib.hid (sorted_is l (by rw [HN.out]; simp) hp hs (ordI l) (by simpa using HPM ()) (ordI_pw l))
          clear hRI hon hp hs)
        go_ret
        have e1 : d'.toList = ordI l := HSI.out
        have e2 : n = (ordI l).length := by rw [← e1, Array.length_toList, HRI.out.size]
        rw [HS.out]
        refine ⟨A, c, by rw [← e2]; rfl, ?_, fun g e => by have := HGt.out.new g e; have := HGt.out.old; omega, HGt.out.bel.trans (HON.out.below HGt.out.bel.size (fun k e => ?_))⟩
        · rw [← e1]
          exact HRI.out.own
        · have ho := HGt.out.old
          subst e
          unfold rb
          cases hA : A with
          | none => show w.heap.size ≤ pv; omega
          | some g => show w.heap.size ≤ g; have := HGt.out.new g hA; omega
  · have HS := Lib.hid (show ordR l = [] from if_neg hv)
    rw [decide_eq_false hv] at hvc
    clear hv
    go_wp2_with (first
      | (refine wpList_load_row rfl 23 _ rfl w.heap.size rfl 23 (lg l) (0, 0) _ hg Try.underlying23 rfl (lngIk h) ?_)
      | (refine hvc.mono ?_; rintro e w2 ⟨rfl, hb2⟩))
    go_ret
    exact ⟨none, 0, by rw [HS.out]; rfl, by rw [HS.out]; exact OwnS.nil _ _ _, (fun g e => by cases e), hb.trans (hb2.mono hb.size)⟩
end Go.Proofs.Ytdbpdnfniidfhaa
