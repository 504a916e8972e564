/- Order of package packagemerge. -/
import Derived.Test.YtemjlmeakkknbaaLv
set_option linter.unusedVariables false
set_option linter.unusedSimpArgs false
namespace Go.Proofs.Ytemjlmeakkknbaa
open Go.RowKit Go.Sort

theorem OwnI.get {w : World} {g c : Nat} {l : List (Int × Int)} (h : OwnI w (some g) c l) (j : Nat) (hj : j < l.length) : w.cell? ⟨g, j * 2, none⟩ = some (.int .i64 (l.getD j (0, 0)).1) ∧ w.cell? ⟨g, j * 2 + 1, none⟩ = some (.int .u64 (l.getD j (0, 0)).2) := by
  obtain ⟨g', o, e, h0, h1⟩ := h.src.get hj
  injection e with e
  injection e with e1 e2 _
  subst e1 e2
  rw [Nat.zero_add] at h0 h1
  rw [List.getD_eq_getElem?_getD, List.getElem?_eq_getElem hj]
  exact ⟨h0, h1⟩
/-- What Order returns. -/
def ordV (l : List Int) : List Int := if VT l then ordL l else []
theorem ordV_le (l : List Int) : (ordV l).length ≤ l.length := by
  unfold ordV
  split
  · rw [ordL_len]; exact lvT_le l
  · exact Nat.zero_le _
/-- While the symbols are written down. -/
structure Od (w : World) (q : List (Int × Int)) (k : Nat) (g2 : Nat) (r : List Int) (wr : World) : Prop where
  row : wr.heap[g2]? = some (.cells (icells .i64 r) 3 (0, 0))
  len : r.length = q.length
  done : r.take k = (q.map (·.1)).take k
  bel : Below w.heap.size w wr
theorem Od.step {w wr : World} {q : List (Int × Int)} {k g2 : Nat} {r : List Int} (h : Od w q k g2 r wr) (hk : k < q.length) (hg : w.heap.size ≤ g2) (v : Int) (hv : v = (q.getD k (0, 0)).1) :
    Od w q (k + 1) g2 (r.set k v) (wr.setCell ⟨g2, k, none⟩ (.int .i64 v)) := by
  refine ⟨?_, by rw [List.length_set]; exact h.len, ?_, h.bel.setCell hg _⟩
  · rw [heap_setCell_same _ _ _ _ _ _ h.row]
    congr 2
    apply Array.ext_getElem?
    intro j
    rw [Array.getElem?_setIfInBounds, icells_get, icells_get, icells_size, List.getElem?_set]
    by_cases e : k = j
    · subst e
      rw [if_pos rfl, if_pos rfl]
      by_cases hi : k < r.length
      · rw [if_pos hi, if_pos hi]; rfl
      · rw [if_neg hi, if_neg hi]; rfl
    · rw [if_neg e, if_neg e]
  · have hl := h.len
    have hd := h.done
    rw [List.take_add_one, List.take_add_one, List.take_set_of_le (Nat.le_refl k), hd, List.getElem?_set, if_pos rfl, if_pos (by omega), List.getElem?_map, List.getElem?_eq_getElem hk]
    rw [hv, List.getD_eq_getElem?_getD, List.getElem?_eq_getElem hk]
    rfl
theorem Od.on {w wr w' : World} {q : List (Int × Int)} {k g2 : Nat} {r : List Int} (h : Od w q k g2 r wr) (hb : Below wr.heap.size wr w') : Od w q k g2 r w' := ⟨heap_on hb h.row, h.len, h.done, h.bel.trans (hb.mono h.bel.size)⟩
theorem intsT : Try.prog.underlying 30 = some (.slice 3) := Try.underlying30
theorem intI : (Try.prog.info? 3).map (fun i => (i.zero, i.size, i.bytes)) = some (some (.int .i64 0), 1, 8) := by kernel_rfl

set_option maxRecDepth 100000 in
set_option maxHeartbeats 1000000 in
theorem order_call (l : List Int) (h : Tal l) (w : World) :
    Calls Try.prog 11 #[.agg (tl l)] w fun e w' => ∃ a c, e = .returned (.slice a (ordV l).length c) ∧ Src w' .i64 a (ordV l) ∧ Below w.heap.size w w' := by
  have zI : ∀ w, (zeroValue 52).run Try.prog w = .ok (.agg #[.int .i64 0, .int .u64 0]) w := (zero_of_info (show (Try.prog.info? 52).map (fun i => (i.zero, i.size)) = some (some (.agg #[.int .i64 0, .int .u64 0]), 2) by kernel_rfl)).1
  go_enter Try.func11, Try.ntmps11
  go_upto_region 1 with fail
  have hg := heap_alloc_last w (.cells (tl l) 23)
  have hb := (Below.refl w.heap.size w).alloc (Nat.le_refl _) (.cells (tl l) 23)
  generalize w.alloc (.cells (tl l) 23) = w1 at hg hb ⊢
  have hvc := valid_call l h w1
  by_cases hv : VT l
  · have HS := Lib.hid (show ordV l = ordL l from if_pos hv)
    rw [decide_eq_true hv] at hvc
    go_upto_region 3 with (first
      | (refine wpList_load_row rfl 23 _ rfl w.heap.size rfl 23 (tl l) (0, 0) _ hg Try.underlying23 rfl (talIk h) ?_)
      | (refine hvc.mono ?_; rintro e w2 ⟨rfl, hb2⟩))
    have hg3 := heap_on hb2 hg
    have HB2 := Lib.hid (hb.trans (hb2.mono hb.size))
    clear hb2 hvc hb hg
    have hlc := leaves_call l h hv w2
    have hle := lvT_le l
    rw [h.1] at hle
    obtain ⟨q, hq⟩ : ∃ q, q = lvT l := ⟨_, rfl⟩
    have HQ := Lib.hid (show ordV l = q.map (·.1) by rw [HS.out, hq]; rfl)
    rw [← hq] at hlc hle
    clear hq HS
    obtain ⟨n, hn⟩ : ∃ n, n = q.length := ⟨_, rfl⟩
    rw [← hn] at hlc hle
    have HN := Lib.hid hn
    clear hn
    go_upto_region 4 with (first
      | (refine wpList_load_row rfl 23 _ rfl w.heap.size rfl 23 (tl l) (0, 0) _ hg3 Try.underlying23 rfl (talIk h) ?_)
      | (with_reducible refine hlc.mono ?_; rintro e w3 ⟨A, c, rfl, hni⟩))
    have HNI := Lib.hid hni
    clear hni hlc hg3
    have hmk := run_makeI (P := Try.prog) intsT intI .i64 .i64 n (by omega) (by omega) w3
    go_wp2_with fail
    have hsz := HB2.out.size
    have hsz3 := HNI.out.bel.size
    go_loopw [17] (fun i wr => ∃ (k : Nat) (r : List Int), k ≤ n ∧ i = .int .i64 k ∧ OwnI wr A c q ∧ Od w q k w3.heap.size r wr) (fun i _ => n - (intOf i).toNat)
    case atStart => exact ⟨0, List.replicate n 0, by omega, rfl, HNI.out.own.on ((Below.refl _ _).alloc (Nat.le_refl _) _), heap_alloc_new w3 _, by rw [List.length_replicate, HN.out], rfl, (HB2.out.trans (HNI.out.bel.mono hsz)).alloc (by omega) _⟩
    case round =>
      obtain ⟨k, r, hk, rfl, hown, hod⟩ := hrel
      have HO := Lib.hid hown
      have HD := Lib.hid hod
      clear hown hod
      by_cases hlt : k < n
      · obtain ⟨g, rfl⟩ := HO.out.pos (by rw [← HN.out]; omega)
        have had : ad0 (some g) = some ⟨g, 0, none⟩ := rfl
        obtain ⟨c0, c1⟩ := HO.out.get k (by rw [← HN.out]; exact hlt)
        have hge : g ≠ w3.heap.size := by have := HNI.out.own.lt (g := g) rfl; omega
        have HST := Lib.hid (fun (t : TypeId) (a : Array Value) (v : Int) (hv : v = (q.getD k (0, 0)).1) => (HD.out.step (by rw [← HN.out]; exact hlt) (by omega) v hv).on ((Below.refl _ _).alloc (Nat.le_refl _) (.cells a t)))
        have HOW := Lib.hid (fun (t : TypeId) (a : Array Value) (v : Value) => (HO.out.ch ((Ch.refl (fun y => y = w3.heap.size) _).setCell ⟨w3.heap.size, k, none⟩ v (.inl rfl)) (fun g' e => by injection e with e; subst e; exact hge)).on ((Below.refl _ _).alloc (Nat.le_refl _) (.cells a t)))
        have hkr : k < r.length := by rw [HD.out.len, ← HN.out]; exact hlt
        have hwl : w3.heap.size < wr.heap.size := (Array.getElem?_eq_some_iff.1 HD.out.row).1
        have hrow := fun (t : TypeId) => heap_on ((Below.refl wr.heap.size wr).alloc (Nat.le_refl _) (.cells #[.int .i64 (q.getD k (0, 0)).1, .int .u64 (q.getD k (0, 0)).2] t)) HD.out.row
        have hfr := fun (t : TypeId) => frozen_of_row _ _ k _ _ (hrow t)
        have hcr := fun (t : TypeId) => cell_icells (hrow t) k hkr
        generalize q.getD k (0, 0) = x at c0 c1 HST HOW hrow hfr hcr
        obtain ⟨X, Y⟩ := x
        simp only at c0 c1 HST HOW hrow hfr hcr
        clear hrow
        go_wp2_with fail
        exact ⟨⟨k + 1, _, by omega, by go_num, HOW.out _ _ _, HST.out _ _ X rfl⟩, by simp [intOf]; omega⟩
      · obtain rfl : k = n := by omega
        go_wp2_with fail
        go_ret
        have hd := HD.out.done
        rw [List.take_of_length_le (by rw [HD.out.len, HN.out]; exact Nat.le_refl _), List.take_of_length_le (by rw [List.length_map, HN.out]; exact Nat.le_refl _)] at hd
        refine ⟨some ⟨w3.heap.size, 0, none⟩, k, by rw [HQ.out, List.length_map, ← HN.out]; rfl, ?_, HD.out.bel⟩
        rw [HQ.out, ← hd]
        exact Src.whole HD.out.row
  · have HS := Lib.hid (show ordV l = [] from if_neg hv)
    rw [decide_eq_false hv] at hvc
    go_wp2_with (first
      | (refine wpList_load_row rfl 23 _ rfl w.heap.size rfl 23 (tl l) (0, 0) _ hg Try.underlying23 rfl (talIk h) ?_)
      | (refine hvc.mono ?_; rintro e w2 ⟨rfl, hb2⟩))
    go_ret
    exact ⟨none, 0, by rw [HS.out]; rfl, by rw [HS.out]; exact Src.nil _ _ _, hb.trans (hb2.mono hb.size)⟩
end Go.Proofs.Ytemjlmeakkknbaa
