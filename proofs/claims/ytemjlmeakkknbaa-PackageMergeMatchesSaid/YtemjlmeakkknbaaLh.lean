/- lengthsOf. -/
import Derived.Test.YtemjlmeakkknbaaRw
set_option linter.unusedVariables false
set_option linter.unusedSimpArgs false
namespace Go.Proofs.Ytemjlmeakkknbaa
open Go.RowKit Go.Sort

/-- The lengths are these. -/
def Is (F : Nat → Nat) (q : List Int) : Prop := q.length = 258 ∧ ∀ s, s < 258 → q.getD s 0 = (F s : Int)
theorem Is.lng {F : Nat → Nat} {q : List Int} (h : Is F q) (hF : ∀ s, s < 258 → F s ≤ 255) : Lng q := by
  refine ⟨h.1, fun z hz => ?_⟩
  obtain ⟨i, hi, rfl⟩ := List.getElem_of_mem hz
  have h1 := h.2 i (by rw [← h.1]; exact hi)
  rw [List.getD_eq_getElem?_getD, List.getElem?_eq_getElem hi] at h1
  have h2 := hF i (by rw [← h.1]; exact hi)
  simp only [Option.getD_some] at h1
  rw [h1]
  exact WalkArith.wf_u8 ⟨by omega, by omega⟩
theorem Is.eq {F : Nat → Nat} {q r : List Int} (h : Is F q) (k : Is F r) : q = r := by
  apply List.ext_getElem
  · rw [h.1, k.1]
  · intro i h1 h2
    have e1 := h.2 i (by rw [← h.1]; exact h1)
    have e2 := k.2 i (by rw [← h.1]; exact h1)
    rw [List.getD_eq_getElem?_getD, List.getElem?_eq_getElem h1] at e1
    rw [List.getD_eq_getElem?_getD, List.getElem?_eq_getElem h2] at e2
    simp only [Option.getD_some] at e1 e2
    omega
theorem Is.congr {F G : Nat → Nat} {q : List Int} (h : Is F q) (e : ∀ s, s < 258 → F s = G s) : Is G q := ⟨h.1, fun s hs => by rw [h.2 s hs, e s hs]⟩
theorem Is.zero : Is (fun _ => 0) zL := ⟨zL_lng.1, fun s _ => zL_get s⟩
theorem Is.set {F : Nat → Nat} {q : List Int} (h : Is F q) (i : Nat) (v : Nat) (hi : i < 258) : Is (fun s => if s = i then v else F s) (q.set i (v : Int)) := by
  refine ⟨by rw [List.length_set]; exact h.1, fun s hs => ?_⟩
  show _ = ((if s = i then v else F s : Nat) : Int)
  rw [List.getD_eq_getElem?_getD, List.getElem?_set]
  by_cases e : i = s
  · subst e
    rw [if_pos rfl, if_pos (by rw [h.1]; exact hi), if_pos rfl]
    rfl
  · rw [if_neg e, ← List.getD_eq_getElem?_getD, h.2 s hs, if_neg (fun e2 : s = i => e e2.symm)]
/-- Leaves' symbols lie within 0 to 257. -/
def Sy (lv : List (Int × Int)) : Prop := ∀ x ∈ lv, 0 ≤ x.1 ∧ x.1 < 258
theorem row_sym {lv : List (Int × Int)} (h : Sy lv) : ∀ k, ∀ x ∈ rowR lv k, x.1 = -1 ∨ 0 ≤ x.1 ∧ x.1 < 258
  | 0 => fun x hx => .inr (h x hx)
  | k + 1 => fun x hx => by
    rcases List.mem_append.1 ((mgR_perm _ _).mem_iff.1 hx) with hx | hx
    · exact .inr (h x hx)
    · exact .inl (pkR_sym _ x hx)
theorem cntS_take_succ (l : List (Int × Int)) (i : Nat) (hi : i < l.length) (s : Int) : cntS (l.take (i + 1)) s = cntS (l.take i) s + if (l.getD i (0, 0)).1 = s then 1 else 0 := by
  rw [List.take_add_one, List.getElem?_eq_getElem hi, Option.toList_some, cntS_append, cntS_cons, List.getD_eq_getElem?_getD, List.getElem?_eq_getElem hi]
  simp [cntS]
theorem pkN_take_succ (l : List (Int × Int)) (i : Nat) (hi : i < l.length) : pkN (l.take (i + 1)) = pkN (l.take i) + if 0 ≤ (l.getD i (0, 0)).1 then 0 else 1 := by
  rw [List.take_add_one, List.getElem?_eq_getElem hi, Option.toList_some, pkN_append, List.getD_eq_getElem?_getD, List.getElem?_eq_getElem hi]
  unfold pkN
  simp only [List.countP_cons, List.countP_nil, Option.getD_some]
  by_cases h : 0 ≤ l[i].1 <;> simp [h]
/-- What is still to be counted, with R rows left. -/
def lnR (lv : List (Int × Int)) : Nat → Nat → Int → Nat
  | 0, _, _ => 0
  | R + 1, m, s => lnC lv R m s
theorem lnR_step (lv : List (Int × Int)) (R m : Nat) (s : Int) : lnR lv (R + 1) m s = cntS ((rowR lv R).take m) s + lnR lv R (2 * pkN ((rowR lv R).take m)) s := by
  cases R with
  | zero => rfl
  | succ R => rfl
/-- The two boxes: the result, the lengths. -/
structure Lb (w0 : World) (q : List Int) (wr : World) : Prop where
  res : wr.heap[w0.heap.size]? = some (.cells (lg zL) 25 (0, 0))
  box : wr.heap[w0.heap.size + 1]? = some (.cells (lg q) 25 (0, 0))
  bel : Below w0.heap.size w0 wr
theorem Lb.on {w0 wr w' : World} {q : List Int} (h : Lb w0 q wr) (hb : Below wr.heap.size wr w') : Lb w0 q w' := ⟨heap_on hb h.res, heap_on hb h.box, h.bel.trans (hb.mono h.bel.size)⟩
theorem Lb.set {w0 wr : World} {q : List Int} (h : Lb w0 q wr) (i : Nat) (z : Int) : Lb w0 (q.set i z) (wr.setCell ⟨w0.heap.size + 1, i, none⟩ (.int .u8 z)) :=
  ⟨by rw [heap_setCell_other _ _ _ _ (by simp)]; exact h.res, by rw [heap_setCell_same _ _ _ _ _ _ h.box, lg_set], h.bel.setCell (by simp) _⟩

set_option maxRecDepth 100000 in
set_option maxHeartbeats 2000000 in
theorem lengths_few (A0 : Option Nat) (n c0 : Nat) (L : Int) (lv : List (Int × Int)) (hn : n = lv.length) (hn2 : n < 2) (hsy : Sy lv) (w : World) (ho : OwnI w A0 c0 lv) :
    Calls Try.prog 21 #[.slice (ad0 A0) n c0, .int .i64 L] w fun e w' => ∃ q, e = .returned (.agg (lg q)) ∧ Is (fun s => cntS lv s) q ∧ Below w.heap.size w w' := by
  have hz := lngZ
  have zI : ∀ w, (zeroValue 52).run Try.prog w = .ok (.agg #[.int .i64 0, .int .u64 0]) w := (zero_of_info (show (Try.prog.info? 52).map (fun i => (i.zero, i.size)) = some (some (.agg #[.int .i64 0, .int .u64 0]), 2) by kernel_rfl)).1
  have HN := Lib.hid hn
  have HO := Lib.hid ho
  have HSY := Lib.hid hsy
  clear hn ho hsy
  go_enter Try.func21, Try.ntmps21
  go_wp2_with fail
  have hL0 : Lb w zL ((w.alloc (.cells (lg zL) 25)).alloc (.cells (lg zL) 25)) := ⟨heap_alloc2_old w _ _, heap_alloc2_new w _ _, ((Below.refl _ _).alloc (Nat.le_refl _) _).alloc (by simp) _⟩
  generalize (w.alloc (.cells (lg zL) 25)).alloc (.cells (lg zL) 25) = w1 at hL0 ⊢
  go_loopw [19] (fun i wr => ∃ (k : Nat) (q : List Int), k ≤ n ∧ i = .int .i64 k ∧ Is (fun s => cntS (lv.take k) s) q ∧ Lb w q wr) (fun i _ => n - (intOf i).toNat)
  case atStart => exact ⟨0, zL, by omega, rfl, Is.zero, hL0⟩
  case round =>
    obtain ⟨k, q, hk, rfl, hq, hlb⟩ := hrel
    have HQ := Lib.hid hq
    have HB := Lib.hid hlb
    clear hq hlb
    by_cases hlt : k < n
    · have hown := HO.out.on HB.out.bel
      obtain ⟨g, rfl⟩ := hown.pos (by rw [← HN.out]; omega)
      have had : ad0 (some g) = some ⟨g, 0, none⟩ := rfl
      obtain ⟨c0, c1⟩ := hown.get k (by rw [← HN.out]; exact hlt)
      obtain ⟨s, hs, hs8⟩ : ∃ s : Nat, (lv.getD k (0, 0)).1 = s ∧ s < 258 := by
        have hm := HSY.out (lv.getD k (0, 0)) (by rw [List.getD_eq_getElem?_getD, List.getElem?_eq_getElem (by rw [← HN.out]; exact hlt)]; exact List.getElem_mem _)
        exact ⟨(lv.getD k (0, 0)).1.toNat, by omega, by omega⟩
      have HST := Lib.hid (cntS_take_succ lv k (by rw [← HN.out]; exact hlt))
      rw [hs] at c0 HST
      have hk0 : k = 0 := by omega
      have HK0 := Lib.hid hk0
      have hlq : Lng q := HQ.out.lng (fun s' _ => by rw [HK0.out]; simp [cntS])
      have hA := fun (t : TypeId) (a : Array Value) => (Below.refl wr.heap.size wr).alloc (Nat.le_refl _) (.cells a t)
      have hcr := fun (t : TypeId) (a : Array Value) => lg_cell (heap_on (hA t a) HB.out.box) hlq s hs8
      have hfr := fun (t : TypeId) (a : Array Value) => frozen_of_row _ _ s _ _ (heap_on (hA t a) HB.out.box)
      have HLB := Lib.hid (fun (t : TypeId) (a : Array Value) => (HB.out.on ((Below.refl _ _).alloc (Nat.le_refl _) (.cells a t))).set s 1)
      have hsI : (s : Int) < 258 := by omega
      generalize (lv.getD k (0, 0)).2 = Y at c1
      generalize q.getD s 0 = Z at hcr
      clear hown hA hk0 hs
      go_wp2_with fail
      refine ⟨⟨k + 1, _, by omega, by go_num, ?_, HLB.out _ _⟩, by simp [intOf]; omega⟩
      refine (HQ.out.set s 1 hs8).congr fun s' hs' => ?_
      show (if s' = s then 1 else cntS (lv.take k) s') = cntS (lv.take (k + 1)) s'
      rw [HST.out s', HK0.out, List.take_zero]
      by_cases e : s' = s
      · rw [if_pos e, if_pos (by omega)]
        rfl
      · rw [if_neg e, if_neg (by omega)]
        rfl
    · obtain rfl : k = n := by omega
      have ht : lv.take k = lv := List.take_of_length_le (by rw [HN.out]; exact Nat.le_refl _)
      have hq := HQ.out
      rw [ht] at hq
      have hlq : Lng q := hq.lng (fun s' _ => by
        have h2 : cntS lv s' ≤ lv.length := List.countP_le_length
        have := HN.out
        omega)
      have HQ2 := Lib.hid hq
      clear hq ht
      go_wp2_with (first
        | (refine wpList_load_row rfl 25 _ rfl (w.heap.size + 1) rfl 25 (lg q) (0, 0) _ HB.out.box Try.underlying25 rfl (lngIk hlq) ?_)
        | (refine wpList_store_row rfl 25 _ _ rfl w.heap.size (lg q) rfl rfl 25 (lg zL) HB.out.res (lngIk hlq) (by rw [lg_size zL_lng, lg_size hlq]) (lg_all _) ?_))
      refine bodyPost_ret (v := .agg (lg q)) ?_ rfl ⟨q, rfl, HQ2.out, HB.out.bel.setRow (Nat.le_refl _) _⟩
      exact results_cell_row Try.results21 _ _ w.heap.size 25 (lg q) (0, 0) _ rfl (setRow_heap _ _ _ _ _ _ HB.out.res) Try.underlying25 rfl (lngIk hlq)
end Go.Proofs.Ytemjlmeakkknbaa
