/- The reference's Lengths. -/
import Derived.Test.YtemjlmeakkknbaaRc
set_option linter.unusedVariables false
set_option linter.unusedSimpArgs false
namespace Go.Proofs.Ytemjlmeakkknbaa
open Go.RowKit

theorem sumT_mono (lv : List (Int × Int)) (k : Nat) (s : Int) : ∀ {a b : Nat}, a ≤ b → sumT lv k a s ≤ sumT lv k b s := by
  intro a b h
  induction b with
  | zero => rw [show a = 0 by omega]; exact Nat.le_refl _
  | succ b ih =>
    by_cases e : a = b + 1
    · subst e
      exact Nat.le_refl _
    · have := ih (by omega)
      rw [sumT]
      omega
/-- What is counted, all in all. -/
theorem all_len {t : List Int} (ht : t.length = 258) {L : Nat} (hL : 1 ≤ L) (hn : (lvT t).length ≤ 2 ^ L) (h1 : (lvT t).length ≠ 1) (s : Nat) :
    sumT (lvT t) (L - 1) (2 * (lvT t).length - 2) s = lenV t L s := by
  have hsy := lvT_sy t ht
  have hroom := row_enough (lv := lvT t) hL hn
  rw [sumT_is (fun y hy => (hsy y hy).1) (by omega) _ _ hroom]
  unfold lenV lnV
  by_cases h2 : (lvT t).length < 2
  · rw [if_pos h2]
    have h0 : lvT t = [] := List.eq_nil_of_length_eq_zero (by omega)
    rw [← sumT_is (fun y hy => (hsy y hy).1) (by omega) _ _ hroom, h0]
    rfl
  · rw [if_neg h2]
theorem fit_at {t : List Int} (ht : t.length = 258) {L : Nat} (hL : 1 ≤ L) (hL15 : L ≤ 15) (hn : (lvT t).length ≤ 2 ^ L) (h1 : (lvT t).length ≠ 1) {m : Nat} (hm : m < 2 * (lvT t).length - 2) {q : List Int}
    (hq : Is (fun s => sumT (lvT t) (L - 1) m s) q) : Fit (lvT t) (L - 1) m q := by
  have hb : ∀ s : Nat, sumT (lvT t) (L - 1) (m + 1) s ≤ 255 := fun s => by
    have h2 := sumT_mono (lvT t) (L - 1) s (show m + 1 ≤ 2 * (lvT t).length - 2 by omega)
    rw [all_len ht hL hn h1 s] at h2
    have h3 := lenV_le (l := t) hL hn s
    omega
  refine ⟨hq.lng (fun s _ => ?_), fun s hs => ?_⟩
  · have := hb s
    rw [sumT] at this
    omega
  · have := hb s
    rw [sumT] at this
    rw [hq.2 s (by rw [← hq.1]; exact hs)]
    show ((sumT (lvT t) (L - 1) m s : Nat) : Int) + _ ≤ _
    omega
theorem is_add {lv : List (Int × Int)} {k m : Nat} {q : List Int} (hq : Is (fun s => sumT lv k m s) q) : Is (fun s => sumT lv k (m + 1) s) (addQ lv k m q) := by
  refine ⟨by rw [addQ_len]; exact hq.1, fun s hs => ?_⟩
  have e : q.getD s 0 = ((sumT lv k m s : Nat) : Int) := hq.2 s hs
  rw [addQ_get _ _ _ _ _ (by rw [hq.1]; exact hs), e]
  show _ = ((sumT lv k (m + 1) s : Nat) : Int)
  rw [sumT]
  omega
theorem is_fin {t : List Int} (ht : t.length = 258) {L : Nat} (hok : LOk t L) (h1 : (lvT t).length ≠ 1) {q : List Int} (hq : Is (fun s => sumT (lvT t) (L - 1) (2 * (lvT t).length - 2) s) q) : q = lenQ t L := by
  have h2 := lenQ_is ht hok
  obtain ⟨_, h3, _, h4⟩ := hok
  refine (hq.congr fun s _ => ?_).eq h2
  rw [Int.toNat_natCast] at h4 ⊢
  exact all_len ht (by omega) h4 h1 s
/-- One symbol. -/
theorem is_one {t : List Int} (ht : t.length = 258) {L : Nat} (hok : LOk t L) (h1 : (lvT t).length = 1) (m : Nat) (hm : (ordL t).getD 0 0 = m) (hm8 : m < 258) : zL.set m 1 = lenQ t L := by
  refine Is.eq (F := fun s => if s = m then 1 else 0) (Is.zero.set m 1 hm8) ((lenQ_is ht hok).congr fun s _ => ?_)
  unfold lenV lnV
  rw [if_pos (by omega)]
  obtain ⟨x, hx⟩ := List.length_eq_one_iff.1 h1
  rw [ordL, hx] at hm
  rw [hx, cntS_cons]
  have hm' : x.1 = (m : Int) := hm
  rw [hm']
  by_cases e : s = m
  · subst e
    simp [cntS]
  · rw [if_neg (by omega), if_neg e]
    rfl

/-- The boxes: the tally, the result, the lengths. -/
structure Rb (w0 : World) (t q : List Int) (w : World) : Prop where
  tal : w.heap[w0.heap.size]? = some (.cells (tl t) 23 (0, 0))
  res : w.heap[w0.heap.size + 1]? = some (.cells (lg zL) 25 (0, 0))
  box : w.heap[w0.heap.size + 1 + 1]? = some (.cells (lg q) 25 (0, 0))
  bel : Below w0.heap.size w0 w
theorem Rb.on {w0 w w' : World} {t q : List Int} (h : Rb w0 t q w) (hb : Below w.heap.size w w') : Rb w0 t q w' := ⟨heap_on hb h.tal, heap_on hb h.res, heap_on hb h.box, h.bel.trans (hb.mono h.bel.size)⟩
theorem Rb.start (w : World) (t : List Int) : Rb w t zL (((w.alloc (.cells (tl t) 23)).alloc (.cells (lg zL) 25)).alloc (.cells (lg zL) 25)) := by
  have b1 := below_al' w (.cells (tl t) 23)
  have b2 := below_al' (w.alloc (.cells (tl t) 23)) (.cells (lg zL) 25)
  have b3 := below_al' ((w.alloc (.cells (tl t) 23)).alloc (.cells (lg zL) 25)) (.cells (lg zL) 25)
  have n2 := heap_alloc2_new w (.cells (tl t) 23) (.cells (lg zL) 25)
  have n3 := heap_alloc2_new (w.alloc (.cells (tl t) 23)) (.cells (lg zL) 25) (.cells (lg zL) 25)
  have e : (w.alloc (.cells (tl t) 23)).heap.size = w.heap.size + 1 := by simp
  rw [e] at n3
  exact ⟨heap_on b3 (heap_on b2 (heap_alloc_last w _)), heap_on b3 n2, n3, (b1.trans (b2.mono b1.size)).trans (b3.mono (b1.trans (b2.mono b1.size)).size)⟩
theorem Rb.set {w0 w : World} {t q : List Int} (h : Rb w0 t q w) (q' : List Int) (hq : Lng q) (hq' : Lng q') : Rb w0 t q' (w.setRow (w0.heap.size + 1 + 1) (lg q')) := by
  refine ⟨?_, ?_, setRow_heap _ _ _ _ _ _ h.box, h.bel.setRow (by omega) _⟩
  · rw [setRow_other _ _ _ _ (by omega)]; exact h.tal
  · rw [setRow_other _ _ _ _ (by omega)]; exact h.res

theorem Rw2.ch {lv : List (Int × Int)} {g L c b : Nat} {D : List Sl} {w w' : World} (h : Rw2 lv g L c D w) (hc : Ch (fun y => y = b) w w') (hg : g ≠ b) (hd : ∀ (i : Nat) (d : Sl) (x : Addr), D[i]? = some d → d.a = some x → x.block ≠ b) : Rw2 lv g L c D w' :=
  ⟨h.own.ch hc (fun y e k => hg (by injection e with e; exact e.trans k)), fun j d e => (h.ok j d e).ch hc (fun x e2 => hd j d x e e2)⟩
theorem chRow {w w' : World} {b : Nat} (h : Ch (fun y => y = b) w w') (cs : Array Value) : Ch (fun y => y = b) w (w'.setRow b cs) := by
  refine h.trans (S' := fun y => y = b) ⟨rfl, rfl, rfl, by simp, fun k hk hn => setRow_other _ _ _ _ hn⟩ (fun i _ e => e)

set_option maxRecDepth 100000 in
set_option maxHeartbeats 2000000 in
theorem rlengths_no (t : List Int) (ht : Tal t) (L : Int) (hL : -9223372036854775808 ≤ L ∧ L ≤ 9223372036854775807) (hno : ¬ LOk t L) (w : World) :
    Calls Try.prog 9 #[.agg (tl t), .int .i64 L] w fun e w' => e = .returned (.tuple #[.agg (lg zL), .int .i64 2]) ∧ Below w.heap.size w w' := by
  have hz := lngZ
  have hro := fun w => rorder_call t ht w
  have hrv := fun w => rvalid_call t ht w
  have HNO := Lib.hid hno
  have HOV := Lib.hid (fun h : VT t => (show (ordV t).length = (lvT t).length from by rw [show ordV t = ordL t from if_pos h]; exact ordL_len t))
  have HLE := Lib.hid (show (ordV t).length ≤ 258 from by
    unfold ordV
    split
    · rw [ordL_len, ← ht.1]; exact lvT_le t
    · exact Nat.zero_le _)
  clear hno
  generalize ordV t = od at hro HOV HLE
  go_enter Try.func9, Try.ntmps9
  go_upto_region 2 with fail
  obtain ⟨w1, hw1⟩ : ∃ w1, w1 = ((w.alloc (.cells (tl t) 23)).alloc (.cells (lg zL) 25)).alloc (.cells (lg zL) 25) := ⟨_, rfl⟩
  have h3 : Rb w t zL w1 := by rw [hw1]; exact Rb.start w t
  rw [← hw1]
  clear hw1
  have hg := h3.tal
  have HR := Lib.hid h3
  clear h3
  go_upto_region 3 with (first
    | (refine wpList_load_row rfl 23 _ rfl w.heap.size rfl 23 (tl t) (0, 0) _ hg Try.underlying23 rfl (talIk ht) ?_)
    | (with_reducible refine (hro _).mono ?_; rintro e w2 ⟨oa, oc, rfl, hos, hob⟩))
  have HR2 := Lib.hid (HR.out.on hob)
  have hg2 := HR2.out.tal
  obtain ⟨n, hn⟩ : ∃ n, n = od.length := ⟨_, rfl⟩
  rw [← hn] at HOV HLE ⊢
  clear hos hob hro HR hg hn
  have hn8 := HLE.out
  have hvc := hrv w2
  by_cases hv : VT t
  · rw [decide_eq_true hv] at hvc
    by_cases h1 : L < 1
    · clear HOV HNO hrv
      go_wp2_with (first
          | (refine wpList_load_row rfl 23 _ rfl w.heap.size rfl 23 (tl t) (0, 0) _ hg2 Try.underlying23 rfl (talIk ht) ?_)
          | (with_reducible refine hvc.mono ?_; rintro e w3 ⟨rfl, hb3⟩
             have hs3 := (HR2.out.on hb3).res
             have hx3 := (HR2.out.on hb3).box)
          | (refine wpList_load_row rfl 25 _ rfl (w.heap.size + 1 + 1) rfl 25 (lg zL) (0, 0) _ hx3 Try.underlying25 rfl (lngIk zL_lng) ?_)
          | (refine wpList_store_row rfl 25 _ _ rfl (w.heap.size + 1) (lg zL) rfl rfl 25 (lg zL) hs3 (lngIk zL_lng) rfl (lg_all _) ?_))
      refine bodyPost_ret (v := .tuple #[.agg (lg zL), .int .i64 2]) ?_ rfl ⟨rfl, (HR2.out.on hb3).bel.setRow (by omega) _⟩
      exact results_cell_tmp Try.results9 _ _ (w.heap.size + 1) 25 (lg zL) (0, 0) _ _ rfl rfl (setRow_heap _ _ _ _ _ _ hs3) Try.underlying25 rfl (lngIk zL_lng)
    · by_cases h15 : 15 < L
      · clear HOV HNO hrv
        go_wp2_with (first
            | (refine wpList_load_row rfl 23 _ rfl w.heap.size rfl 23 (tl t) (0, 0) _ hg2 Try.underlying23 rfl (talIk ht) ?_)
            | (with_reducible refine hvc.mono ?_; rintro e w3 ⟨rfl, hb3⟩
               have hs3 := (HR2.out.on hb3).res
               have hx3 := (HR2.out.on hb3).box)
            | (refine wpList_load_row rfl 25 _ rfl (w.heap.size + 1 + 1) rfl 25 (lg zL) (0, 0) _ hx3 Try.underlying25 rfl (lngIk zL_lng) ?_)
            | (refine wpList_store_row rfl 25 _ _ rfl (w.heap.size + 1) (lg zL) rfl rfl 25 (lg zL) hs3 (lngIk zL_lng) rfl (lg_all _) ?_))
        refine bodyPost_ret (v := .tuple #[.agg (lg zL), .int .i64 2]) ?_ rfl ⟨rfl, (HR2.out.on hb3).bel.setRow (by omega) _⟩
        exact results_cell_tmp Try.results9 _ _ (w.heap.size + 1) 25 (lg zL) (0, 0) _ _ rfl rfl (setRow_heap _ _ _ _ _ _ hs3) Try.underlying25 rfl (lngIk zL_lng)
      · obtain ⟨k, rfl⟩ : ∃ k : Nat, L = k := ⟨L.toNat, by omega⟩
        have hnn := HOV.out hv
        have hgt : ¬ n ≤ 2 ^ k := fun h => HNO.out ⟨hv, by omega, by omega, by rw [Int.toNat_natCast, ← hnn]; exact h⟩
        have hpw : 2 ^ k ≤ 2 ^ 15 := Nat.pow_le_pow_right (by omega) (by omega)
        have hpw2 : (2 : Int) ^ k ≤ 32768 := by
          have e : (((2 ^ k : Nat)) : Int) = (2 : Int) ^ k := by simp
          rw [← e]
          omega
        have hpw0 : (0 : Int) ≤ (2 : Int) ^ k := Int.pow_nonneg (by omega)
        obtain ⟨P, hP⟩ : ∃ P : Int, P = (2 : Int) ^ k := ⟨_, rfl⟩
        have hwp : wrap64 ((2 : Int) ^ k) = P := by rw [hP]; unfold wrap64; omega
        have HP := Lib.hid (show P = ((2 ^ k : Nat) : Int) by rw [hP]; simp)
        have hnP : P < (n : Int) := by rw [HP.out]; omega
        clear hnn hgt hpw hpw2 hpw0 hP HOV HNO hrv
        go_wp2_with (first
            | (refine wpList_load_row rfl 23 _ rfl w.heap.size rfl 23 (tl t) (0, 0) _ hg2 Try.underlying23 rfl (talIk ht) ?_)
            | (with_reducible refine hvc.mono ?_; rintro e w3 ⟨rfl, hb3⟩
               have hs3 := (HR2.out.on hb3).res
               have hx3 := (HR2.out.on hb3).box)
            | (refine wpList_load_row rfl 25 _ rfl (w.heap.size + 1 + 1) rfl 25 (lg zL) (0, 0) _ hx3 Try.underlying25 rfl (lngIk zL_lng) ?_)
            | (refine wpList_store_row rfl 25 _ _ rfl (w.heap.size + 1) (lg zL) rfl rfl 25 (lg zL) hs3 (lngIk zL_lng) rfl (lg_all _) ?_))
        refine bodyPost_ret (v := .tuple #[.agg (lg zL), .int .i64 2]) ?_ rfl ⟨rfl, (HR2.out.on hb3).bel.setRow (by omega) _⟩
        exact results_cell_tmp Try.results9 _ _ (w.heap.size + 1) 25 (lg zL) (0, 0) _ _ rfl rfl (setRow_heap _ _ _ _ _ _ hs3) Try.underlying25 rfl (lngIk zL_lng)
  · rw [decide_eq_false hv] at hvc
    clear HOV HNO hrv
    go_wp2_with (first
        | (refine wpList_load_row rfl 23 _ rfl w.heap.size rfl 23 (tl t) (0, 0) _ hg2 Try.underlying23 rfl (talIk ht) ?_)
        | (with_reducible refine hvc.mono ?_; rintro e w3 ⟨rfl, hb3⟩
           have hs3 := (HR2.out.on hb3).res
           have hx3 := (HR2.out.on hb3).box)
        | (refine wpList_load_row rfl 25 _ rfl (w.heap.size + 1 + 1) rfl 25 (lg zL) (0, 0) _ hx3 Try.underlying25 rfl (lngIk zL_lng) ?_)
        | (refine wpList_store_row rfl 25 _ _ rfl (w.heap.size + 1) (lg zL) rfl rfl 25 (lg zL) hs3 (lngIk zL_lng) rfl (lg_all _) ?_))
    refine bodyPost_ret (v := .tuple #[.agg (lg zL), .int .i64 2]) ?_ rfl ⟨rfl, (HR2.out.on hb3).bel.setRow (by omega) _⟩
    exact results_cell_tmp Try.results9 _ _ (w.heap.size + 1) 25 (lg zL) (0, 0) _ _ rfl rfl (setRow_heap _ _ _ _ _ _ hs3) Try.underlying25 rfl (lngIk zL_lng)

set_option maxRecDepth 100000 in
set_option maxHeartbeats 2000000 in
theorem rlengths_one (t : List Int) (ht : Tal t) (k : Nat) (hok : LOk t k) (h1 : (lvT t).length = 1) (w : World) :
    Calls Try.prog 9 #[.agg (tl t), .int .i64 k] w fun e w' => e = .returned (.tuple #[.agg (lg (lenQ t k)), .int .i64 0]) ∧ Below w.heap.size w w' := by
  have hz := lngZ
  have HV := Lib.hid hok.1
  have hro := fun w => rorder_call t ht w
  have hrv := fun w => rvalid_call t ht w
  rw [show ordV t = ordL t from if_pos hok.1, ordL_len] at hro
  have hk1 : 1 ≤ k := by have := hok.2.1; omega
  have hk15 : k ≤ 15 := by have := hok.2.2.1; omega
  have hn2 : (lvT t).length ≤ 2 ^ k := by have := hok.2.2.2; rw [Int.toNat_natCast] at this; exact this
  have hn8 : (lvT t).length ≤ 258 := by have := lvT_le t; rw [ht.1] at this; exact this
  have hpw : 2 ^ k ≤ 2 ^ 15 := Nat.pow_le_pow_right (by omega) (by omega)
  have hpw2 : (2 : Int) ^ k ≤ 32768 := by
    have e : (((2 ^ k : Nat)) : Int) = (2 : Int) ^ k := by simp
    rw [← e]
    omega
  have hpw0 : (0 : Int) ≤ (2 : Int) ^ k := Int.pow_nonneg (by omega)
  obtain ⟨P, hP⟩ : ∃ P : Int, P = (2 : Int) ^ k := ⟨_, rfl⟩
  have hwp : wrap64 ((2 : Int) ^ k) = P := by rw [hP]; unfold wrap64; omega
  have HP := Lib.hid (show P = ((2 ^ k : Nat) : Int) by rw [hP]; simp)
  obtain ⟨n, hn⟩ : ∃ n, n = (lvT t).length := ⟨_, rfl⟩
  have HN := Lib.hid hn
  rw [← hn] at hro hn2 hn8
  have hnP : ¬ P < (n : Int) := by rw [HP.out]; omega
  have hkI1 : (1 : Int) ≤ (k : Int) := by omega
  have hkI2 : (k : Int) ≤ 15 := by omega
  have HOK := Lib.hid hok
  obtain ⟨m, hm, hm8⟩ : ∃ m : Nat, (ordL t).getD 0 0 = m ∧ m < 258 := by
    obtain ⟨m, hm, hm8, _, _⟩ := ordL_at t 0 (by rw [h1]; omega)
    exact ⟨m, hm, by rw [← ht.1]; exact hm8⟩
  have HQ := Lib.hid (is_one ht.1 hok h1 m hm hm8)
  have HM := Lib.hid hm
  have HOL := Lib.hid (show (ordL t).length = 1 by rw [ordL_len]; exact h1)
  rw [h1] at hn
  rw [hn] at hro hn2 hn8 hnP
  generalize lenQ t k = Q at HQ ⊢
  clear hm h1
  clear hn2 hpw hpw2 hpw0 hP hn hok
  go_enter Try.func9, Try.ntmps9
  go_upto_region 2 with fail
  obtain ⟨w1, hw1⟩ : ∃ w1, w1 = ((w.alloc (.cells (tl t) 23)).alloc (.cells (lg zL) 25)).alloc (.cells (lg zL) 25) := ⟨_, rfl⟩
  have h3 : Rb w t zL w1 := by rw [hw1]; exact Rb.start w t
  rw [← hw1]
  clear hw1
  have hg := h3.tal
  have HR := Lib.hid h3
  clear h3
  go_upto_region 3 with (first
    | (refine wpList_load_row rfl 23 _ rfl w.heap.size rfl 23 (tl t) (0, 0) _ hg Try.underlying23 rfl (talIk ht) ?_)
    | (with_reducible refine (hro _).mono ?_; rintro e w2 ⟨oa, oc, rfl, hos, hob⟩))
  have HR2 := Lib.hid (HR.out.on hob)
  have hg2 := HR2.out.tal
  have HOS := Lib.hid hos
  clear hos hob hro HR hg
  have hvc := hrv w2
  rw [decide_eq_true HV.out] at hvc
  clear hrv
  go_upto_region 5 with (first
    | (refine wpList_load_row rfl 23 _ rfl w.heap.size rfl 23 (tl t) (0, 0) _ hg2 Try.underlying23 rfl (talIk ht) ?_)
    | (with_reducible refine hvc.mono ?_; rintro e w3 ⟨rfl, hb3⟩))
  have HR3 := Lib.hid (HR2.out.on hb3)
  have HOS3 := Lib.hid (HOS.out.below hb3)
  clear hvc hg2 hb3 HR2 HOS
  obtain ⟨og, oo, rfl, hoc⟩ := HOS3.out.get (j := 0) (by rw [HOL.out]; omega)
  rw [HM.out, Nat.add_zero] at hoc
  have hx3 := HR3.out.box
  have hs3 := HR3.out.res
  have hcm := lg_cell hx3 zL_lng m hm8
  have hfm := frozen_of_row _ _ m _ _ hx3
  have HX := Lib.hid hx3
  have HS := Lib.hid hs3
  have hmI : (m : Int) < 258 := by omega
  have hmI0 : (0 : Int) ≤ (m : Int) := by omega
  clear hx3 hs3
  go_upto_region 7 with fail
  have hx4 : (w3.setCell ⟨w.heap.size + 1 + 1, m, none⟩ (.int .u8 1)).heap[w.heap.size + 1 + 1]? = some (.cells (lg Q) 25 (0, 0)) := by rw [heap_setCell_same _ _ _ _ _ _ HX.out, lg_set, HQ.out]
  have hs4 : (w3.setCell ⟨w.heap.size + 1 + 1, m, none⟩ (.int .u8 1)).heap[w.heap.size + 1]? = some (.cells (lg zL) 25 (0, 0)) := by rw [heap_setCell_other _ _ _ _ (by simp)]; exact HS.out
  have HB4 : RowKit.Hid (Below w.heap.size w (w3.setCell ⟨w.heap.size + 1 + 1, m, none⟩ (.int .u8 1))) := Lib.hid (HR3.out.bel.setCell (by show w.heap.size ≤ w.heap.size + 1 + 1; omega) _)
  have hlQ : Lng Q := by rw [← HQ.out]; exact zL_lng.set m 1 (by decide)
  generalize w3.setCell ⟨w.heap.size + 1 + 1, m, none⟩ (.int .u8 1) = w4 at hx4 hs4 HB4 ⊢
  clear hoc hcm hfm
  go_wp2_with (first
    | (refine wpList_load_row rfl 25 _ rfl (w.heap.size + 1 + 1) rfl 25 (lg Q) (0, 0) _ hx4 Try.underlying25 rfl (lngIk hlQ) ?_)
    | (refine wpList_store_row rfl 25 _ _ rfl (w.heap.size + 1) (lg Q) rfl rfl 25 (lg zL) hs4 (lngIk hlQ) (by rw [lg_size zL_lng, lg_size hlQ]) (lg_all _) ?_))
  refine bodyPost_ret (v := .tuple #[.agg (lg Q), .int .i64 0]) ?_ rfl ⟨rfl, HB4.out.setRow (by omega) _⟩
  exact results_cell_tmp Try.results9 _ _ (w.heap.size + 1) 25 (lg Q) (0, 0) _ _ rfl rfl (setRow_heap _ _ _ _ _ _ hs4) Try.underlying25 rfl (lngIk hlQ)

set_option maxRecDepth 100000 in
set_option maxHeartbeats 2000000 in
theorem rlengths_many (t : List Int) (ht : Tal t) (k : Nat) (hok : LOk t k) (h1 : (lvT t).length ≠ 1) (w : World) :
    Calls Try.prog 9 #[.agg (tl t), .int .i64 k] w fun e w' => e = .returned (.tuple #[.agg (lg (lenQ t k)), .int .i64 0]) ∧ Below w.heap.size w w' := by
  have hz := lngZ
  have HV := Lib.hid hok.1
  have hro := fun w => rorder_call t ht w
  have hrv := fun w => rvalid_call t ht w
  rw [show ordV t = ordL t from if_pos hok.1, ordL_len] at hro
  have hk1 : 1 ≤ k := by have := hok.2.1; omega
  have hk15 : k ≤ 15 := by have := hok.2.2.1; omega
  have hn2 : (lvT t).length ≤ 2 ^ k := by have := hok.2.2.2; rw [Int.toNat_natCast] at this; exact this
  have hn8 : (lvT t).length ≤ 258 := by have := lvT_le t; rw [ht.1] at this; exact this
  have hpw : 2 ^ k ≤ 2 ^ 15 := Nat.pow_le_pow_right (by omega) (by omega)
  have hpw2 : (2 : Int) ^ k ≤ 32768 := by
    have e : (((2 ^ k : Nat)) : Int) = (2 : Int) ^ k := by simp
    rw [← e]
    omega
  have hpw0 : (0 : Int) ≤ (2 : Int) ^ k := Int.pow_nonneg (by omega)
  obtain ⟨P, hP⟩ : ∃ P : Int, P = (2 : Int) ^ k := ⟨_, rfl⟩
  have hwp : wrap64 ((2 : Int) ^ k) = P := by rw [hP]; unfold wrap64; omega
  have HP := Lib.hid (show P = ((2 ^ k : Nat) : Int) by rw [hP]; simp)
  obtain ⟨n, hn⟩ : ∃ n, n = (lvT t).length := ⟨_, rfl⟩
  have HN := Lib.hid hn
  rw [← hn] at hro hn2 hn8
  have hnP : ¬ P < (n : Int) := by rw [HP.out]; omega
  have hkI1 : (1 : Int) ≤ (k : Int) := by omega
  have hkI2 : (k : Int) ≤ 15 := by omega
  have HOK := Lib.hid hok
  have hne : n ≠ 1 := by rw [hn]; exact h1
  have hneI : (n : Int) ≠ 1 := by omega
  have hrr := rrows_call t ht HV.out k hk1 hk15
  have HSY := Lib.hid (lvT_sy t ht.1)
  have HFIT := Lib.hid (fun (m : Nat) (hm : m < 2 * n - 2) (q : List Int) (hq : Is (fun s => sumT (lvT t) (k - 1) m s) q) => fit_at ht.1 hk1 hk15 (by rw [← hn]; exact hn2) h1 (by rw [← hn]; exact hm) hq)
  have HFIN := Lib.hid (fun (q : List Int) (hq : Is (fun s => sumT (lvT t) (k - 1) (2 * n - 2) s) q) => is_fin (L := k) ht.1 HOK.out h1 (by rw [← hn]; exact hq))
  have HROOM := Lib.hid (show 2 * n - 2 ≤ (rowR (lvT t) (k - 1)).length by rw [hn]; exact row_enough hk1 (by rw [← hn]; exact hn2))
  generalize lvT t = lv at hrr HSY HFIT HFIN HROOM HN hn
  generalize lenQ t k = Q at HFIN ⊢
  clear h1
  clear hn2 hpw hpw2 hpw0 hP hn hok
  go_enter Try.func9, Try.ntmps9
  go_upto_region 2 with fail
  obtain ⟨w1, hw1⟩ : ∃ w1, w1 = ((w.alloc (.cells (tl t) 23)).alloc (.cells (lg zL) 25)).alloc (.cells (lg zL) 25) := ⟨_, rfl⟩
  have h3 : Rb w t zL w1 := by rw [hw1]; exact Rb.start w t
  rw [← hw1]
  clear hw1
  have hg := h3.tal
  have HR := Lib.hid h3
  clear h3
  go_upto_region 3 with (first
    | (refine wpList_load_row rfl 23 _ rfl w.heap.size rfl 23 (tl t) (0, 0) _ hg Try.underlying23 rfl (talIk ht) ?_)
    | (with_reducible refine (hro _).mono ?_; rintro e w2 ⟨oa, oc, rfl, hos, hob⟩))
  have HR2 := Lib.hid (HR.out.on hob)
  have hg2 := HR2.out.tal
  have HOS := Lib.hid hos
  clear hos hob hro HR hg
  have hvc := hrv w2
  rw [decide_eq_true HV.out] at hvc
  clear hrv
  go_upto_region 5 with (first
    | (refine wpList_load_row rfl 23 _ rfl w.heap.size rfl 23 (tl t) (0, 0) _ hg2 Try.underlying23 rfl (talIk ht) ?_)
    | (with_reducible refine hvc.mono ?_; rintro e w3 ⟨rfl, hb3⟩))
  have HR3 := Lib.hid (HR2.out.on hb3)
  have HOS3 := Lib.hid (HOS.out.below hb3)
  clear hvc hg2 hb3 HR2 HOS
  obtain ⟨j, hj⟩ : ∃ j, j = k - 1 := ⟨_, rfl⟩
  have hwk : IntKind.i64.wrap ((k : Int) - 1) = (j : Int) := by rw [IntKind.wrap_i64]; omega
  have hjk : j < k := by omega
  rw [← hj] at HFIT HFIN HROOM
  have HJK := Lib.hid hjk
  clear hj hjk
  have hg3 := HR3.out.tal
  have hrw := hrr w3
  go_upto_region 9 with (first
    | (refine wpList_load_row rfl 23 _ rfl w.heap.size rfl 23 (tl t) (0, 0) _ hg3 Try.underlying23 rfl (talIk ht) ?_)
    | ((with_reducible refine hrw.mono ?_)
       rintro e w4 ⟨A, c, D, rfl, hr4⟩))
  obtain ⟨g, _, hA, _⟩ := hr4.get (j := 0) (by omega)
  subst hA
  simp only [ad0_some]
  have hlt3 := (Array.getElem?_eq_some_iff.1 HR3.out.box).1
  have hR4 := HR3.out.on hr4.bel
  have HNG := Lib.hid (show g ≠ w.heap.size + 1 + 1 by have := hr4.new g rfl; omega)
  have HND := Lib.hid (show ∀ (i : Nat) (d : Sl) (x : Addr), D[i]? = some d → d.a = some x → x.block ≠ w.heap.size + 1 + 1 from fun i d x e e2 => by
    rcases hr4.old i d x e e2 with h | h
    · cases h
    · omega)
  have HM4 : RowKit.Hid (Rw2 lv g k c D w4) := Lib.hid ⟨hr4.own, hr4.ok⟩
  have HR4 := Lib.hid hR4
  have hw2 : IntKind.i64.wrap (2 * (n : Int)) = 2 * (n : Int) := by rw [IntKind.wrap_i64]; omega
  have hw3 : IntKind.i64.wrap (2 * (n : Int) - 2) = 2 * (n : Int) - 2 := by rw [IntKind.wrap_i64]; omega
  clear hr4 hrw hg3 hlt3 hR4 hrr HR3 HOS3
  go_wp2_with fail
  go_loopw [9] (fun s9 wr => ∃ (m : Nat) (q : List Int), m ≤ 2 * n - 2 ∧ s9 = .int .i64 m ∧ Is (fun s => sumT lv j m s) q ∧ Lng q ∧ Rb w t q wr ∧ Ch (fun y => y = w.heap.size + 1 + 1) w4 wr) (fun s9 _ => 2 * n - 2 - (intOf s9).toNat)
  case atStart => exact ⟨0, zL, Nat.zero_le _, rfl, Is.zero, zL_lng, HR4.out, Ch.refl _ _⟩
  case round =>
    obtain ⟨m, q, hm, rfl, hq, hlq, hrb, hch⟩ := hrel
    have HRB := Lib.hid hrb
    have HCH := Lib.hid hch
    have HIS := Lib.hid hq
    have hbx := hrb.box
    by_cases hlt : m < 2 * n - 2
    · have hltI : (m : Int) < 2 * (n : Int) - 2 := by omega
      have hfit := HFIT.out m hlt q hq
      have HNX := Lib.hid (is_add hq)
      have hrl := hfit.lng
      have hcc := count_call lv HSY.out g k c hk15 D j HJK.out m (by have := HROOM.out; omega) q hfit wr (HM4.out.ch hch HNG.out HND.out)
      generalize addQ lv j m q = r at HNX hrl hcc
      clear hrb hch hq hfit hm
      go_wp2_with (first
        | (refine wpList_load_row rfl 25 _ rfl (w.heap.size + 1 + 1) rfl 25 (lg q) (0, 0) _ hbx Try.underlying25 rfl (lngIk hlq) ?_)
        | (with_reducible refine hcc.mono ?_; rintro e w5 ⟨rfl, hb5⟩
           have hx5 := heap_on hb5 hbx)
        | (refine wpList_store_row rfl 25 _ _ rfl (w.heap.size + 1 + 1) (lg r) rfl rfl 25 (lg q) hx5 (lngIk hrl) (by rw [lg_size hlq, lg_size hrl]) (lg_all _) ?_))
      refine ⟨⟨m + 1, r, by omega, by go_num, HNX.out, hrl, (HRB.out.on hb5).set r hlq hrl, chRow (HCH.out.trans (Ch.of_below hb5) (fun _ _ e => e)) _⟩, by simp [intOf]; omega⟩
    · have hltI : ¬ (m : Int) < 2 * (n : Int) - 2 := by omega
      obtain rfl : q = Q := HFIN.out q (by rw [show 2 * n - 2 = m by omega]; exact hq)
      have hs3 := hrb.res
      clear hrb hch hq
      go_wp2_with (first
        | (refine wpList_load_row rfl 25 _ rfl (w.heap.size + 1 + 1) rfl 25 (lg q) (0, 0) _ hbx Try.underlying25 rfl (lngIk hlq) ?_)
        | (refine wpList_store_row rfl 25 _ _ rfl (w.heap.size + 1) (lg q) rfl rfl 25 (lg zL) hs3 (lngIk hlq) (by rw [lg_size zL_lng, lg_size hlq]) (lg_all _) ?_))
      refine bodyPost_ret (v := .tuple #[.agg (lg q), .int .i64 0]) ?_ rfl ⟨rfl, HRB.out.bel.setRow (by omega) _⟩
      exact results_cell_tmp Try.results9 _ _ (w.heap.size + 1) 25 (lg q) (0, 0) _ _ rfl rfl (setRow_heap _ _ _ _ _ _ hs3) Try.underlying25 rfl (lngIk hlq)

theorem rlengths_call (t : List Int) (ht : Tal t) (L : Int) (hL : -9223372036854775808 ≤ L ∧ L ≤ 9223372036854775807) (w : World) :
    Calls Try.prog 9 #[.agg (tl t), .int .i64 L] w fun e w' => e = .returned (.tuple #[.agg (lg (lenQ t L)), .int .i64 (lenE t L)]) ∧ Below w.heap.size w w' := by
  by_cases hok : LOk t L
  · rw [lenE_ok hok]
    obtain ⟨k, rfl⟩ : ∃ k : Nat, L = k := ⟨L.toNat, by have := hok.2.1; omega⟩
    by_cases h1 : (lvT t).length = 1
    · exact rlengths_one t ht k hok h1 w
    · exact rlengths_many t ht k hok h1 w
  · obtain ⟨e1, e2⟩ := lenQ_no hok
    rw [e1, e2]
    exact rlengths_no t ht L hL hok w
end Go.Proofs.Ytemjlmeakkknbaa
