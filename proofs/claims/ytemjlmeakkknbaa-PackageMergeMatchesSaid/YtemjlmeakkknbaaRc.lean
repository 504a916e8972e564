/- The reference's count: an item's leaves are added. -/
import Derived.Test.YtemjlmeakkknbaaRr
import Derived.Test.YtemjlmeakkknbaaLe
set_option linter.unusedVariables false
set_option linter.unusedSimpArgs false
namespace Go.Proofs.Ytemjlmeakkknbaa
open Go.RowKit

/-- What count answers. -/
def addQ (lv : List (Int × Int)) (k i : Nat) (q : List Int) : List Int := (List.range q.length).map fun s => q.getD s 0 + (cT lv k i s : Int)
theorem addQ_len (lv : List (Int × Int)) (k i : Nat) (q : List Int) : (addQ lv k i q).length = q.length := by simp [addQ]
theorem addQ_get (lv : List (Int × Int)) (k i : Nat) (q : List Int) (s : Nat) (hs : s < q.length) : (addQ lv k i q).getD s 0 = q.getD s 0 + (cT lv k i s : Int) := by
  unfold addQ
  rw [List.getD_eq_getElem?_getD, List.getElem?_map, List.getElem?_range hs]
  rfl
theorem list_eq_getD {q r : List Int} (hl : q.length = r.length) (h : ∀ s, s < q.length → q.getD s 0 = r.getD s 0) : q = r := by
  apply List.ext_getElem hl
  intro i h1 h2
  have := h i h1
  rw [List.getD_eq_getElem?_getD, List.getD_eq_getElem?_getD, List.getElem?_eq_getElem h1, List.getElem?_eq_getElem h2] at this
  exact this
/-- The answer holds in its bytes. -/
def Fit (lv : List (Int × Int)) (k i : Nat) (q : List Int) : Prop := Lng q ∧ ∀ s : Nat, s < q.length → q.getD s 0 + (cT lv k i s : Int) ≤ 255
theorem Fit.lng {lv : List (Int × Int)} {k i : Nat} {q : List Int} (h : Fit lv k i q) : Lng (addQ lv k i q) := by
  refine ⟨by rw [addQ_len]; exact h.1.1, fun z hz => ?_⟩
  obtain ⟨s, hs, rfl⟩ := List.mem_map.1 hz
  have hs' := List.mem_range.1 hs
  have h1 := h.2 s hs'
  have h2 := (h.1.bd s).1
  exact WalkArith.wf_u8 ⟨by omega, h1⟩
theorem cT_leaf {lv : List (Int × Int)} {k i : Nat} (hi : i < (rowR lv k).length) (h0 : 0 ≤ ((rowR lv k)[i]).1) (s : Int) : cT lv k i s = if ((rowR lv k)[i]).1 = s then 1 else 0 := by
  have e : (rowR lv k).getD i (-1, 0) = (rowR lv k)[i] := by rw [List.getD_eq_getElem?_getD, List.getElem?_eq_getElem hi]; rfl
  cases k with
  | zero => rw [cT, e]
  | succ k => rw [cT, e, if_pos h0]
theorem cT_pack {lv : List (Int × Int)} {k i : Nat} (hi : i < (rowR lv (k + 1)).length) (h0 : ¬ 0 ≤ ((rowR lv (k + 1))[i]).1) (s : Int) :
    cT lv (k + 1) i s = cT lv k (2 * pkN ((rowR lv (k + 1)).take i)) s + cT lv k (2 * pkN ((rowR lv (k + 1)).take i) + 1) s := by
  have e : (rowR lv (k + 1)).getD i (-1, 0) = (rowR lv (k + 1))[i] := by rw [List.getD_eq_getElem?_getD, List.getElem?_eq_getElem hi]; rfl
  rw [cT, e, if_neg h0]
theorem addQ_leaf {lv : List (Int × Int)} {k i : Nat} {q : List Int} (hi : i < (rowR lv k).length) (m : Nat) (h0 : ((rowR lv k)[i]).1 = (m : Int)) (hm : m < q.length) :
    q.set m (q.getD m 0 + 1) = addQ lv k i q := by
  apply list_eq_getD (by rw [List.length_set, addQ_len])
  intro s hs
  rw [List.length_set] at hs
  rw [addQ_get _ _ _ _ _ hs, cT_leaf hi (by rw [h0]; omega), h0, List.getD_eq_getElem?_getD, List.getElem?_set]
  by_cases e : m = s
  · subst e
    rw [if_pos rfl, if_pos hm, if_pos rfl]
    rfl
  · rw [if_neg e, ← List.getD_eq_getElem?_getD, if_neg (by omega)]
    simp
theorem addQ_pack {lv : List (Int × Int)} {k i : Nat} {q : List Int} (hi : i < (rowR lv (k + 1)).length) (h0 : ¬ 0 ≤ ((rowR lv (k + 1))[i]).1) :
    addQ lv k (2 * pkN ((rowR lv (k + 1)).take i) + 1) (addQ lv k (2 * pkN ((rowR lv (k + 1)).take i)) q) = addQ lv (k + 1) i q := by
  apply list_eq_getD (by rw [addQ_len, addQ_len, addQ_len])
  intro s hs
  rw [addQ_len, addQ_len] at hs
  rw [addQ_get _ _ _ _ _ (by rw [addQ_len]; exact hs), addQ_get _ _ _ _ _ hs, addQ_get _ _ _ _ _ hs, cT_pack hi h0]
  omega
theorem Fit.one {lv : List (Int × Int)} {k i : Nat} {q : List Int} (h : Fit lv (k + 1) i q) (hi : i < (rowR lv (k + 1)).length) (h0 : ¬ 0 ≤ ((rowR lv (k + 1))[i]).1) : Fit lv k (2 * pkN ((rowR lv (k + 1)).take i)) q := ⟨h.1, fun s hs => by
  have := h.2 s hs
  rw [cT_pack hi h0] at this
  omega⟩
theorem Fit.two {lv : List (Int × Int)} {k i : Nat} {q : List Int} (h : Fit lv (k + 1) i q) (hi : i < (rowR lv (k + 1)).length) (h0 : ¬ 0 ≤ ((rowR lv (k + 1))[i]).1) : Fit lv k (2 * pkN ((rowR lv (k + 1)).take i) + 1) (addQ lv k (2 * pkN ((rowR lv (k + 1)).take i)) q) := ⟨(h.one hi h0).lng, fun s hs => by
  rw [addQ_len] at hs
  have := h.2 s hs
  rw [cT_pack hi h0] at this
  rw [addQ_get _ _ _ _ _ hs]
  omega⟩
/-- Both parts lie in the row before. -/
theorem part_lt {lv : List (Int × Int)} {k i : Nat} (hlv : ∀ y ∈ lv, 0 ≤ y.1) (hi : i < (rowR lv (k + 1)).length) (h0 : ¬ 0 ≤ ((rowR lv (k + 1))[i]).1) : 2 * pkN ((rowR lv (k + 1)).take i) + 1 < (rowR lv k).length := by
  have h1 : pkN ((rowR lv (k + 1)).take (i + 1)) = pkN ((rowR lv (k + 1)).take i) + 1 := by
    have := pkN_take_succ (rowR lv (k + 1)) i hi
    rw [List.getD_eq_getElem?_getD, List.getElem?_eq_getElem hi, Option.getD_some, if_neg h0] at this
    exact this
  have h2 : pkN ((rowR lv (k + 1)).take (i + 1)) ≤ pkN (rowR lv (k + 1)) := by
    have := pkN_append ((rowR lv (k + 1)).take (i + 1)) ((rowR lv (k + 1)).drop (i + 1))
    rw [List.take_append_drop] at this
    omega
  have h3 : pkN (rowR lv (k + 1)) ≤ (rowR lv k).length / 2 := by
    rw [rowR, pkN_perm (mgR_perm _ _), pkN_append, pkN_zero hlv, Nat.zero_add, ← pkR_length]
    have h4 := lf_pk (pkR (rowR lv k))
    omega
  omega
theorem range_row7 {w : World} {g : Nat} {t : TypeId} {fr : Nat × Nat} {cs : Array Value} (h : w.heap[g]? = some (.cells cs t fr)) : w.rangeAt g 0 cs.toList := fun j v hv => by
  simp only [World.cell?, h, Nat.zero_add]
  simpa using hv
theorem range_on7 {w w' : World} {g o : Nat} {cs : List Value} (h : w.rangeAt g o cs) (hb : Below w.heap.size w w') : w'.rangeAt g o cs := fun j v hv => cell_on hb (h j v hv)
theorem there_row7 {w : World} {g : Nat} (h : w.heap[g]? = some (.cells (lg zL) 25 (0, 0))) : w.there g 0 258 := fun j hj => by
  have hc : w.cell? ⟨g, 0 + j, none⟩ = some (.int .u8 (zL.getD j 0)) := by rw [Nat.zero_add, cell_of_row _ _ _ _ _ _ h, lg_get zL_lng j hj]
  exact ⟨by rw [hc]; rfl, frozen_of_row _ _ _ _ _ h⟩
theorem setCells_lng (W : World) (g : Nat) (hg : W.heap[g]? = some (.cells (lg zL) 25 (0, 0))) (L : List Int) (hL : Lng L) : W.setCells g 0 (lg L).toList = W.setRow g (lg L) := by
  have h1 := run_storeVar_mid (P := Try.prog) W g 0 25 (lg L) (by rw [lg_size hL]; exact there_row7 hg) (lngIk hL) (lg_all L)
  have h2 := run_storeVar_row (P := Try.prog) W g 25 25 (lg zL) (lg L) hg (lngIk hL) (by rw [lg_size hL, lg_size zL_lng]) (lg_all L)
  rw [h1] at h2
  injection h2
/-- The rows in memory. -/
structure Rw2 (lv : List (Int × Int)) (g L c : Nat) (D : List Sl) (w : World) : Prop where
  own : OwnC w 57 1 (some g) c L (D.map slC)
  ok : ∀ (j : Nat) (d : Sl), D[j]? = some d → OkT w d (tagL 0 (rowR lv j))
theorem Rw2.on {lv : List (Int × Int)} {g L c : Nat} {D : List Sl} {w w' : World} (h : Rw2 lv g L c D w) (hb : Below w.heap.size w w') : Rw2 lv g L c D w' := ⟨h.own.on hb, fun j d e => (h.ok j d e).on hb⟩
theorem Rw2.get {lv : List (Int × Int)} {g L c : Nat} {D : List Sl} {w : World} (h : Rw2 lv g L c D w) {j : Nat} (hj : j < L) : ∃ d : Sl, w.cell? ⟨g, j, none⟩ = some (.slice d.a d.n d.c) ∧ OkT w d (tagL 0 (rowR lv j)) := by
  have hl := h.own.len
  rw [List.length_map] at hl
  have hd : D[j]? = some (D[j]'(by omega)) := List.getElem?_eq_getElem (by omega)
  obtain ⟨g', o, e, hc⟩ := h.own.src.pos (by rw [List.length_map]; omega)
  injection e with e
  injection e with e1 e2 _
  subst e1 e2
  refine ⟨_, ?_, h.ok j _ hd⟩
  have := hc j (slC (D[j]'(by omega))) (by rw [List.getElem?_map, hd]; rfl)
  rw [Nat.zero_add] at this
  exact this
/-- An item in memory. -/
theorem item_at {lv : List (Int × Int)} {w : World} {d : Sl} {k i : Nat} (h : OkT w d (tagL 0 (rowR lv k))) (hi : i < (rowR lv k).length) : ∃ ag ao X O T, d.a = some ⟨ag, ao, none⟩ ∧ d.n = (rowR lv k).length ∧ d.n ≤ d.c ∧
    w.cell? ⟨ag, ao + i * 4, none⟩ = some (.int .i64 X) ∧ w.cell? ⟨ag, ao + i * 4 + 1, none⟩ = some (.int .i64 ((rowR lv k)[i]).1) ∧ w.cell? ⟨ag, ao + i * 4 + 2, none⟩ = some (.int .i64 O) ∧ w.cell? ⟨ag, ao + i * 4 + 3, none⟩ = some (.int .i64 T) ∧
    (¬ 0 ≤ ((rowR lv k)[i]).1 → O = 2 * (pkN ((rowR lv k).take i) : Int) ∧ T = 2 * (pkN ((rowR lv k).take i) : Int) + 1) := by
  have hl := tagL_length 0 (rowR lv k)
  obtain ⟨ag, ao, e, _⟩ := h.src.some (by rw [hl]; omega)
  have hs := h.src
  rw [e] at hs
  obtain ⟨x0, x1, x2, x3⟩ := hs.get (j := i) (by rw [hl]; exact hi)
  have ht := tagL_at 0 (rowR lv k) i hi
  rw [List.getElem?_eq_getElem (by rw [hl]; exact hi)] at ht
  injection ht with ht
  rw [ht] at x0 x1 x2 x3
  refine ⟨ag, ao, _, _, _, e, by rw [h.len, hl], h.cap, x0, x1, x2, x3, fun h0 => ?_⟩
  rw [if_neg h0]
  exact ⟨by simp, by simp⟩

set_option maxRecDepth 100000 in
set_option maxHeartbeats 2000000 in
theorem count_leaf (lv : List (Int × Int)) (hsy : Sy lv) (g L c : Nat) (hL : L ≤ 15) (D : List Sl) (k : Nat) (hk : k < L) (i : Nat) (hi : i < (rowR lv k).length) (h0 : 0 ≤ ((rowR lv k)[i]).1) (q : List Int) (hf : Fit lv k i q) (w : World) (hm : Rw2 lv g L c D w) :
    Calls Try.prog 23 #[.agg (lg q), .slice (some ⟨g, 0, none⟩) L c, .int .i64 k, .int .i64 i] w fun e w' => e = .returned (.agg (lg (addQ lv k i q))) ∧ Below w.heap.size w w' := by
  have hsk := row_sym hsy k _ (List.getElem_mem hi)
  obtain ⟨m, hm0⟩ : ∃ m : Nat, ((rowR lv k)[i]).1 = (m : Int) := ⟨((rowR lv k)[i]).1.toNat, by omega⟩
  have hm8 : m < 258 := by omega
  have HE := Lib.hid (addQ_leaf hi m hm0 (by rw [hf.1.1]; exact hm8))
  have hcl := hf.2 m (by rw [hf.1.1]; exact hm8)
  rw [cT_leaf hi h0, if_pos hm0] at hcl
  have hbd := (hf.1.bd m).1
  obtain ⟨V, hV⟩ : ∃ V, V = q.getD m 0 := ⟨_, rfl⟩
  clear hsk h0
  have hz := lngZ
  have hq := hf.1
  have HA := Lib.hid hf.lng
  have hm2 := hm.on (((Below.refl _ w).alloc (Nat.le_refl _) (.cells (lg q) 25)).alloc (by simp) (.cells (lg zL) 25))
  have hg1 := heap_alloc2_old w (.cells (lg q) 25) (.cells (lg zL) 25)
  have hg2 := heap_alloc2_new w (.cells (lg q) 25) (.cells (lg zL) 25)
  have hb : Below w.heap.size w ((w.alloc (.cells (lg q) 25)).alloc (.cells (lg zL) 25)) := ((Below.refl _ _).alloc (Nat.le_refl _) _).alloc (by simp) _
  rw [← hV] at hcl hbd HE
  have HV := Lib.hid hV
  clear hV
  generalize addQ lv k i q = r at HA HE ⊢
  clear hf hm
  go_enter Try.func23, Try.ntmps23
  go_upto_region 1 with fail
  generalize (w.alloc (.cells (lg q) 25)).alloc (.cells (lg zL) 25) = w1 at hm2 hg1 hg2 hb ⊢
  obtain ⟨d, hd, hok⟩ := hm2.get (j := k) hk
  obtain ⟨ag, ao, X, O, T, hda, hdn, hdc, x0, x1, x2, x3, hOT⟩ := item_at hok hi
  obtain ⟨da, dn, dc⟩ := d
  simp only at hda hdn hdc hd
  subst hda
  have hkI : ((k : Nat) : Int) < (L : Int) := by omega
  have hiI : (i : Int) < (dn : Int) := by omega
  obtain ⟨Y, hY⟩ : ∃ Y, Y = ((rowR lv k)[i]).1 := ⟨_, rfl⟩
  rw [← hY] at x1 hOT
  have HOT := Lib.hid hOT
  have HY := Lib.hid hY
  have HB := Lib.hid hb
  have HM := Lib.hid hm2
  have HI := Lib.hid hi
  clear hm2 hok hdn hdc hOT hY hb
  have hYm : Y = (m : Int) := by rw [HY.out]; exact hm0
  subst hYm
  have hmI : (m : Int) < 258 := by omega
  have hw : IntKind.u8.wrap (V + 1) = V + 1 := by rw [IntKind.wrap_u8]; omega
  clear hm0
  go_upto_region 2 with fail
  have ht := heap_alloc_last w1 (.cells #[.int .i64 X, .int .i64 m, .int .i64 O, .int .i64 T] 59)
  have hbt := below_al' w1 (.cells #[.int .i64 X, .int .i64 m, .int .i64 O, .int .i64 T] 59)
  generalize w1.alloc (.cells #[.int .i64 X, .int .i64 m, .int .i64 O, .int .i64 T] 59) = w2 at ht hbt ⊢
  have hg1' := heap_on hbt hg1
  have hg2' := heap_on hbt hg2
  have y1 : w2.cell? ⟨w1.heap.size, 1, none⟩ = some (.int .i64 m) := by rw [cell_of_row _ _ _ _ _ _ ht]; rfl
  have hcm' : w2.cell? ⟨w.heap.size, m, none⟩ = some (.int .u8 V) := by rw [cell_of_row _ _ _ _ _ _ hg1', lg_get hq m hm8, HV.out]
  have hfm := frozen_of_row _ _ m _ _ hg1'
  have HB2 := Lib.hid (HB.out.trans (hbt.mono HB.out.size))
  have HG1 := Lib.hid hg1'
  have HG2 := Lib.hid hg2'
  clear x0 x1 x2 x3 hd hg1 hg2 hbt ht hg1' hg2'
  have hm0I : (0 : Int) ≤ (m : Int) := by omega
  go_upto_region 4 with fail
  have hg3 : (w2.setCell ⟨w.heap.size, m, none⟩ (.int .u8 (V + 1))).heap[w.heap.size]? = some (.cells (lg r) 25 (0, 0)) := by rw [heap_setCell_same _ _ _ _ _ _ HG1.out, lg_set, HE.out]
  have hg4 : (w2.setCell ⟨w.heap.size, m, none⟩ (.int .u8 (V + 1))).heap[w.heap.size + 1]? = some (.cells (lg zL) 25 (0, 0)) := by rw [heap_setCell_other _ _ _ _ (by simp)]; exact HG2.out
  have HB3 : RowKit.Hid (Below w.heap.size w (w2.setCell ⟨w.heap.size, m, none⟩ (.int .u8 (V + 1)))) := Lib.hid (HB2.out.setCell (Nat.le_refl _) _)
  generalize w2.setCell ⟨w.heap.size, m, none⟩ (.int .u8 (V + 1)) = w3 at hg3 hg4 HB3 ⊢
  have hA := HA.out
  clear hcm' hfm y1
  go_wp2_with (first
    | (refine wpList_load_row rfl 25 _ rfl w.heap.size rfl 25 (lg r) (0, 0) _ hg3 Try.underlying25 rfl (lngIk hA) ?_)
    | (refine wpList_store_row rfl 25 _ _ rfl (w.heap.size + 1) (lg r) rfl rfl 25 (lg zL) hg4 (lngIk hA) (by rw [lg_size zL_lng, lg_size hA]) (lg_all _) ?_))
  refine bodyPost_ret (v := .agg (lg r)) ?_ rfl ⟨rfl, HB3.out.setRow (by omega) _⟩
  exact results_cell_row Try.results23 _ _ (w.heap.size + 1) 25 (lg r) (0, 0) _ rfl (setRow_heap _ _ _ _ _ _ hg4) Try.underlying25 rfl (lngIk hA)
set_option maxRecDepth 100000 in
set_option maxHeartbeats 2000000 in
theorem count_pack (lv : List (Int × Int)) (hsy : Sy lv) (g L c : Nat) (hL : L ≤ 15) (D : List Sl) (k : Nat) (hk : k + 1 < L)
    (ih : ∀ (i : Nat) (hi : i < (rowR lv k).length) (q : List Int) (hf : Fit lv k i q) (w : World) (hm : Rw2 lv g L c D w),
      Calls Try.prog 23 #[.agg (lg q), .slice (some ⟨g, 0, none⟩) L c, .int .i64 k, .int .i64 i] w fun e w' => e = .returned (.agg (lg (addQ lv k i q))) ∧ Below w.heap.size w w')
    (i : Nat) (hi : i < (rowR lv (k + 1)).length) (h0 : ¬ 0 ≤ ((rowR lv (k + 1))[i]).1) (q : List Int) (hf : Fit lv (k + 1) i q) (w : World) (hm : Rw2 lv g L c D w) :
    Calls Try.prog 23 #[.agg (lg q), .slice (some ⟨g, 0, none⟩) L c, .int .i64 ((k + 1 : Nat) : Int), .int .i64 i] w fun e w' => e = .returned (.agg (lg (addQ lv (k + 1) i q))) ∧ Below w.heap.size w w' := by
  have hpl := part_lt (fun y hy => (hsy y hy).1) hi h0
  have IH1 := Lib.hid (fun w h => ih (2 * pkN ((rowR lv (k + 1)).take i)) (by omega) q (hf.one hi h0) w h)
  have IH2 := Lib.hid (fun w h => ih (2 * pkN ((rowR lv (k + 1)).take i) + 1) hpl _ (hf.two hi h0) w h)
  have hl1 := Lib.hid (hf.one hi h0).lng
  rw [addQ_pack hi h0] at IH2
  clear ih
  have hz := lngZ
  have hq := hf.1
  have HA := Lib.hid hf.lng
  have hm2 := hm.on (((Below.refl _ w).alloc (Nat.le_refl _) (.cells (lg q) 25)).alloc (by simp) (.cells (lg zL) 25))
  have hg1 := heap_alloc2_old w (.cells (lg q) 25) (.cells (lg zL) 25)
  have hg2 := heap_alloc2_new w (.cells (lg q) 25) (.cells (lg zL) 25)
  have hb : Below w.heap.size w ((w.alloc (.cells (lg q) 25)).alloc (.cells (lg zL) 25)) := ((Below.refl _ _).alloc (Nat.le_refl _) _).alloc (by simp) _
  generalize addQ lv (k + 1) i q = q2 at IH2 HA ⊢
  clear hf hm
  go_enter Try.func23, Try.ntmps23
  go_upto_region 1 with fail
  generalize (w.alloc (.cells (lg q) 25)).alloc (.cells (lg zL) 25) = w1 at hm2 hg1 hg2 hb ⊢
  obtain ⟨d, hd, hok⟩ := hm2.get (j := (k + 1)) hk
  obtain ⟨ag, ao, X, O, T, hda, hdn, hdc, x0, x1, x2, x3, hOT⟩ := item_at hok hi
  obtain ⟨da, dn, dc⟩ := d
  simp only at hda hdn hdc hd
  subst hda
  have hkI : (((k + 1) : Nat) : Int) < (L : Int) := by omega
  have hiI : (i : Int) < (dn : Int) := by omega
  obtain ⟨Y, hY⟩ : ∃ Y, Y = ((rowR lv (k + 1))[i]).1 := ⟨_, rfl⟩
  rw [← hY] at x1 hOT
  have HOT := Lib.hid hOT
  have HY := Lib.hid hY
  have HB := Lib.hid hb
  have HM := Lib.hid hm2
  have HI := Lib.hid hi
  clear hm2 hok hdn hdc hOT hY hb
  have h0Y : ¬ 0 ≤ Y := by rw [HY.out]; exact h0
  obtain ⟨hO, hT⟩ := HOT.out h0Y
  have hO2 : O = ((2 * pkN ((rowR lv (k + 1)).take i) : Nat) : Int) := by omega
  have hT2 : T = ((2 * pkN ((rowR lv (k + 1)).take i) + 1 : Nat) : Int) := by omega
  rw [← hO2] at IH1
  rw [← hT2] at IH2
  have hwk : IntKind.i64.wrap (((k + 1 : Nat) : Int) - 1) = (k : Int) := by rw [IntKind.wrap_i64]; omega
  generalize addQ lv k (2 * pkN ((rowR lv (k + 1)).take i)) q = q1 at IH1 IH2 hl1
  clear hO hT hO2 hT2 HOT HY h0 hpl
  go_upto_region 2 with fail
  have ht := heap_alloc_last w1 (.cells #[.int .i64 X, .int .i64 Y, .int .i64 O, .int .i64 T] 59)
  have hbt := below_al' w1 (.cells #[.int .i64 X, .int .i64 Y, .int .i64 O, .int .i64 T] 59)
  generalize w1.alloc (.cells #[.int .i64 X, .int .i64 Y, .int .i64 O, .int .i64 T] 59) = w2 at ht hbt ⊢
  have hg1' := heap_on hbt hg1
  have hg2' := heap_on hbt hg2
  have y1 : w2.cell? ⟨w1.heap.size, 1, none⟩ = some (.int .i64 Y) := by rw [cell_of_row _ _ _ _ _ _ ht]; rfl
  have HB2 := Lib.hid (HB.out.trans (hbt.mono HB.out.size))
  have HM2 := Lib.hid (HM.out.on hbt)
  have hne : w1.heap.size ≠ w.heap.size + 1 := by have := (Array.getElem?_eq_some_iff.1 hg2).1; omega
  have HN1 := Lib.hid (show w.heap.size ≠ w.heap.size + 1 by omega)
  obtain ⟨bx, hbx⟩ : ∃ bx, bx = w1.heap.size := ⟨_, rfl⟩
  rw [← hbx] at ht y1 hne ⊢
  have HNE := Lib.hid hne
  clear hne
  clear x0 x1 x2 x3 hd hg1 hg2 hbt hbx
  go_upto_region 5 with fail
  clear hkI
  generalize ((k + 1 : Nat) : Int) = K1 at hwk ⊢
  obtain ⟨cQ, hcQ⟩ : ∃ cQ, cQ = (lg q).toList := ⟨_, rfl⟩
  obtain ⟨cR, hcR⟩ : ∃ cR, cR = (lg q2).toList := ⟨_, rfl⟩
  have eQ : lg q = cQ.toArray := by rw [hcQ]
  have eR : lg q2 = cR.toArray := by rw [hcR]
  have lQ : cQ.length = 258 := by rw [hcQ, Array.length_toList, lg_size hq]
  have lR : cR.length = 258 := by rw [hcR, Array.length_toList, lg_size HA.out]
  have h1R : ∀ v ∈ cR, v.oneCell' = true := fun v hv => Array.all_eq_true_iff_forall_mem.1 (lg_all q2) v (by rw [hcR] at hv; simpa using hv)
  have hu := lngU
  have hiQ : (Try.prog.info? 25).map (·.size) = some cQ.length := by rw [lQ]; exact lngI
  have hiR : (Try.prog.info? 25).map (·.size) = some cR.length := by rw [lR]; exact lngI
  rw [eQ] at IH1
  rw [eR] at IH2
  have hbd := (Below.refl w2.heap.size w2).drew
  have hS0 : w2.drew.rangeAt w.heap.size 0 cQ ∧ w2.drew.cell? ⟨bx, 2, none⟩ = some (.int .i64 O) ∧ w2.drew.cell? ⟨bx, 3, none⟩ = some (.int .i64 T) := ⟨hcQ ▸ range_row7 (heap_on hbd hg1'), by rw [cell_of_row _ _ _ _ _ _ (heap_on hbd ht)]; rfl, by rw [cell_of_row _ _ _ _ _ _ (heap_on hbd ht)]; rfl⟩
  have HG2 := Lib.hid (heap_on hbd hg2')
  have HM3 := Lib.hid (HM2.out.on hbd)
  have HHT := Lib.hid (heap_on hbd ht)
  have HB3 := Lib.hid (HB2.out.drew)
  have HCR := Lib.hid hcR
  clear hcQ hcR eR y1 ht hg1' hg2' hbd HM2 HB2
  go_region_held3 (fun W => W.rangeAt w.heap.size 0 cQ ∧ W.cell? ⟨bx, 2, none⟩ = some (.int .i64 O) ∧ W.cell? ⟨bx, 3, none⟩ = some (.int .i64 T)) (first | exact hS0 | exact hS5 | exact hS6 | exact ⟨World.rangeAt_setCells_apart hS6.1 _ _ _ (Or.inl HN1.out), (World.cell?_setCells_out _ _ _ _ _ (fun e => absurd e HNE.out)).trans hS6.2.1, (World.cell?_setCells_out _ _ _ _ _ (fun e => absurd e HNE.out)).trans hS6.2.2⟩)
    (first
      | (go_at_call 23; with_reducible refine (IH1.out _ HM3.out).mono ?_; rintro e w5 ⟨rfl, hb5⟩; have hS5 : w5.rangeAt w.heap.size 0 cQ ∧ w5.cell? ⟨bx, 2, none⟩ = some (.int .i64 O) ∧ w5.cell? ⟨bx, 3, none⟩ = some (.int .i64 T) := ⟨range_on7 hS0.1 hb5, cell_on hb5 hS0.2.1, cell_on hb5 hS0.2.2⟩; have HB5 := Lib.hid hb5)
      | (go_at_call 23; with_reducible refine (IH2.out _ (HM3.out.on HB5.out)).mono ?_; rintro e w6 ⟨rfl, hb6⟩; have HG6 := Lib.hid (heap_on hb6 (heap_on HB5.out HG2.out)); have ht6 : w6.there (w.heap.size + 1) 0 258 := there_row7 HG6.out; have hS6 : w6.rangeAt w.heap.size 0 cQ ∧ w6.cell? ⟨bx, 2, none⟩ = some (.int .i64 O) ∧ w6.cell? ⟨bx, 3, none⟩ = some (.int .i64 T) := ⟨range_on7 hS5.1 hb6, cell_on hb6 hS5.2.1, cell_on hb6 hS5.2.2⟩; have HB6 := Lib.hid hb6))
  rw [show w6.setCells (w.heap.size + 1) 0 cR = w6.setRow (w.heap.size + 1) (lg q2) from by rw [HCR.out]; exact setCells_lng w6 _ HG6.out q2 HA.out]
  have hbe := (HB3.out.trans (HB5.out.mono HB3.out.size))
  have hbf := hbe.trans (HB6.out.mono hbe.size)
  go_wp2_with fail
  refine bodyPost_ret (v := .agg (lg q2)) ?_ rfl ⟨rfl, hbf.setRow (by omega) _⟩
  exact results_cell_row Try.results23 _ _ (w.heap.size + 1) 25 (lg q2) (0, 0) _ rfl (setRow_heap _ _ _ _ _ _ HG6.out) Try.underlying25 rfl (lngIk HA.out)

theorem count_call (lv : List (Int × Int)) (hsy : Sy lv) (g L c : Nat) (hL : L ≤ 15) (D : List Sl) : ∀ (k : Nat), k < L → ∀ (i : Nat) (hi : i < (rowR lv k).length) (q : List Int) (hf : Fit lv k i q) (w : World) (hm : Rw2 lv g L c D w),
    Calls Try.prog 23 #[.agg (lg q), .slice (some ⟨g, 0, none⟩) L c, .int .i64 k, .int .i64 i] w fun e w' => e = .returned (.agg (lg (addQ lv k i q))) ∧ Below w.heap.size w w' := by
  intro k
  induction k with
  | zero => exact fun hk i hi q hf w hm => count_leaf lv hsy g L c hL D 0 hk i hi (hsy _ (List.getElem_mem hi)).1 q hf w hm
  | succ k ih =>
    intro hk i hi q hf w hm
    by_cases h0 : 0 ≤ ((rowR lv (k + 1))[i]).1
    · exact count_leaf lv hsy g L c hL D (k + 1) hk i hi h0 q hf w hm
    · exact count_pack lv hsy g L c hL D k hk (ih (by omega)) i hi h0 q hf w hm
end Go.Proofs.Ytemjlmeakkknbaa
