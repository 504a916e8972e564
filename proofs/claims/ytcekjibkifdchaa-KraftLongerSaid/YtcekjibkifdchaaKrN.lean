/- Counts of both. -/
import Derived.Test.YtcekjibkifdchaaKr
import Derived.Test.YtcekjibkifdchaaSxt
set_option linter.unusedVariables false
set_option linter.unusedSimpArgs false
namespace Go.Proofs.Ytcekjibkifdchaa
open Go.RowKit

/-- How many of the first k symbols have length i. -/
def cc (l : List Int) (i k : Nat) : Int := ((l.take k).countP (fun z => z == (i : Int)) : Nat)
theorem cc_step (l : List Int) (i k : Nat) (hk : k < l.length) : cc l i (k + 1) = cc l i k + if l.getD k 0 = (i : Int) then 1 else 0 := by
  have e : l.getD k 0 = l[k] := by simp [List.getD_eq_getElem?_getD, hk]
  unfold cc
  rw [e, List.take_add_one, List.getElem?_eq_getElem hk, Option.toList_some, List.countP_append, List.countP_cons, List.countP_nil]
  by_cases h : l[k] = (i : Int)
  · simp [h]
  · simp [h]
theorem cc_bd (l : List Int) (i k : Nat) : 0 ≤ cc l i k ∧ cc l i k ≤ k := by
  have h1 := List.countP_le_length (p := fun z => z == (i : Int)) (l := l.take k)
  have h2 : (l.take k).length ≤ k := by rw [List.length_take]; omega
  unfold cc
  omega
theorem cc_zero (l : List Int) (i : Nat) : cc l i 0 = 0 := by simp [cc]
/-- Sixteen numbers by a function. -/
def row16 (f : Nat → Int) : List Int := (List.range 16).map f
theorem row16_get (f : Nat → Int) (i : Nat) (hi : i < 16) : (row16 f).getD i 0 = f i := by
  simp [row16, List.getD_eq_getElem?_getD, List.getElem?_map, List.getElem?_range hi]
theorem row16_sxt (f : Nat → Int) (h : ∀ i, i < 16 → 0 ≤ f i ∧ f i ≤ 258) : Sxt (row16 f) := by
  refine ⟨by simp [row16], fun z hz => ?_⟩
  obtain ⟨i, hi, rfl⟩ := List.mem_map.1 hz
  have := h i (List.mem_range.1 hi)
  exact WalkArith.wf_i64 ⟨by omega, by omega⟩
theorem row16_set (f g : Nat → Int) (i : Nat) (hi : i < 16) (z : Int) (hz : g i = z) (h : ∀ j, j < 16 → j ≠ i → g j = f j) : (row16 f).set i z = row16 g := by
  apply List.ext_getElem?
  intro j
  rw [List.getElem?_set]
  by_cases hj : j < 16
  · by_cases e : i = j
    · subst e
      simp [row16, hj, hz]
    · simp [row16, e, List.getElem?_map, List.getElem?_range hj, h j hj (fun e2 => e e2.symm)]
  · simp [row16, show 16 ≤ j by omega, show i ≠ j by omega]
theorem row16_congr (f g : Nat → Int) (h : ∀ j, j < 16 → g j = f j) : row16 f = row16 g := by
  unfold row16
  refine List.map_congr_left fun j hj => (h j (List.mem_range.1 hj)).symm
/-- The counts of the first k symbols. -/
def cntT (l : List Int) (k : Nat) : List Int := row16 fun i => cc l i k
theorem cntT_sxt (l : List Int) (k : Nat) (hk : k ≤ 258) : Sxt (cntT l k) := row16_sxt _ fun i _ => by have := cc_bd l i k; omega
theorem cntT_zero (l : List Int) : cntT l 0 = zX := by
  have h : ∀ i, cc l i 0 = 0 := cc_zero l
  simp only [cntT, h]
  rfl
theorem cntT_yes (l : List Int) (k v : Nat) (hk : k < l.length) (hv : v < 16) (e : l.getD k 0 = (v : Int)) : (cntT l k).set v ((cntT l k).getD v 0 + 1) = cntT l (k + 1) := by
  refine row16_set _ _ v hv _ ?_ fun j hj hne => ?_
  · rw [cc_step l v k hk, if_pos e, cntT, row16_get _ v hv]
  · rw [cc_step l j k hk, if_neg (by rw [e]; omega), Int.add_zero]
theorem cntT_no (l : List Int) (k : Nat) (hk : k < l.length) (e : 16 ≤ l.getD k 0) : cntT l k = cntT l (k + 1) := by
  refine row16_congr _ _ fun j hj => ?_
  rw [cc_step l j k hk, if_neg (by omega), Int.add_zero]
/-- The counts while length n is counted, and s symbols of it. -/
def cntR (l : List Int) (n s : Nat) : List Int := row16 fun i => if i < n then cc l i 258 else if i = n then cc l i s else 0
theorem cntR_sxt (l : List Int) (n s : Nat) (hs : s ≤ 258) : Sxt (cntR l n s) := row16_sxt _ fun i _ => by
  have := cc_bd l i s
  have := cc_bd l i 258
  split
  · omega
  · split <;> omega
theorem cntR_zero (l : List Int) : cntR l 0 0 = zX := by
  have e : cntR l 0 0 = row16 fun _ => 0 := by
    refine row16_congr _ _ fun j hj => ?_
    simp only [cc_zero, Nat.not_lt_zero, if_false]
    split <;> rfl
  rw [e]
  rfl
theorem cntR_next (l : List Int) (n : Nat) : cntR l n 258 = cntR l (n + 1) 0 := by
  refine row16_congr _ _ fun j hj => ?_
  simp only [cc_zero]
  by_cases h1 : j < n
  · rw [if_pos (by omega), if_pos h1]
  · by_cases h2 : j = n
    · rw [if_pos (by omega), if_neg h1, if_pos h2]
    · rw [if_neg (by omega), if_neg h1, if_neg h2]
      split <;> rfl
theorem cntR_end (l : List Int) : cntR l 16 0 = cntT l 258 := by
  refine row16_congr _ _ fun j hj => ?_
  rw [if_pos hj]
theorem cntR_yes (l : List Int) (n s : Nat) (hn : n < 16) (hs : s < l.length) (e : l.getD s 0 = (n : Int)) : (cntR l n s).set n ((cntR l n s).getD n 0 + 1) = cntR l n (s + 1) := by
  refine row16_set _ _ n hn _ ?_ fun j hj hne => ?_
  · rw [if_neg (Nat.lt_irrefl _), if_pos rfl, cc_step l n s hs, if_pos e, cntR, row16_get _ n hn, if_neg (Nat.lt_irrefl _), if_pos rfl]
  · by_cases h : j < n
    · rw [if_pos h, if_pos h]
    · rw [if_neg h, if_neg h, if_neg hne, if_neg hne]
theorem cntR_no (l : List Int) (n s : Nat) (hs : s < l.length) (e : l.getD s 0 ≠ (n : Int)) : cntR l n s = cntR l n (s + 1) := by
  refine row16_congr _ _ fun j hj => ?_
  by_cases h : j < n
  · rw [if_pos h, if_pos h]
  · by_cases h2 : j = n
    · subst h2
      rw [if_neg (Nat.lt_irrefl _), if_pos rfl, if_neg (Nat.lt_irrefl _), if_pos rfl, cc_step l j s hs, if_neg e, Int.add_zero]
    · rw [if_neg h, if_neg h2, if_neg h, if_neg h2]

theorem xl_cell {w : World} {g : Nat} {t : TypeId} {fr : Nat × Nat} {l : List Int} (hg : w.heap[g]? = some (.cells (xl l) t fr)) (h : Sxt l) (i : Nat) (hi : i < 16) : w.cell? ⟨g, i, none⟩ = some (.int .i64 (l.getD i 0)) := by
  rw [cell_of_row w g i _ t fr hg, xl_get h i hi]
/-- While the symbols are counted. -/
structure Ct (w : World) (l c : List Int) (wr : World) : Prop where
  box : wr.heap[w.heap.size]? = some (.cells (lg l) 23 (0, 0))
  res : wr.heap[w.heap.size + 1]? = some (.cells (xl zX) 30 (0, 0))
  cnt : wr.heap[w.heap.size + 2]? = some (.cells (xl c) 30 (0, 0))
  bel : Below w.heap.size w wr
theorem Ct.start (w : World) (l : List Int) : Ct w l zX (((w.alloc (.cells (lg l) 23)).alloc (.cells (xl zX) 30)).alloc (.cells (xl zX) 30)) := by
  refine ⟨?_, ?_, ?_, (((Below.refl _ _).alloc (Nat.le_refl _) _).alloc (by simp) _).alloc (by simp; omega) _⟩
  · rw [heap_alloc_old _ _ (by simp; omega)]
    exact heap_alloc2_old w _ _
  · rw [heap_alloc_old _ _ (by simp)]
    exact heap_alloc2_new w _ _
  · have := heap_alloc_last ((w.alloc (.cells (lg l) 23)).alloc (.cells (xl zX) 30)) (.cells (xl zX) 30)
    simpa using this
theorem Ct.set {w wr : World} {l c : List Int} (h : Ct w l c wr) (v : Nat) (z : Int) : Ct w l (c.set v z) (wr.setCell ⟨w.heap.size + 2, v, none⟩ (.int .i64 z)) :=
  ⟨by rw [heap_setCell_other _ _ _ _ (by simp)]; exact h.box, by rw [heap_setCell_other _ _ _ _ (by simp)]; exact h.res, by rw [heap_setCell_same _ _ _ _ _ _ h.cnt, xl_set], h.bel.setCell (by simp) _⟩

set_option maxRecDepth 100000 in
set_option maxHeartbeats 1000000 in
theorem counts_call (l : List Int) (h : Lng l) (w : World) :
    Calls Try.prog 14 #[.agg (lg l)] w fun e w' => e = .returned (.agg (xl (cntT l 258))) ∧ Below w.heap.size w w' := by
  have hz := sxtZ
  go_enter Try.func14, Try.ntmps14
  go_upto_region 2 with fail
  have hst := Ct.start w l
  generalize ((w.alloc (.cells (lg l) 23)).alloc (.cells (xl zX) 30)).alloc (.cells (xl zX) 30) = w1 at hst ⊢
  have hg := hst.box
  have HST := Lib.hid hst
  clear hst hz
  go_wp2_with (refine wpList_load_row rfl 23 _ rfl w.heap.size rfl 23 (lg l) (0, 0) _ hg Try.underlying23 rfl (lngIk h) ?_)
  go_loopw [7] (fun i wr => ∃ k : Nat, k ≤ 258 ∧ i = .int .i64 k ∧ Ct w l (cntT l k) wr) (fun i _ => 258 - (intOf i).toNat)
  case atStart => exact ⟨0, by omega, rfl, by rw [cntT_zero]; exact HST.out⟩
  case round =>
    obtain ⟨k, hk, rfl, hm⟩ := hrel
    by_cases hlt : k < 258
    · have hix := fun w => run_index_lng w h k hlt
      have hbd := h.bd k
      have hS := cntT_sxt l k hk
      have HY := Lib.hid (cntT_yes l k)
      have HN := Lib.hid (cntT_no l k (by rw [h.1]; exact hlt))
      have hlen : k < l.length := by rw [h.1]; exact hlt
      generalize l.getD k 0 = V at hix hbd HY HN
      obtain ⟨v, rfl⟩ : ∃ v : Nat, V = v := ⟨V.toNat, by omega⟩
      by_cases hv : v < 16
      · have hfz : wr.frozen? ⟨w.heap.size + 2, v, none⟩ = false := frozen_of_row wr (w.heap.size + 2) v _ _ hm.cnt
        have hcl := xl_cell hm.cnt hS v hv
        have hcb := cc_bd l v k
        have HE := Lib.hid (HY.out v hlen hv rfl)
        have HC := Lib.hid (row16_get (fun i => cc l i k) v hv)
        have hce : (cntT l k).getD v 0 = cc l v k := HC.out
        rw [hce] at hcl HE
        generalize cc l v k = C at hcl hcb HE hce
        have HM := Lib.hid hm
        clear hm hS hce
        go_wp2_with fail
        exact ⟨⟨k + 1, by omega, by go_num, HE.out ▸ HM.out.set v _⟩, by simp [intOf]; omega⟩
      · have HE := Lib.hid (HN.out (by omega))
        have HM := Lib.hid hm
        clear hm hS
        go_wp2_with fail
        exact ⟨⟨k + 1, by omega, by go_num, HE.out ▸ HM.out⟩, by simp [intOf]; omega⟩
    · obtain rfl : k = 258 := by omega
      have HM := Lib.hid hm
      have hc : Sxt (cntT l 258) := cntT_sxt l 258 hk
      have hg3 := hm.cnt
      clear hm
      obtain ⟨c, hc0⟩ : ∃ c, c = cntT l 258 := ⟨_, rfl⟩
      rw [← hc0] at hg3 HM hc
      have HCC := Lib.hid hc0
      clear hc0
      go_wp2_with (first
        | (refine wpList_load_row rfl 30 _ rfl (w.heap.size + 2) rfl 30 (xl c) (0, 0) _ hg3 Try.underlying30 rfl (sxtIk hc) ?_)
        | (refine wpList_store_row rfl 30 _ _ rfl (w.heap.size + 1) (xl c) rfl rfl 30 (xl zX) HM.out.res (sxtIk hc) (by rw [xl_size zX_sxt, xl_size hc]) (xl_all _) ?_))
      refine bodyPost_ret (v := .agg (xl c)) ?_ rfl ⟨by rw [HCC.out], HM.out.bel.setRow (by omega) _⟩
      exact results_cell_row Try.results14 _ _ (w.heap.size + 1) 30 (xl c) (0, 0) _ rfl (setRow_heap _ _ _ _ _ _ HM.out.res) Try.underlying30 rfl (sxtIk hc)

set_option maxRecDepth 100000 in
set_option maxHeartbeats 1000000 in
theorem rcounts_call (l : List Int) (h : Lng l) (w : World) :
    Calls Try.prog 15 #[.agg (lg l)] w fun e w' => e = .returned (.agg (xl (cntT l 258))) ∧ Below w.heap.size w w' := by
  have hz := sxtZ
  go_enter Try.func15, Try.ntmps15
  go_upto_region 2 with fail
  have hst := Ct.start w l
  generalize ((w.alloc (.cells (lg l) 23)).alloc (.cells (xl zX) 30)).alloc (.cells (xl zX) 30) = w1 at hst ⊢
  have HST := Lib.hid hst
  clear hst hz
  go_wp2_with fail
  go_loopw [4] (fun i wr => ∃ n : Nat, n ≤ 16 ∧ i = .int .i64 n ∧ Ct w l (cntR l n 0) wr) (fun i _ => 16 - (intOf i).toNat)
  case atStart => exact ⟨0, by omega, rfl, by rw [cntR_zero]; exact HST.out⟩
  case round =>
    obtain ⟨n, hn, rfl, hm⟩ := hrel
    by_cases hn16 : n < 16
    · have HM0 := Lib.hid hm
      clear hm
      go_upto_region 6 with fail
      go_loopw [5] (fun i wy => ∃ s : Nat, s ≤ 258 ∧ i = .int .i64 s ∧ Ct w l (cntR l n s) wy) (fun i _ => 258 - (intOf i).toNat)
      case atStart => exact ⟨0, by omega, rfl, HM0.out⟩
      case round =>
        obtain ⟨s, hs, rfl, hm⟩ := hrel
        by_cases hlt : s < 258
        · have hlc := lg_cell hm.box h s hlt
          have hbd := h.bd s
          have hS := cntR_sxt l n s hs
          have HY := Lib.hid (cntR_yes l n s hn16 (by rw [h.1]; exact hlt))
          have HN := Lib.hid (cntR_no l n s (by rw [h.1]; exact hlt))
          generalize l.getD s 0 = V at hlc hbd HY HN
          by_cases hv : V = (n : Int)
          · subst hv
            have hfz : wr.frozen? ⟨w.heap.size + 2, n, none⟩ = false := frozen_of_row wr (w.heap.size + 2) n _ _ hm.cnt
            have hcl := xl_cell hm.cnt hS n hn16
            have HE := Lib.hid (HY.out rfl)
            have hcb := cc_bd l n s
            have hce : (cntR l n s).getD n 0 = cc l n s := by rw [cntR, row16_get _ n hn16, if_neg (Nat.lt_irrefl _), if_pos rfl]
            rw [hce] at hcl HE
            generalize cc l n s = C at hcl hcb HE hce
            have HM := Lib.hid hm
            clear hm hS hce
            go_wp2_with fail
            exact ⟨⟨s + 1, by omega, by go_num, HE.out ▸ HM.out.set n _⟩, by simp [intOf]; omega⟩
          · have HE := Lib.hid (HN.out hv)
            have HM := Lib.hid hm
            clear hm hS
            go_wp2_with fail
            exact ⟨⟨s + 1, by omega, by go_num, HE.out ▸ HM.out⟩, by simp [intOf]; omega⟩
        · obtain rfl : s = 258 := by omega
          have HM := Lib.hid hm
          clear hm
          have HX := Lib.hid (cntR_next l n)
          go_wp2_with fail
          exact ⟨⟨n + 1, by omega, by go_num, HX.out ▸ HM.out⟩, by simp [intOf]; omega⟩
    · obtain rfl : n = 16 := by omega
      have hc : Sxt (cntT l 258) := cntT_sxt l 258 (by omega)
      rw [cntR_end] at hm
      have HM := Lib.hid hm
      have hg3 := hm.cnt
      clear hm
      obtain ⟨c, hc0⟩ : ∃ c, c = cntT l 258 := ⟨_, rfl⟩
      rw [← hc0] at hg3 HM hc
      have HCC := Lib.hid hc0
      clear hc0
      go_wp2_with (first
        | (refine wpList_load_row rfl 30 _ rfl (w.heap.size + 2) rfl 30 (xl c) (0, 0) _ hg3 Try.underlying30 rfl (sxtIk hc) ?_)
        | (refine wpList_store_row rfl 30 _ _ rfl (w.heap.size + 1) (xl c) rfl rfl 30 (xl zX) HM.out.res (sxtIk hc) (by rw [xl_size zX_sxt, xl_size hc]) (xl_all _) ?_))
      refine bodyPost_ret (v := .agg (xl c)) ?_ rfl ⟨by rw [HCC.out], HM.out.bel.setRow (by omega) _⟩
      exact results_cell_row Try.results15 _ _ (w.heap.size + 1) 30 (xl c) (0, 0) _ rfl (setRow_heap _ _ _ _ _ _ HM.out.res) Try.underlying30 rfl (sxtIk hc)
end Go.Proofs.Ytcekjibkifdchaa
