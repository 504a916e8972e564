/- mtf: Valid. -/
import Derived.Test.YtaemmeofchonaaaMuB
import Derived.Test.YtaemmeofchonaaaFrm2
import Derived.RegionTactic
import Derived.Deep.RegionHeld3
set_option linter.unusedVariables false
set_option linter.unusedSimpArgs false
namespace Go.Proofs.Ytaemmeofchonaaa
open Go.RowKit

/-- The list while each byte is put at the index of its own value: after k of them. -/
def srV (l : List Int) : Nat → List Int
  | 0 => l
  | k + 1 => (srV l k).set (l.getD k 0).toNat (l.getD k 0)
theorem srV_lst {l : List Int} (h : Lst l) : ∀ k, Lst (srV l k)
  | 0 => h
  | k + 1 => (srV_lst h k).set _ _ (h.get k)
theorem srV_get {l : List Int} (h : Lst l) : ∀ k, k ≤ 256 → ∀ j, j < 256 → (srV l k).getD j 0 = if (j : Int) ∈ l.take k then (j : Int) else l.getD j 0
  | 0, _, j, _ => by simp [srV]
  | k + 1, hk, j, hj => by
    have ih := srV_get h k (by omega) j hj
    have hb := h.bd k
    have hl := (srV_lst h k).1
    rw [srV, set_getD _ _ _ _ (by omega), take_snocD l k (by rw [h.1]; omega)]
    by_cases e : j = (l.getD k 0).toNat
    · rw [if_pos e, if_pos]
      · omega
      · rw [List.mem_append]
        right
        rw [List.mem_singleton]
        omega
    · rw [if_neg e, ih]
      have hne : ¬ ((j : Int) = l.getD k 0) := by omega
      simp only [List.mem_append, List.mem_singleton, hne, or_false]
theorem perm_of_sub : ∀ (L l : List Int), L.Nodup → (∀ x ∈ L, x ∈ l) → l.length = L.length → l.Perm L
  | [], l, _, _, hl => by
    have : l = [] := List.length_eq_zero_iff.1 hl
    rw [this]
  | a :: L, l, hn, hs, hl => by
    have ha : a ∈ l := hs a (by simp)
    have hn' := List.nodup_cons.1 hn
    have hp := List.perm_cons_erase ha
    refine hp.trans (List.Perm.cons a (perm_of_sub L (l.erase a) hn'.2 (fun x hx => ?_) ?_))
    · have hxa : x ≠ a := fun e => hn'.1 (e ▸ hx)
      exact (List.mem_erase_of_ne hxa).2 (hs x (by simp [hx]))
    · rw [List.length_erase_of_mem ha, hl]
      simp
theorem srV_end {l : List Int} (h : Lst l) (n : Nat) (hn : n = 256) : decide (srV l n = idL) = decide l.Nodup := by
  rw [Bool.eq_iff_iff, decide_eq_true_eq, decide_eq_true_eq, ← Vld.iff h]
  have ht : l.take n = l := List.take_of_length_le (by rw [h.1]; omega)
  constructor
  · intro e
    refine perm_of_sub idL l idL_nodup (fun x hx => ?_) (by rw [h.1, idL_len])
    have hx' := (idL_mem x).1 hx
    obtain ⟨j, rfl⟩ : ∃ j : Nat, x = (j : Int) := ⟨x.toNat, by omega⟩
    have hj : j < 256 := by omega
    have hg := srV_get h n (by omega) j hj
    rw [e, idL_get j hj, ht] at hg
    by_cases hm : (j : Int) ∈ l
    · exact hm
    · rw [if_neg hm] at hg
      rw [hg, List.getD_eq_getElem?_getD, List.getElem?_eq_getElem (by rw [h.1]; exact hj)]
      exact List.getElem_mem _
  · intro hv
    refine ext256 (srV_lst h n).1 idL_len fun j hj => ?_
    rw [srV_get h n (by omega) j hj, ht, if_pos ((hv.mem _).2 (by omega)), idL_get j hj]

set_option maxRecDepth 100000 in
set_option maxHeartbeats 2000000 in
theorem valid_call (l : List Int) (h : Lst l) (w : World) :
    Calls Try.prog 13 #[.agg (ll l)] w fun e w' => e = .returned (.bool (decide l.Nodup)) ∧ Below w.heap.size w w' := by
  have hz := lstZ
  have HEND := Lib.hid (fun n hn => srV_end h n hn)
  generalize decide l.Nodup = D at HEND ⊢
  have hg := heap_alloc_last w (.cells (ll l) 23)
  have HB := Lib.hid ((Below.refl w.heap.size w).alloc (Nat.le_refl _) (.cells (ll l) 23))
  have hsz : (w.alloc (.cells (ll l) 23)).heap.size = w.heap.size + 1 := by simp
  have HSZ := Lib.hid hsz
  have hs0 := ll_size zS_lst
  have hs1 := ll_size h
  go_enter Try.func13, Try.ntmps13
  go_upto_region 1 with fail
  generalize w.alloc (.cells (ll l) 23) = w1 at hg HB hsz HSZ ⊢
  clear hsz
  have HG := Lib.hid hg
  clear hg
  go_upto_region 2 with (first
    | (refine wpList_load_row rfl 23 _ rfl w.heap.size rfl 23 (ll l) (0, 0) _ HG.out Try.underlying23 rfl (lstIk h) ?_)
    | (refine wpList_store_row rfl 23 _ _ rfl w1.heap.size (ll l) rfl rfl 23 (ll zS) (heap_alloc_last w1 _) (lstIk h) (by rw [hs0, hs1]) (ll_all _) ?_))
  rw [World.setRow_alloc_new]
  try simp only [Act.put]
  have hby := below_al w1 (.cells (ll l) 23)
  have HG2 := Lib.hid (heap_on hby HG.out)
  have hs := heap_alloc_last w1 (.cells (ll l) 23)
  have hsz : w1.heap.size = w.heap.size + 1 := HSZ.out
  rw [hsz] at hs ⊢
  have HB2 := Lib.hid (HB.out.trans (hby.mono HB.out.size))
  clear hby HB HSZ hsz
  generalize w1.alloc (.cells (ll l) 23) = w2 at HG2 hs HB2 ⊢
  have HS := Lib.hid (show w2.heap[w.heap.size + 1]? = some (.cells (ll (srV l 0)) 23 (0, 0)) from hs)
  clear hs hz HG
  go_upto_region 3 with (first
    | (refine wpList_load_row rfl 23 _ rfl w.heap.size rfl 23 (ll l) (0, 0) _ HG2.out Try.underlying23 rfl (lstIk h) ?_))
  go_loopw [5, 8] (fun v u wr => ∃ i : Nat, i ≤ 256 ∧ u = .int .i64 i ∧ wr.heap[w.heap.size + 1]? = some (.cells (ll (srV l i)) 23 (0, 0)) ∧ Below w.heap.size w wr) (fun _ u _ => 256 - (intOf u).toNat)
  case atStart => exact ⟨0, by omega, rfl, HS.out, HB2.out⟩
  case round =>
    obtain ⟨i, hi, rfl, hg, hb⟩ := hrel
    clear HS HB2
    have HB := Lib.hid hb
    have HL := Lib.hid (srV_lst h i)
    clear hb
    by_cases hlt : i < 256
    · have hiI : (i : Int) < 256 := by omega
      have hix := fun W => run_index_lst W h i hlt
      have HST := Lib.hid (show srV l (i + 1) = (srV l i).set (l.getD i 0).toNat (l.getD i 0) from rfl)
      have hbd := h.bd i
      generalize hx : l.getD i 0 = x at hix HST hbd
      obtain ⟨m, rfl⟩ : ∃ m : Nat, x = (m : Int) := ⟨x.toNat, by omega⟩
      rw [Int.toNat_natCast] at HST
      have hm : m < 256 := by omega
      have hmI : (m : Int) < 256 := by omega
      have f0 := frozen_of_row wr (w.heap.size + 1) m _ _ hg
      have c0 := ll_cell hg HL.out m hm
      have H2 := Lib.hid (show (wr.setCell ⟨w.heap.size + 1, m, none⟩ (.int .u8 (m : Int))).heap[w.heap.size + 1]? = some (.cells (ll (srV l (i + 1))) 23 (0, 0)) by rw [heap_setCell_same _ _ _ _ _ _ hg, ll_set, HST.out])
      have HB2 := Lib.hid (HB.out.setCell (p := ⟨w.heap.size + 1, m, none⟩) (by simp) (.int .u8 (m : Int)))
      generalize (srV l i).getD m 0 = u at c0
      clear hg HST HL hx hbd
      go_wp2_with fail
      exact ⟨⟨i + 1, by omega, by go_num, H2.out, HB2.out⟩, by simp [intOf] <;> omega⟩
    · have hi' : i = 256 := by omega
      have heq := HEND.out i hi'
      have HI := Lib.hid hi'
      have hS := HL.out
      generalize srV l i = S at heq hS hg
      clear HEND HL hi'
      have d1 : decide ((i : Int) < 256) = false := decide_eq_false (by omega)
      have d2 : decide (i < 256) = false := decide_eq_false (by omega)
      have HN := Lib.hid (fun W => new_call W)
      clear hlt hi HI
      go_upto_region 7 with fail
      clear d1 d2
      have HG := Lib.hid hg
      clear hg
      refine wp_region_frame (J := Js [eqv (.agg (ll S)), eqv (.agg (ll idL)), eqv (.bool D), eqv (.bool D)]) (ds := [15, 16, 17, 2]) (N := 18)
        (B := [(3, .pointer (some ⟨w.heap.size + 1, 0, none⟩))]) (by kernel_rfl) (by kernel_rfl) (Js_mono ⟨eqv_mono _, eqv_mono _, eqv_mono _, eqv_mono _, trivial⟩) rfl rfl (by simp) ?_ ?_
      · refine ⟨?_, ?_, ?_, ?_, trivial⟩
        · intro a w' hb hdep K hK
          have c3 := hb.at 0 3 _ rfl
          clear hdep
          exact wp_load_row 23 _ rfl (w.heap.size + 1) (by simp [Act.eval, c3]) 23 (ll S) (0, 0) _ (heap_on hb.bel HG.out) Try.underlying23 rfl (lstIk hS) (hK _ _ rfl (Below.refl _ _))
        · intro a w' hb hdep K hK
          clear hdep
          go_simp
          go_at_call 15
          refine (HN.out w').mono ?_
          rintro e w20 ⟨rfl, hb20⟩
          exact hK _ _ rfl hb20
        · intro a w' hb hdep K hK
          obtain ⟨v0, e0, j0⟩ := hdep 0 (by kernel_rfl)
          replace e0 : a.tmps[15]? = some v0 := e0
          obtain rfl : v0 = _ := j0
          obtain ⟨v1, e1, j1⟩ := hdep 1 (by kernel_rfl)
          replace e1 : a.tmps[16]? = some v1 := e1
          obtain rfl : v1 = _ := j1
          clear hdep
          have hqe := run_eqi_lst w' hS idL_lst
          rw [heq] at hqe
          go_simp
          exact hK _ _ rfl (Below.refl _ _)
        · intro a w' hb hdep K hK
          obtain ⟨v2, e2, j2⟩ := hdep 2 (by kernel_rfl)
          replace e2 : a.tmps[17]? = some v2 := e2
          obtain rfl : v2 = _ := j2
          clear hdep
          go_simp
          exact hK _ _ rfl (Below.refl _ _)
      · intro vs w' hvl hall hb
        match vs, hvl with
        | [v0, v1, v2, v3], _ =>
          obtain rfl : v0 = _ := hall 0 (by decide)
          obtain rfl : v1 = _ := hall 1 (by decide)
          obtain rfl : v2 = _ := hall 2 (by decide)
          obtain rfl : v3 = _ := hall 3 (by decide)
          simp only [putAll, List.setIfInBounds_toArray, List.set_cons_zero, List.set_cons_succ]
          go_wp2_with fail
          go_ret
          exact ⟨rfl, HB.out.trans (hb.mono HB.out.size)⟩
end Go.Proofs.Ytaemmeofchonaaa
