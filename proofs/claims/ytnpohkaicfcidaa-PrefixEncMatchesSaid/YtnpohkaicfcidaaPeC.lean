/- The reference's Codes. -/
import Derived.Test.YtnpohkaicfcidaaPeO
set_option linter.unusedVariables false
set_option linter.unusedSimpArgs false
namespace Go.Proofs.Ytnpohkaicfcidaa
open Go.RowKit

/-- The codes of the first i symbols in order. -/
def cdK (l : List Int) (i : Nat) : List Int := row258 fun s => if s ∈ (ordN l 15).take i then (codeV l s : Int) else 0
theorem ordN_mem (l : List Int) {i : Nat} (hi : i < (ordN l 15).length) : (ordN l 15).getD i 0 ∈ ordN l 15 := by
  rw [List.getD_eq_getElem?_getD, List.getElem?_eq_getElem hi]
  exact List.getElem_mem hi
theorem take_mem_succ (q : List Nat) (i s : Nat) (hi : i < q.length) : s ∈ q.take (i + 1) ↔ s ∈ q.take i ∨ s = q.getD i 0 := by
  rw [List.take_add_one, List.mem_append, List.getD_eq_getElem?_getD, List.getElem?_eq_getElem hi]
  simp
theorem cdK_set (l : List Int) {i : Nat} (hi : i < (ordN l 15).length) : (cdK l i).set ((ordN l 15).getD i 0) (codeV l ((ordN l 15).getD i 0) : Int) = cdK l (i + 1) := by
  refine row258_set _ _ _ (ordN_get l hi).1 _ ?_ ?_
  · rw [if_pos ((take_mem_succ _ _ _ hi).2 (Or.inr rfl))]
  · intro j _ hj
    have h := take_mem_succ (ordN l 15) i j hi
    by_cases hm : j ∈ (ordN l 15).take i
    · rw [if_pos hm, if_pos (h.2 (Or.inl hm))]
    · rw [if_neg hm, if_neg fun e => by rcases h.1 e with e | e; exact hm e; exact hj e]
theorem cdK_one (l : List Int) : cdK l 1 = zC := by
  have e : cdK l 1 = row258 fun _ => 0 := by
    refine row258_congr _ _ fun j _ => ?_
    show (0 : Int) = if j ∈ (ordN l 15).take 1 then (codeV l j : Int) else 0
    split
    · rename_i hm
      by_cases h0 : 0 < (ordN l 15).length
      · rcases (take_mem_succ (ordN l 15) 0 j h0).1 hm with hm | hm
        · simp at hm
        · rw [hm, codeV_at l h0, cdN_zero]
          rfl
      · have : ordN l 15 = [] := List.eq_nil_of_length_eq_zero (by omega)
        rw [this] at hm
        simp at hm
    · rfl
  rw [e]
  unfold row258 zC
  rw [List.map_const', List.length_range]
theorem cdK_all {l : List Int} (h : VL l) {i : Nat} (hi : (ordN l 15).length ≤ i) : cdK l i = codT l 258 := by
  unfold cdK codT
  rw [List.take_of_length_le hi]
  refine (row258_congr _ _ fun j hj => ?_).symm
  have hm := mem_ordN l j 15
  have h15 := h.small j
  by_cases h0 : 0 < l.getD j 0
  · rw [if_pos (hm.2 ⟨hj, by omega, h15⟩), if_pos ⟨hj, h0⟩, cdL_nat h hj h0]
  · rw [if_neg fun e => h0 (by have := (hm.1 e).2.1; omega), if_neg fun e => h0 e.2]
theorem codeV_small {l : List Int} (h : VL l) (s : Nat) (hs : s < 258) : codeV l s < 32768 := by
  by_cases h0 : 0 < l.getD s 0
  · have h1 := codeV_lt h hs h0
    have h2 : lnN l s ≤ 15 := by have := h.small s; unfold lnN; omega
    have h3 : 2 ^ lnN l s ≤ 2 ^ 15 := Nat.pow_le_pow_right (by omega) h2
    omega
  · rw [codeV_out l fun e => h0 (by have := ((mem_ordN l s 15).1 e).2.1; omega)]
    omega
theorem cdK_cds {l : List Int} (h : VL l) (i : Nat) : Cds (cdK l i) := row258_cds _ fun s hs => by
  have := codeV_small h s hs
  split <;> omega
theorem cdK_get (l : List Int) {i : Nat} (hi : i < (ordN l 15).length) : (cdK l (i + 1)).getD ((ordN l 15).getD i 0) 0 = (codeV l ((ordN l 15).getD i 0) : Int) := by
  unfold cdK
  rw [row258_get _ _ (ordN_get l hi).1, if_pos ((take_mem_succ _ _ _ hi).2 (Or.inr rfl))]
theorem code_next (l : List Int) {i : Nat} (hi : i + 1 < (ordN l 15).length) : codeV l ((ordN l 15).getD (i + 1) 0) = (codeV l ((ordN l 15).getD i 0) + 1) * 2 ^ (lnN l ((ordN l 15).getD (i + 1) 0) - lnN l ((ordN l 15).getD i 0)) := by
  rw [codeV_at l hi, codeV_at l (by omega)]
  exact (ordN_srt l).next i hi
theorem ln_mono (l : List Int) {i : Nat} (hi : i + 1 < (ordN l 15).length) : l.getD ((ordN l 15).getD i 0) 0 ≤ l.getD ((ordN l 15).getD (i + 1) 0) 0 := by
  have := ordN_at l (Nat.lt_succ_self i) hi
  unfold befN at this
  rw [Nat.succ_eq_add_one] at this
  omega
theorem orK_15 (l : List Int) : orK l 15 0 = (ordN l 15).map fun s : Nat => (s : Int) := by simp [orK]
theorem map_getD (q : List Nat) (i : Nat) (hi : i < q.length) : (q.map fun s : Nat => (s : Int)).getD i 0 = ((q.getD i 0 : Nat) : Int) := by
  rw [List.getD_eq_getElem?_getD, List.getD_eq_getElem?_getD, List.getElem?_map, List.getElem?_eq_getElem hi]
  rfl
/-- While the codes are given. -/
structure Rc (w : World) (l c : List Int) (wr : World) : Prop where
  box : wr.heap[w.heap.size]? = some (.cells (lg l) 23 (0, 0))
  res : wr.heap[w.heap.size + 1]? = some (.cells (cl zC) 54 (0, 0))
  cod : wr.heap[w.heap.size + 2]? = some (.cells (cl c) 54 (0, 0))
  bel : Below w.heap.size w wr
theorem Rc.start (w : World) (l : List Int) : Rc w l zC (((w.alloc (.cells (lg l) 23)).alloc (.cells (cl zC) 54)).alloc (.cells (cl zC) 54)) := by
  refine ⟨?_, ?_, ?_, (((Below.refl _ _).alloc (Nat.le_refl _) _).alloc (by simp) _).alloc (by simp; omega) _⟩
  · rw [heap_alloc_old _ _ (by simp; omega)]
    exact heap_alloc2_old w _ _
  · rw [heap_alloc_old _ _ (by simp)]
    exact heap_alloc2_new w _ _
  · have := heap_alloc_last ((w.alloc (.cells (lg l) 23)).alloc (.cells (cl zC) 54)) (.cells (cl zC) 54)
    simpa using this
theorem Rc.set {w wr : World} {l c : List Int} (h : Rc w l c wr) (v : Nat) (z : Int) : Rc w l (c.set v z) (wr.setCell ⟨w.heap.size + 2, v, none⟩ (.int .u32 z)) :=
  ⟨by rw [heap_setCell_other _ _ _ _ (by simp)]; exact h.box, by rw [heap_setCell_other _ _ _ _ (by simp)]; exact h.res, by rw [heap_setCell_same _ _ _ _ _ _ h.cod, cl_set], h.bel.setCell (by simp) _⟩
theorem Rc.on {w wr w' : World} {l c : List Int} (h : Rc w l c wr) (hb : Below wr.heap.size wr w') : Rc w l c w' := ⟨heap_on hb h.box, heap_on hb h.res, heap_on hb h.cod, h.bel.trans (hb.mono h.bel.size)⟩

set_option maxRecDepth 100000 in
set_option maxHeartbeats 4000000 in
theorem rcodes_yes (l : List Int) (HV : VL l) (w : World) :
    Calls Try.prog 34 #[.agg (lg l)] w fun e w' => e = .returned (.tuple #[.agg (cl (codT l 258)), .int .i64 0]) ∧ Below w.heap.size w w' := by
  have h := HV.lng
  have hz := cdsZ
  have hrv := fun W => rvalid_call l h W
  rw [decide_eq_true HV.sum] at hrv
  have HRV := Lib.hid hrv
  have HRO := Lib.hid (fun W => rorder_call l h HV.sum W)
  have hol := orK_len l 15 0
  have HQ := Lib.hid (orK_15 l)
  generalize orK l 15 0 = O at HRO hol HQ
  clear hrv
  go_enter Try.func34, Try.ntmps34
  go_upto_region 2 with fail
  have hst := Rc.start w l
  have hsz : (((w.alloc (.cells (lg l) 23)).alloc (.cells (cl zC) 54)).alloc (.cells (cl zC) 54)).heap.size = w.heap.size + 3 := by simp
  generalize ((w.alloc (.cells (lg l) 23)).alloc (.cells (cl zC) 54)).alloc (.cells (cl zC) 54) = w1 at hst hsz ⊢
  have hg := hst.box
  have HST := Lib.hid hst
  have HSZ := Lib.hid hsz
  clear hst hz hsz
  go_upto_region 4 with (first
    | (refine wpList_load_row rfl 23 _ rfl w.heap.size rfl 23 (lg l) (0, 0) _ hg Try.underlying23 rfl (lngIk h) ?_)
    | (with_reducible refine (HRV.out _).mono ?_; rintro e w2 ⟨rfl, hb2⟩))
  have hg2 := heap_on hb2 hg
  have HS2 := Lib.hid (HST.out.on hb2)
  have HSZ2 := Lib.hid (show w.heap.size + 3 ≤ w2.heap.size by rw [← HSZ.out]; exact hb2.size)
  clear hg hb2 HST HSZ HRV
  go_upto_region 5 with (first
    | (refine wpList_load_row rfl 23 _ rfl w.heap.size rfl 23 (lg l) (0, 0) _ hg2 Try.underlying23 rfl (lngIk h) ?_)
    | (with_reducible refine (HRO.out _).mono ?_; rintro e w3 ⟨A, c, rfl, hs3⟩))
  have HS3 := Lib.hid (HS2.out.on hs3.bel)
  have HSR := Lib.hid hs3.own.src
  have HAN := Lib.hid (show ∀ x : Addr, ad0 A = some x → x.block ≠ w.heap.size + 2 from fun x e => by
    cases A with
    | none => cases e
    | some g =>
      have h1 := hs3.new g rfl
      have h2 := HSZ2.out
      injection e with e
      rw [← e]
      simp
      omega)
  clear hs3 hg2 HS2 HSZ2 HRO
  generalize ad0 A = a at HSR HAN ⊢
  obtain ⟨N, hN⟩ : ∃ N, N = O.length := ⟨_, rfl⟩
  rw [← hN] at hol ⊢
  have HNN := Lib.hid (show (ordN l 15).length = N by rw [hN, HQ.out, List.length_map])
  have HON := Lib.hid hN.symm
  clear hN
  go_upto_region 6 with fail
  go_loopw [6] (fun v wr => ∃ j : Nat, 1 ≤ j ∧ v = .int .i64 j ∧ (j ≤ N ∨ j = 1) ∧ Rc w l (cdK l j) wr ∧ Src wr .i64 a O) (fun v _ => N - (intOf v).toNat)
  case atStart => exact ⟨1, by omega, rfl, Or.inr rfl, by rw [cdK_one]; exact HS3.out, HSR.out⟩
  case round =>
    obtain ⟨j, hj1, rfl, hjN, hrc, hsr⟩ := hrel
    have HC := Lib.hid hrc
    have HS := Lib.hid hsr
    clear hrc hsr
    by_cases hlt : j < N
    · obtain ⟨k, rfl⟩ : ∃ k, j = k + 1 := ⟨j - 1, by omega⟩
      have hk1 : k + 1 < (ordN l 15).length := by rw [HNN.out]; exact hlt
      have hk0 : k < (ordN l 15).length := by omega
      rcases HS.out with rfl | ⟨g, o, rfl, hc⟩
      · have := HON.out
        simp at this
        omega
      have c1 := hc k (by rw [HON.out]; omega)
      have c2 := hc (k + 1) (by rw [HON.out]; omega)
      rw [HQ.out, map_getD _ _ hk0] at c1
      rw [HQ.out, map_getD _ _ hk1] at c2
      have hnx := code_next l hk1
      have hmo := ln_mono l hk1
      have HSET := Lib.hid (cdK_set l hk1)
      have hget := cdK_get l hk0
      have hs := ordN_get l hk0
      have ht := ordN_get l hk1
      have hsm := codeV_small HV _ ht.1
      have hsm1 := codeV_small HV _ hs.1
      unfold lnN at hnx
      generalize (ordN l 15).getD k 0 = s at c1 hnx hmo hget hs hsm1
      generalize (ordN l 15).getD (k + 1) 0 = t at c2 hnx hmo HSET ht hsm
      have x1 := cl_cell HC.out.cod (cdK_cds HV (k + 1)) s hs.1
      have x2 := lg_cell HC.out.box h s hs.1
      have x3 := lg_cell HC.out.box h t ht.1
      have hfz : wr.frozen? ⟨w.heap.size + 2, t, none⟩ = false := frozen_of_row wr (w.heap.size + 2) t _ _ HC.out.cod
      have hcc := cl_cell HC.out.cod (cdK_cds HV (k + 1)) t ht.1
      rw [hget] at x1
      obtain ⟨C, hC⟩ : ∃ C, C = codeV l s := ⟨_, rfl⟩
      obtain ⟨C2, hC2⟩ : ∃ C2, C2 = codeV l t := ⟨_, rfl⟩
      rw [← hC] at x1 hnx hsm1
      rw [← hC2] at hnx hsm HSET
      obtain ⟨p, hp⟩ : ∃ p : Nat, l.getD s 0 = (p : Int) := ⟨(l.getD s 0).toNat, by omega⟩
      obtain ⟨r, hr⟩ : ∃ r : Nat, l.getD t 0 = (r : Int) := ⟨(l.getD t 0).toNat, by omega⟩
      rw [hp] at x2 hnx hmo hs
      rw [hr] at x3 hnx hmo ht
      obtain ⟨hs1, hs2, hs3⟩ := hs
      obtain ⟨ht1, ht2, ht3⟩ := ht
      rw [Int.toNat_natCast, Int.toNat_natCast] at hnx
      have HX := Lib.hid (show ∀ m, m ≤ r - p → (C + 1) * 2 ^ m ≤ 32768 from fun m hm => by
        have h1 : 2 ^ m ≤ 2 ^ (r - p) := Nat.pow_le_pow_right (by omega) hm
        have h2 := Nat.mul_le_mul_left (C + 1) h1
        omega)
      have HNX := Lib.hid hnx
      clear hnx hget hC hC2 hp hr hc hk1 hk0
      obtain ⟨J, hJ⟩ : ∃ J, J = k + 1 := ⟨_, rfl⟩
      rw [← hJ] at c2 hlt hj1 HSET HC ⊢
      have HJ := Lib.hid hJ
      have hw : IntKind.i64.wrap ((J : Int) - 1) = (k : Int) := by rw [IntKind.wrap_i64]; omega
      have hkJ : k < J := by omega
      have hkN : k < N := by omega
      clear hJ
      go_upto_region 10 with fail
      clear hw x1 x2 c1
      obtain ⟨wo, hwo⟩ : ∃ wo, wo = wr := ⟨_, rfl⟩
      subst hwo
      go_loopw [7, 8] (fun v x wr => ∃ m : Nat, m ≤ r - p ∧ x = .int .u8 ((p + m : Nat) : Int) ∧ v = .int .u32 (((C + 1) * 2 ^ m : Nat) : Int) ∧ wr = wo) (fun _ x _ => r - (intOf x).toNat)
      case atStart => exact ⟨0, by omega, by simp, by simp, rfl⟩
      case round =>
        obtain ⟨m, hm, rfl, rfl, rfl⟩ := hrel
        have hX := HX.out m hm
        have HPW := Lib.hid (show (C + 1) * 2 ^ (m + 1) = 2 * ((C + 1) * 2 ^ m) by rw [Nat.pow_succ, ← Nat.mul_assoc, Nat.mul_comm _ 2])
        by_cases hmr : p + m < r
        · obtain ⟨y, hy⟩ : ∃ y, y = p + m := ⟨_, rfl⟩
          rw [← hy] at hmr ⊢
          have HY := Lib.hid hy
          clear hy
          generalize (C + 1) * 2 ^ m = X at hX HPW ⊢
          go_wp2_with fail
          exact ⟨⟨m + 1, by have := HY.out; omega, by rw [← Nat.add_assoc, ← HY.out]; go_num, by rw [HPW.out]; go_num, by trivial⟩, by have := HY.out; simp [intOf]; omega⟩
        · obtain rfl : m = r - p := by omega
          rw [← HNX.out] at hX ⊢
          have hy : p + (r - p) = r := by omega
          rw [hy]
          clear HPW HX hy
          go_wp2_with fail
          have hch := (Ch.refl (fun i => i = w.heap.size + 2) wr).setCell ⟨w.heap.size + 2, t, none⟩ (.int .u32 (C2 : Int)) (.inl rfl)
          exact ⟨⟨J + 1, by omega, by go_num, Or.inl (by omega), by rw [HJ.out]; rw [HJ.out] at HC HSET; exact HSET.out ▸ HC.out.set t (C2 : Int), hch.src HS.out (fun x e => HAN.out x e)⟩, by simp [intOf]; omega⟩
    · have hcE := cdK_all HV (i := j) (by rw [HNN.out]; omega)
      rw [hcE] at HC
      have hc : Cds (codT l 258) := codT_cds HV 258
      have hg3 := HC.out.cod
      obtain ⟨c0, hc0⟩ : ∃ c0, c0 = codT l 258 := ⟨_, rfl⟩
      rw [← hc0] at hg3 HC hc
      have HCE := Lib.hid hc0
      clear hc0 hcE
      go_wp2_with (first
        | (refine wpList_load_row rfl 54 _ rfl (w.heap.size + 2) rfl 54 (cl c0) (0, 0) _ hg3 Try.underlying54 rfl (cdsIk hc) ?_)
        | (refine wpList_store_row rfl 54 _ _ rfl (w.heap.size + 1) (cl c0) rfl rfl 54 (cl zC) HC.out.res (cdsIk hc) (by rw [cl_size zC_cds, cl_size hc]) (cl_all _) ?_))
      refine bodyPost_ret (v := .tuple #[.agg (cl c0), .int .i64 0]) ?_ rfl ⟨by rw [HCE.out], HC.out.bel.setRow (by omega) _⟩
      exact results_cell_tmp Try.results34 _ _ (w.heap.size + 1) 54 (cl c0) (0, 0) _ _ rfl rfl (setRow_heap _ _ _ _ _ _ HC.out.res) Try.underlying54 rfl (cdsIk hc)

set_option maxRecDepth 100000 in
set_option maxHeartbeats 2000000 in
theorem rcodes_no (l : List Int) (h : Lng l) (hv : ¬ ks l ≤ 32768) (w : World) :
    Calls Try.prog 34 #[.agg (lg l)] w fun e w' => e = .returned (.tuple #[.agg (cl zC), .int .i64 2]) ∧ Below w.heap.size w w' := by
  have hz := cdsZ
  have hrv := fun W => rvalid_call l h W
  rw [decide_eq_false hv] at hrv
  have HRV := Lib.hid hrv
  clear hrv
  go_enter Try.func34, Try.ntmps34
  go_upto_region 2 with fail
  have hst := Rc.start w l
  generalize ((w.alloc (.cells (lg l) 23)).alloc (.cells (cl zC) 54)).alloc (.cells (cl zC) 54) = w1 at hst ⊢
  have hg := hst.box
  have HST := Lib.hid hst
  clear hst hz
  go_wp2_with (first
    | (refine wpList_load_row rfl 23 _ rfl w.heap.size rfl 23 (lg l) (0, 0) _ hg Try.underlying23 rfl (lngIk h) ?_)
    | (with_reducible refine (HRV.out _).mono ?_; rintro e w2 ⟨rfl, hb2⟩
       have HS2 := Lib.hid (HST.out.on hb2)
       have hg3 := HS2.out.cod)
    | (refine wpList_load_row rfl 54 _ rfl (w.heap.size + 2) rfl 54 (cl zC) (0, 0) _ hg3 Try.underlying54 rfl cdsI ?_)
    | (refine wpList_store_row rfl 54 _ _ rfl (w.heap.size + 1) (cl zC) rfl rfl 54 (cl zC) HS2.out.res cdsI rfl (cl_all _) ?_))
  refine bodyPost_ret (v := .tuple #[.agg (cl zC), .int .i64 2]) ?_ rfl ⟨rfl, HS2.out.bel.setRow (by omega) _⟩
  exact results_cell_tmp Try.results34 _ _ (w.heap.size + 1) 54 (cl zC) (0, 0) _ _ rfl rfl (setRow_heap _ _ _ _ _ _ HS2.out.res) Try.underlying54 rfl cdsI
theorem rcodes_call (l : List Int) (h : Lng l) (w : World) :
    Calls Try.prog 34 #[.agg (lg l)] w fun e w' => e = .returned (.tuple #[.agg (cl (codR l)), .int .i64 (codE l)]) ∧ Below w.heap.size w w' := by
  unfold codR codE
  by_cases hv : ks l ≤ 32768
  · rw [if_pos hv, if_pos hv]
    exact rcodes_yes l ⟨h, hv⟩ w
  · rw [if_neg hv, if_neg hv]
    exact rcodes_no l h hv w
end Go.Proofs.Ytnpohkaicfcidaa
