/- Law CanonicalPrefix. -/
import Derived.Test.YtdbpdnfniidfhaaCnW
import Derived.Test.YtdbpdnfniidfhaaCnB
import Derived.Test.YtdbpdnfniidfhaaOlC
set_option linter.unusedVariables false
set_option linter.unusedSimpArgs false
namespace Go.Proofs.Ytdbpdnfniidfhaa
open Go.RowKit

/-- The i-th symbol, its length, its code. -/
def syA (l : List Int) (i : Nat) : Nat := (ordN l 15).getD i 0
def lnA (l : List Int) (i : Nat) : Nat := lnN l (syA l i)
def cdA (l : List Int) (i : Nat) : Nat := cdN (lnN l) (ordN l 15) i
theorem ordI_length (l : List Int) : (ordI l).length = (ordN l 15).length := by unfold ordI; rw [List.length_map]
theorem ordI_get (l : List Int) (i : Nat) (hi : i < (ordN l 15).length) : (ordI l).getD i 0 = (syA l i : Int) := by
  unfold ordI syA
  simp [List.getD_eq_getElem?_getD, hi]
theorem syA_facts {l : List Int} (h : VL l) (i : Nat) (hi : i < (ordN l 15).length) :
    syA l i < 258 ∧ l.getD (syA l i) 0 = (lnA l i : Int) ∧ 1 ≤ lnA l i ∧ lnA l i ≤ 15 ∧ (codT l 258).getD (syA l i) 0 = (cdA l i : Int) ∧ cdA l i < 2 ^ lnA l i := by
  have h1 := ordN_get l hi
  have hs : syA l i < 258 := h1.1
  have e1 : l.getD (syA l i) 0 = (lnA l i : Int) := by
    unfold lnA lnN syA
    omega
  have h2 : 1 ≤ lnA l i ∧ lnA l i ≤ 15 := by
    have := h1.2
    unfold syA at e1
    unfold syA at hs
    omega
  refine ⟨hs, e1, h2.1, h2.2, ?_, ?_⟩
  · rw [codT, row258_get _ _ hs, if_pos ⟨hs, by omega⟩]
    have e2 := codeV_fc h (syA l i) hs (by omega)
    have e3 := codeV_at l hi
    unfold cdL
    rw [← e2]
    unfold syA cdA
    rw [e3]
  · refine (ordN_srt l).lt ?_ i hi
    rw [stN_end]
    exact h.kf
theorem syA_first (l : List Int) : cdA l 0 = 0 := cdN_zero _
theorem syA_order {l : List Int} (h : VL l) {i j : Nat} (hij : i < j) (hj : j < (ordN l 15).length) :
    lnA l i ≤ lnA l j ∧ (lnA l i = lnA l j → syA l i < syA l j) ∧ cdA l i * 2 ^ (15 - lnA l i) < cdA l j * 2 ^ (15 - lnA l j) ∧ bgV (cdA l i) (lnA l i) (cdA l j) (lnA l j) = false := by
  have hi : i < (ordN l 15).length := by omega
  have f1 := syA_facts h i hi
  have f2 := syA_facts h j hj
  have hb := ordN_at l hij hj
  have hle : lnA l i ≤ lnA l j := (ordN_srt l).up i j hij hj
  refine ⟨hle, fun e => ?_, (ordN_srt l).rise hij hj, ?_⟩
  · unfold befN at hb
    have e1 := f1.2.1
    have e2 := f2.2.1
    unfold syA at e1 e2 ⊢
    omega
  · unfold bgV
    rw [decide_eq_true hle, Bool.true_and]
    exact decide_eq_false ((ordN_srt l).prefix hij hj)

/-- What the law's loops read. -/
structure Pf (w : World) (l c : List Int) (g3 : Nat) (A : Option Nat) (ca : Nat) (q : List Int) (wr : World) : Prop where
  box : wr.heap[w.heap.size]? = some (.cells (lg l) 23 (0, 0))
  cod : wr.heap[g3]? = some (.cells (cl c) 28 (0, 0))
  own : OwnS wr .i64 3 A ca q
  bel : Below w.heap.size w wr
theorem Pf.drewN {w : World} {l c : List Int} {g3 : Nat} {A : Option Nat} {ca : Nat} {q : List Int} {wr : World} (h : Pf w l c g3 A ca q wr) (n : Nat) : Pf w l c g3 A ca q (wr.drewN n) := ⟨h.box, h.cod, h.own, h.bel.drewN n⟩

set_option maxRecDepth 100000 in
set_option maxHeartbeats 4000000 in
theorem prefix_call (l : List Int) (h : Lng l) (w : World) :
    Calls Try.prog 3 #[.agg (lg l)] w fun e w' => e = .returned (.bool true) ∧ Below w.heap.size w w' := by
  go_enter Try.func3, Try.ntmps3
  go_upto_region 1 with fail
  have hg := heap_alloc_last w (.cells (lg l) 23)
  have hb := (Below.refl w.heap.size w).alloc (Nat.le_refl _) (.cells (lg l) 23)
  generalize w.alloc (.cells (lg l) 23) = w1 at hg hb ⊢
  have HB := Lib.hid hb
  have hsc := fun W => rsum_call l h W
  clear hb
  by_cases hv : ks l ≤ 32768
  · have HVL : VL l := ⟨h, hv⟩
    have hkf := ks_kf h HVL.small
    have hk2 := HVL.kf
    rw [rsV_eq hv, hkf] at hsc
    have hcd := fun W => codes_call l h W
    rw [show codE l = 0 from if_pos hv] at hcd
    have HR := Lib.hid (show codR l = codT l 258 from if_pos hv)
    have hcc := codR_cds h
    have hoc := fun W => order_call l h W
    rw [show ordR l = ordI l from if_pos hv] at hoc
    have hol : (ordI l).length ≤ 258 := ordI_len HVL.small
    rw [ordI_length] at hol hoc
    have HQ := Lib.hid (fun i => ordI_get l i)
    have HQL := Lib.hid (ordI_length l)
    have HOC := Lib.hid hoc
    clear hv hkf hoc
    generalize kfN l = S at hsc hk2
    generalize ordI l = q at HOC HQ HQL
    obtain ⟨n, hn⟩ : ∃ n, n = (ordN l 15).length := ⟨_, rfl⟩
    have HF := Lib.hid (fun i => syA_facts HVL i)
    have HO := Lib.hid (fun i j => syA_order (l := l) HVL (i := i) (j := j))
    rw [← hn] at HOC HQ HQL hol HF HO
    clear hn HVL
    obtain ⟨c, hc⟩ : ∃ c, c = codR l := ⟨_, rfl⟩
    rw [← hc] at hcd hcc HR
    rw [← HR.out] at HF
    clear hc
    have hzC := cdsZ
    have hle : (decide ((32768 : Int) < S)) = false := by simp; omega
    have hle2 : (decide (32768 < S)) = false := by simp; omega
    go_upto_region 3 with (first
      | (refine wpList_load_row rfl 23 _ rfl w.heap.size rfl 23 (lg l) (0, 0) _ hg Try.underlying23 rfl (lngIk h) ?_)
      | (with_reducible refine (hsc _).mono ?_; rintro e w2 ⟨rfl, hb2⟩))
    have hg2 := heap_on hb2 hg
    replace HB := Lib.hid (HB.out.trans (hb2.mono HB.out.size))
    clear hb2 hg hsc hle hle2 hk2
    go_upto_region 4 with (first
      | (refine wpList_load_row rfl 23 _ rfl w.heap.size rfl 23 (lg l) (0, 0) _ hg2 Try.underlying23 rfl (lngIk h) ?_)
      | (with_reducible refine (hcd _).mono ?_; rintro e w3 ⟨rfl, hb3⟩)
      | (refine wpList_store_row rfl 28 _ _ rfl w3.heap.size (cl c) rfl rfl 28 (cl zC) (heap_alloc_last w3 _) (cdsIk hcc) (by rw [cl_size zC_cds, cl_size hcc]) (cl_all _) ?_))
    rw [World.setRow_alloc_new]
    have hb4 := hb3.alloc (o := .cells (cl c) 28) hb3.size
    have hg4 := heap_on hb4 hg2
    replace HB := Lib.hid (HB.out.trans (hb4.mono HB.out.size))
    have hc4 := heap_alloc_last w3 (.cells (cl c) 28)
    obtain ⟨g3, hg3⟩ : ∃ g3, g3 = w3.heap.size := ⟨_, rfl⟩
    rw [← hg3] at hc4 ⊢
    clear hg3 hb3 hb4 hcd hzC hg2
    generalize w3.alloc (.cells (cl c) 28) = w4 at hg4 hc4 HB ⊢
    have HC4 := Lib.hid hc4
    clear hc4
    go_upto_region 5 with (first
      | (refine wpList_load_row rfl 23 _ rfl w.heap.size rfl 23 (lg l) (0, 0) _ hg4 Try.underlying23 rfl (lngIk h) ?_)
      | (with_reducible refine (HOC.out _).mono ?_
         rintro e w5 ⟨A, ca, rfl, hown, _, hb5⟩
         have HPF := Lib.hid (show Pf w l c g3 A ca q w5 from ⟨heap_on hb5 hg4, heap_on hb5 HC4.out, hown, HB.out.trans (hb5.mono HB.out.size)⟩)
         clear hown hb5))
    clear hg4 HC4 HB HOC
    go_upto_region 8 with fail
    go_loopw [6] (fun i wr => ∃ k : Nat, k ≤ n ∧ i = .int .i64 k ∧ Pf w l c g3 A ca q wr) (fun i _ => n - (intOf i).toNat)
    case atStart => exact ⟨0, by omega, rfl, HPF.out⟩
    case round =>
      obtain ⟨k, hk, rfl, hp⟩ := hrel
      have HP := Lib.hid hp
      by_cases hlt : k < n
      · obtain ⟨g, rfl⟩ := hp.own.pos (by rw [HQL.out]; omega)
        have had : ad0 (some g) = some ⟨g, 0, none⟩ := rfl
        have hq1 := hp.own.cell k (by rw [HQL.out]; exact hlt)
        rw [HQ.out k hlt] at hq1
        obtain ⟨hs, hln, h1, h15, hcd, hcl⟩ := HF.out k hlt
        have hcl1 := lg_cell hp.box h _ hs
        have hcl2 := cl_cell hp.cod hcc _ hs
        rw [hln] at hcl1
        rw [hcd] at hcl2
        have H0 := Lib.hid (syA_first l)
        clear hp hln hcd
        have HOk := Lib.hid (fun p (e : k = p + 1) => HO.out p k (by omega) hlt)
        have HC0 := Lib.hid (show k = 0 → cdA l k = 0 from fun e => by rw [e]; exact H0.out)
        generalize syA l k = s at hq1 hs hcl1 hcl2 HOk
        generalize lnA l k = v at h1 h15 hcl hcl1 HOk
        generalize cdA l k = x at hcl hcl2 HOk HC0
        have hsi : (s : Int) < 258 := by omega
        have d1 : (decide ((s : Int) < 0)) = false := decide_eq_false (by omega)
        have d2 : (decide ((258 : Int) ≤ (s : Int))) = false := decide_eq_false (by omega)
        have d3 : (decide ((v : Int) < 1)) = false := decide_eq_false (by omega)
        have d4 : (decide (v < 1)) = false := decide_eq_false (by omega)
        have d5 : (decide (s < 0)) = false := decide_eq_false (by omega)
        have d6 : (decide (258 ≤ s)) = false := decide_eq_false (by omega)
        have hpw : 2 ^ v ≤ 32768 := Nat.pow_le_pow_right (n := 2) (i := v) (j := 15) (by omega) h15
        obtain ⟨P, hP⟩ : ∃ P, P = 2 ^ v := ⟨_, rfl⟩
        have HPW := Lib.hid hP
        rw [← hP] at hcl hpw
        have hw1 : IntKind.u32.wrap ((2 : Int) ^ v) = (P : Int) := by
          have : ((2 : Int) ^ v) = (P : Int) := by rw [hP]; simp
          rw [this, IntKind.wrap_u32]; omega
        have d7 : (decide ((P : Int) ≤ (x : Int))) = false := decide_eq_false (by omega)
        have d8 : (decide (P ≤ x)) = false := decide_eq_false (by omega)
        clear hP
        go_upto_region 11 with fail
        go_quiet (fail)
        clear d1 d2 d3 d4 d5 d6 d7 d8 hw1
        by_cases hk0 : k = 0
        · have hkb : ((k : Int) == 0) = true := by simp; exact hk0
          have hx0 : ((x : Int) != 0) = false := by simp; exact HC0.out hk0
          clear HOk hk0
          go_wp2_with fail
          exact ⟨⟨k + 1, by omega, by go_num, HP.out.drewN _⟩, by simp [intOf]; omega⟩
        · have hkb : ((k : Int) == 0) = false := beq_eq_false_iff_ne.2 (by omega)
          obtain ⟨p, hp⟩ : ∃ p, k = p + 1 := ⟨k - 1, by omega⟩
          have hsub : IntKind.i64.wrap ((k : Int) - 1) = (p : Int) := by rw [IntKind.wrap_i64]; omega
          have hpn : p < n := by omega
          obtain ⟨hle, heq, hrise, hbg⟩ := HOk.out p hp
          have hqp := HP.out.own.cell p (by rw [HQL.out]; exact hpn)
          rw [HQ.out p hpn] at hqp
          obtain ⟨os, oln, o1, o15, ocd, ocl⟩ := HF.out p hpn
          have ocl1 := lg_cell HP.out.box h _ os
          have ocl2 := cl_cell HP.out.cod hcc _ os
          rw [oln] at ocl1
          rw [ocd] at ocl2
          clear oln ocd HOk HC0 hk0 hp
          generalize syA l p = o at hqp os ocl1 ocl2 heq
          generalize lnA l p = u at o1 o15 ocl ocl1 hle heq hrise hbg
          generalize cdA l p = y at ocl ocl2 hrise hbg
          have hoi : (o : Int) < 258 := by omega
          have e1 : (decide ((v : Int) < (u : Int))) = false := decide_eq_false (by omega)
          have e2 : (decide (v < u)) = false := decide_eq_false (by omega)
          have hs1 : IntKind.i64.wrap (15 - (v : Int)) = ((15 - v : Nat) : Int) := by rw [IntKind.wrap_i64]; omega
          have hs2 : IntKind.i64.wrap (15 - (u : Int)) = ((15 - u : Nat) : Int) := by rw [IntKind.wrap_i64]; omega
          have hX : x * 2 ^ (15 - v) ≤ 32768 := by
            have : 2 ^ v * 2 ^ (15 - v) = 32768 := by rw [← Nat.pow_add, show v + (15 - v) = 15 by omega]
            have h2 : x * 2 ^ (15 - v) ≤ 2 ^ v * 2 ^ (15 - v) := Nat.mul_le_mul_right _ (by rw [← HPW.out]; omega)
            omega
          have hw2 : IntKind.u32.wrap ((x : Int) * 2 ^ (15 - v)) = ((x * 2 ^ (15 - v) : Nat) : Int) := by
            have : ((x : Int) * 2 ^ (15 - v)) = ((x * 2 ^ (15 - v) : Nat) : Int) := by simp
            rw [this, IntKind.wrap_u32]; omega
          have hw3 : IntKind.u32.wrap ((y : Int) * 2 ^ (15 - u)) = ((y * 2 ^ (15 - u) : Nat) : Int) := by
            have : ((y : Int) * 2 ^ (15 - u)) = ((y * 2 ^ (15 - u) : Nat) : Int) := by simp
            rw [this, IntKind.wrap_u32]; omega
          generalize x * 2 ^ (15 - v) = X2 at hw2 hrise hX
          generalize y * 2 ^ (15 - u) = Y2 at hw3 hrise
          have hv15 : 15 - v ≤ 32 := by omega
          have hu15 : 15 - u ≤ 32 := by omega
          have hy32 : y ≤ 4294967295 := by have : 2 ^ u ≤ 2 ^ 15 := Nat.pow_le_pow_right (by omega) o15; omega
          have hbeg := fun W => begins_call y u x v hy32 (by omega) (by omega) (by omega) W
          rw [hbg] at hbeg
          generalize 15 - v = dv at hs1 hw2 hv15
          generalize 15 - u = du at hs2 hw3 hu15
          have hwv : IntKind.i64.wrap (v : Int) = (v : Int) := by rw [IntKind.wrap_i64]; omega
          have hwu : IntKind.i64.wrap (u : Int) = (u : Int) := by rw [IntKind.wrap_i64]; omega
          have hwdv : IntKind.u64.wrap (dv : Int) = (dv : Int) := by rw [IntKind.wrap_u64]; omega
          have hwdu : IntKind.u64.wrap (du : Int) = (du : Int) := by rw [IntKind.wrap_u64]; omega
          have hmv : min dv 32 = dv := Nat.min_eq_left hv15
          have hmu : min du 32 = du := Nat.min_eq_left hu15
          have e3 : (decide ((X2 : Int) ≤ (Y2 : Int))) = false := decide_eq_false (by omega)
          have e4 : (decide (X2 ≤ Y2)) = false := decide_eq_false (by omega)
          clear hbg hrise hX ocl
          by_cases huv : u = v
          · have hub : ((u : Int) == (v : Int)) = true := beq_iff_eq.2 (by omega)
            have hub2 : (u == v) = true := beq_iff_eq.2 huv
            have e5 : (decide ((s : Int) ≤ (o : Int))) = false := decide_eq_false (by have := heq huv; omega)
            have e6 : (decide (s ≤ o)) = false := decide_eq_false (by have := heq huv; omega)
            clear huv heq hle
            go_upto_region 17 with fail
            go_quiet ((go_at_call 9; go_must (refine (hbeg _).mono ?_; rintro e w'' ⟨rfl, rfl⟩; exact ⟨rfl, _, rfl⟩)))
            go_wp2_with fail
            exact ⟨⟨k + 1, by omega, by go_num, HP.out.drewN _⟩, by simp [intOf]; omega⟩
          · have hub : ((u : Int) == (v : Int)) = false := beq_eq_false_iff_ne.2 (by omega)
            have hub2 : (u == v) = false := beq_eq_false_iff_ne.2 huv
            clear huv heq hle
            go_upto_region 17 with fail
            go_quiet ((go_at_call 9; go_must (refine (hbeg _).mono ?_; rintro e w'' ⟨rfl, rfl⟩; exact ⟨rfl, _, rfl⟩)))
            go_wp2_with fail
            exact ⟨⟨k + 1, by omega, by go_num, HP.out.drewN _⟩, by simp [intOf]; omega⟩
      · obtain rfl : k = n := by omega
        clear hp
        go_upto_region 20 with fail
        go_loopw [9] (fun i wr => ∃ m : Nat, m ≤ k ∧ i = .int .i64 m ∧ Pf w l c g3 A ca q wr) (fun i _ => k - (intOf i).toNat)
        case atStart => exact ⟨0, by omega, rfl, HP.out⟩
        case round =>
          obtain ⟨m, hm, rfl, hp⟩ := hrel
          have HP1 := Lib.hid hp
          clear hp
          by_cases hmk : m < k
          · have hqL : 0 < q.length := by rw [HQL.out]; omega
            obtain ⟨g, rfl⟩ := HP1.out.own.pos hqL
            have had : ad0 (some g) = some ⟨g, 0, none⟩ := rfl
            clear hqL
            go_upto_region 23 with fail
            obtain ⟨wo, hwo⟩ : ∃ wo, wo = wr := ⟨_, rfl⟩
            subst hwo
            go_loopw [10] (fun i wr => ∃ j : Nat, j ≤ m ∧ i = .int .i64 j ∧ Pf w l c g3 (some g) ca q wr) (fun i _ => m - (intOf i).toNat)
            case atStart => exact ⟨0, by omega, rfl, HP1.out⟩
            case round =>
              obtain ⟨j, hj, rfl, hp⟩ := hrel
              have HP2 := Lib.hid hp
              clear hp
              by_cases hjm : j < m
              · by_cases hj40 : j < 40
                · have hjk : j < k := by omega
                  obtain ⟨is, iln, i1, i15, icd, icl⟩ := HF.out m hmk
                  obtain ⟨js, jln, j1, j15, jcd, jcl⟩ := HF.out j hjk
                  obtain ⟨_, _, _, hbg⟩ := HO.out j m hjm hmk
                  have hqm := HP2.out.own.cell m (by rw [HQL.out]; exact hmk)
                  have hqj := HP2.out.own.cell j (by rw [HQL.out]; exact hjk)
                  rw [HQ.out m hmk] at hqm
                  rw [HQ.out j hjk] at hqj
                  have a1 := lg_cell HP2.out.box h _ is
                  have a2 := cl_cell HP2.out.cod hcc _ is
                  have b1 := lg_cell HP2.out.box h _ js
                  have b2 := cl_cell HP2.out.cod hcc _ js
                  rw [iln] at a1
                  rw [icd] at a2
                  rw [jln] at b1
                  rw [jcd] at b2
                  have hy32 : cdA l j ≤ 4294967295 := by have : 2 ^ lnA l j ≤ 2 ^ 15 := Nat.pow_le_pow_right (by omega) j15; omega
                  have hx32 : cdA l m ≤ 4294967295 := by have : 2 ^ lnA l m ≤ 2 ^ 15 := Nat.pow_le_pow_right (by omega) i15; omega
                  have hbeg := fun W => begins_call (cdA l j) (lnA l j) (cdA l m) (lnA l m) hy32 hx32 (by omega) (by omega) W
                  rw [hbg] at hbeg
                  have hsi1 : (syA l m : Int) < 258 := by omega
                  have hsi2 : (syA l j : Int) < 258 := by omega
                  clear hbg jln jcd iln icd icl jcl
                  generalize syA l m = s at hqm is a1 a2 hsi1
                  generalize syA l j = o at hqj js b1 b2 hsi2
                  generalize lnA l m = v at a1 hbeg i1 i15
                  generalize lnA l j = u at b1 hbeg j1 j15
                  generalize cdA l m = x at a2 hbeg hx32
                  generalize cdA l j = y at b2 hbeg hy32
                  have hki : (k : Int) ≤ 258 := by omega
                  go_upto_region 25 with fail
                  go_quiet ((go_at_call 9; go_must (refine (hbeg _).mono ?_; rintro e w'' ⟨rfl, rfl⟩; exact ⟨rfl, _, rfl⟩)))
                  go_wp2_with fail
                  exact ⟨⟨j + 1, by omega, by go_num, HP2.out.drewN _⟩, by simp [intOf]; omega⟩
                · go_wp2_with fail
                  exact ⟨⟨m + 1, by omega, by go_num, HP2.out⟩, by simp [intOf]; omega⟩
              · go_wp2_with fail
                exact ⟨⟨m + 1, by omega, by go_num, HP2.out⟩, by simp [intOf]; omega⟩
          · go_wp2_with (with_reducible refine (wakes_call _).mono ?_; rintro e w6 ⟨rfl, hb6⟩)
            go_ret
            exact ⟨rfl, HP1.out.bel.trans (hb6.mono HP1.out.bel.size)⟩
  · have hno : 32768 < rsV l := by
      have := (rsV_iff l).1
      omega
    have hbs : rsV l ≤ 8454402 := by
      unfold rsV
      have := ks_bd h
      split <;> omega
    generalize rsV l = S at hno hbs hsc
    clear hv
    go_wp2_with (first
      | (refine wpList_load_row rfl 23 _ rfl w.heap.size rfl 23 (lg l) (0, 0) _ hg Try.underlying23 rfl (lngIk h) ?_)
      | (with_reducible refine (hsc _).mono ?_; rintro e w2 ⟨rfl, hb2⟩)
      | (with_reducible refine (wakes_call _).mono ?_; rintro e w3 ⟨rfl, hb3⟩))
    go_ret
    exact ⟨rfl, (HB.out.trans (hb2.mono HB.out.size)).trans (hb3.mono (HB.out.trans (hb2.mono HB.out.size)).size)⟩
end Go.Proofs.Ytdbpdnfniidfhaa
