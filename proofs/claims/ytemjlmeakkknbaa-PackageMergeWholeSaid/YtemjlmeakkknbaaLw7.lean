/- Law PackageMergeWhole. -/
import Derived.Test.YtemjlmeakkknbaaWk7
import Derived.Test.YtemjlmeakkknbaaLw
set_option linter.unusedVariables false
set_option linter.unusedSimpArgs false
namespace Go.Proofs.Ytemjlmeakkknbaa
open Go.RowKit

set_option maxRecDepth 100000 in
set_option maxHeartbeats 8000000 in
theorem whole_law (t : List Int) (ht : Tal t) (L : Int) (hL : -9223372036854775808 ≤ L ∧ L ≤ 9223372036854775807) (w : World) :
    Calls Try.prog 5 #[.agg (tl t), .int .i64 L] w fun e w' => e = .returned (.bool true) ∧ Below w.heap.size w w' := by
  have hzT := talZ
  have hzL := lngZ
  have hwk := wakes_call
  have hkT := fun w => lengths_call t ht L hL w
  have hkO := fun w => order_call t ht w
  have hlT := lenQ_lng ht L
  have HE2 := Lib.hid (fun h : lenE t L ≠ 0 => lenE_two h)
  have HAT := Lib.hid (fun (h : lenE t L = 0) => whole_at ht (lenE_is h))
  have HORD := Lib.hid (fun (h : lenE t L = 0) => whole_ord ht (lenE_is h))
  have HCNT := Lib.hid (fun (h : lenE t L = 0) => whole_cnt ht (lenE_is h))
  have HS2 := Lib.hid (fun (h : lenE t L = 0) => whole_sum2 ht (lenE_is h))
  have HS1 := Lib.hid (fun (h : lenE t L = 0) => whole_sum1 ht (lenE_is h))
  have HOV := Lib.hid (fun (h : lenE t L = 0) => ordV_ok (lenE_is h))
  have HSC := Lib.hid (fun w => sum_call (lenQ t L) hlT (lenQ_le ht L) w)
  have HOL := Lib.hid (ordL_len t)
  have hol := ordV_le t
  rw [ht.1] at hol
  generalize lenQ t L = Q at hkT hlT HE2 HAT HORD HCNT HS2 HS1 HSC
  generalize lenE t L = E at hkT HE2 HAT HORD HCNT HS2 HS1 HOV
  obtain ⟨q, hq⟩ : ∃ q, q = ordV t := ⟨_, rfl⟩
  rw [← hq] at hkO HOV hol
  clear hq
  obtain ⟨n, hn⟩ : ∃ n, n = q.length := ⟨_, rfl⟩
  rw [← hn] at hkO hol
  have HN := Lib.hid hn
  clear hn
  go_enter Try.func5, Try.ntmps5
  go_upto_region 1 with fail
  have hg := heap_alloc_last w (.cells (tl t) 23)
  have hbl := below_al w (.cells (tl t) 23)
  generalize w.alloc (.cells (tl t) 23) = w1 at hg hbl ⊢
  have HBL := Lib.hid hbl
  clear hbl
  go_upto_region 2 with (first
    | (refine wpList_load_row rfl 23 _ rfl w.heap.size rfl 23 (tl t) (0, 0) _ hg Try.underlying23 rfl (talIk ht) ?_)
    | (with_reducible refine (hkT _).mono ?_
       rintro e x1 ⟨rfl, hb⟩
       replace HBL := Lib.hid (HBL.out.trans (hb.mono HBL.out.size))
       replace hg := heap_on hb hg
       clear hb hkT)
    | (refine wpList_store_row rfl 25 _ _ rfl x1.heap.size (lg Q) rfl rfl 25 (lg zL) (heap_alloc_last x1 _) (lngIk hlT) (by rw [lg_size zL_lng, lg_size hlT]) (lg_all _) ?_))
  rw [World.setRow_alloc_new]
  have hbq := below_al x1 (.cells (lg Q) 25)
  have hl1 := heap_alloc_last x1 (.cells (lg Q) 25)
  replace HBL := Lib.hid (HBL.out.trans (hbq.mono HBL.out.size))
  replace hg := heap_on hbq hg
  generalize x1.alloc (.cells (lg Q) 25) = y1 at hbq hl1 HBL hg ⊢
  clear hbq
  go_upto_region 3 with (first
    | (refine wpList_load_row rfl 23 _ rfl w.heap.size rfl 23 (tl t) (0, 0) _ hg Try.underlying23 rfl (talIk ht) ?_)
    | (with_reducible refine (hkO _).mono ?_
       rintro e x2 ⟨a, c, rfl, hs, hb⟩
       replace HBL := Lib.hid (HBL.out.trans (hb.mono HBL.out.size))
       replace hg := heap_on hb hg
       replace hl1 := heap_on hb hl1
       clear hb hkO))
  by_cases hE : E = 0
  · have HA := Lib.hid (HAT.out hE)
    have HO := Lib.hid (HORD.out hE)
    have hcnt := HCNT.out hE
    have hs2 := HS2.out hE
    have hs1 := HS1.out hE
    have hov := HOV.out hE
    rw [← HOL.out, ← hov] at hcnt hs2 hs1
    replace HA : RowKit.Hid (∀ (i : Nat), i < q.length → ∃ s : Nat, q.getD i 0 = s ∧ s < 258 ∧ 1 ≤ t.getD s 0 ∧ 1 ≤ Q.getD s 0 ∧ Q.getD s 0 ≤ L) := Lib.hid (by rw [hov]; exact HA.out)
    replace HO : RowKit.Hid (∀ (i : Nat), i + 1 < q.length → ∀ (p s : Nat), q.getD i 0 = p → q.getD (i + 1) 0 = s → (t.getD p 0 < t.getD s 0 ∨ t.getD p 0 = t.getD s 0 ∧ p < s) ∧ Q.getD s 0 ≤ Q.getD p 0) := Lib.hid (by rw [hov]; exact HO.out)
    rw [← HN.out] at HA HO hcnt hs2 hs1
    have HC := Lib.hid hcnt
    have H2 := Lib.hid hs2
    have H1 := Lib.hid hs1
    clear hcnt hs2 hs1 hov HAT HORD HCNT HS2 HS1 HOV HE2 HOL
    subst hE
    go_wp2_with fail
    have HSRC := Lib.hid hs
    have HG := Lib.hid hg
    have HL1 := Lib.hid hl1
    clear hs hg hl1
    go_loopw [8] (fun s8 wr => ∃ i : Nat, i ≤ n ∧ s8 = .int .i64 i ∧ wr.heap[w.heap.size]? = some (.cells (tl t) 23 (0, 0)) ∧ wr.heap[x1.heap.size]? = some (.cells (lg Q) 25 (0, 0)) ∧ Src wr .i64 a q ∧ Below w.heap.size w wr) (fun s8 _ => n - (intOf s8).toNat)
    case atStart => exact ⟨0, by omega, rfl, HG.out, HL1.out, HSRC.out, HBL.out⟩
    case round =>
      clear HG HL1 HSRC HBL
      obtain ⟨i, hi, rfl, hg, hl1, hs, hb⟩ := hrel
      have HS := Lib.hid hs
      have HB := Lib.hid hb
      clear hs hb
      by_cases hlt : i < n
      · obtain ⟨s, hqs, hs8, ht1, hq1, hqL⟩ := HA.out i hlt
        obtain ⟨ag, ao, rfl, hcs⟩ := HS.out.get (j := i) (by rw [← HN.out]; exact hlt)
        rw [hqs] at hcs
        have hts := tl_cell hg ht s hs8
        have hls := lg_cell hl1 hlT s hs8
        have hsI : (s : Int) < 258 := by omega
        have hlTs := hlT.bd s
        by_cases hi0 : 0 < i
        · obtain ⟨i1, rfl⟩ : ∃ i1, i = i1 + 1 := ⟨i - 1, by omega⟩
          obtain ⟨p, hqp, hp8, _, _, _⟩ := HA.out i1 (by omega)
          obtain ⟨ag', ao', e, hcp⟩ := HS.out.get (j := i1) (by rw [← HN.out]; omega)
          injection e with e
          injection e with e1 e2 _
          subst e1 e2
          rw [hqp] at hcp
          obtain ⟨ho1, ho2⟩ := HO.out i1 hlt p s hqp hqs
          have htp := tl_cell hg ht p hp8
          have hlp := lg_cell hl1 hlT p hp8
          have hpI : (p : Int) < 258 := by omega
          have hlTp := hlT.bd p
          generalize t.getD p 0 = TP at htp ho1
          generalize Q.getD p 0 = QP at hlp ho2 hlTp
          generalize t.getD s 0 = TS at hts ht1 ho1
          generalize Q.getD s 0 = QS at hls hq1 hqL hlTs ho2
          clear hqs hqp
          have hI1 : IntKind.i64.wrap (((i1 + 1 : Nat) : Int) - 1) = (i1 : Int) := by rw [IntKind.wrap_i64]; omega
          have hI2 : (((i1 + 1 : Nat) : Int) - 1).toNat = i1 := by omega
          have hI3 : ((i1 + 1 : Nat) : Int) = (i1 : Int) + 1 := by omega
          rcases ho1 with ho1 | ⟨ho1, ho3⟩
          · have d1 : decide (TS < TP) = false := decide_eq_false (by omega)
            have d2 : (TP == TS) = false := by simpa using (by omega : ¬ TP = TS)
            have d3 : decide (QP < QS) = false := decide_eq_false (by omega)
            go_upto_region 13 with fail
            go_quiet (fail)
            go_wp2_with fail
            exact ⟨⟨i1 + 1 + 1, by omega, by go_num, hg, hl1, HS.out, HB.out.drewN _⟩, by simp [intOf]; omega⟩
          · subst ho1
            have d1 : decide (TP < TP) = false := decide_eq_false (by omega)
            have d2 : (TP == TP) = true := by simp
            have d4 : decide ((s : Int) ≤ (p : Int)) = false := decide_eq_false (by omega)
            have d5 : decide (s ≤ p) = false := decide_eq_false (by omega)
            have d3 : decide (QP < QS) = false := decide_eq_false (by omega)
            go_upto_region 13 with fail
            go_quiet (fail)
            go_wp2_with fail
            exact ⟨⟨i1 + 1 + 1, by omega, by go_num, hg, hl1, HS.out, HB.out.drewN _⟩, by simp [intOf]; omega⟩
        · obtain rfl : i = 0 := by omega
          generalize t.getD s 0 = TS at hts ht1
          generalize Q.getD s 0 = QS at hls hq1 hqL hlTs
          clear hqs
          rw [show ao + 0 = ao from rfl] at hcs
          go_wp2_with fail
          exact ⟨⟨1, by omega, by go_num, hg, hl1, HS.out, HB.out⟩, by simp [intOf]; omega⟩
      · obtain rfl : i = n := by omega
        clear HA HO
        go_wp2_with fail
        go_loopw [11, 12] (fun s11 s12 wx => ∃ k : Nat, k ≤ 258 ∧ s12 = .int .i64 k ∧ s11 = .int .i64 (cntQ Q k) ∧ wx = wr) (fun _ s12 _ => 258 - (intOf s12).toNat)
        case atStart => exact ⟨0, by omega, rfl, rfl, rfl⟩
        case round =>
          obtain ⟨k, hk, rfl, rfl, rfl⟩ := hrel
          by_cases hlt2 : k < 258
          · have hcl := lg_cell hl1 hlT k hlt2
            have hbd := cntQ_bd Q k
            have HST := Lib.hid (cntQ_succ Q k)
            have hlk := hlT.bd k
            generalize Q.getD k 0 = V at hcl HST hlk
            generalize cntQ Q k = C at hbd HST ⊢
            by_cases hV : 0 < V
            · go_wp2_with fail
              exact ⟨⟨k + 1, by omega, by go_num, by rw [HST.out, if_pos hV], by trivial⟩, by simp [intOf]; omega⟩
            · go_wp2_with fail
              exact ⟨⟨k + 1, by omega, by go_num, by rw [HST.out, if_neg hV, Int.add_zero], by trivial⟩, by simp [intOf]; omega⟩
          · obtain rfl : k = 258 := by omega
            rw [HC.out]
            have hsc := HSC.out
            have h2 := H2.out
            have h1 := H1.out
            generalize krS Q 258 = K at hsc h2 h1
            have hK : 2 ≤ i → K = 32768 := h2
            clear h2
            by_cases g2 : 2 ≤ i
            · have hk2 := hK g2
              subst hk2
              have d1 : ¬ ((i : Int) < 2) := by omega
              have d2 : ((i : Int) == 1) = false := by simp; omega
              have d3 : ((i : Int) != 1) = true := by simp; omega
              clear hK h1
              go_wp2_with (first
                | (refine wpList_load_row rfl 25 _ rfl x1.heap.size rfl 25 (lg Q) (0, 0) _ hl1 Try.underlying25 rfl (lngIk hlT) ?_)
                | (with_reducible refine (hsc _).mono ?_; rintro e x5 ⟨rfl, hb5⟩
                   have HB5 := Lib.hid (HB.out.trans (hb5.mono HB.out.size)))
                | (with_reducible refine (hwk _).mono ?_; rintro e x6 ⟨rfl, hb6⟩))
              go_ret
              exact ⟨rfl, HB5.out.trans (hb6.mono HB5.out.size)⟩
            · by_cases g1 : i = 1
              · have hk1 := h1 g1
                subst hk1
                subst g1
                clear hK h1
                go_wp2_with (first
                  | (refine wpList_load_row rfl 25 _ rfl x1.heap.size rfl 25 (lg Q) (0, 0) _ hl1 Try.underlying25 rfl (lngIk hlT) ?_)
                  | (with_reducible refine (hsc _).mono ?_; rintro e x5 ⟨rfl, hb5⟩
                     have HB5 := Lib.hid (HB.out.trans (hb5.mono HB.out.size)))
                  | (with_reducible refine (hwk _).mono ?_; rintro e x6 ⟨rfl, hb6⟩))
                go_ret
                exact ⟨rfl, HB5.out.trans (hb6.mono HB5.out.size)⟩
              · obtain rfl : i = 0 := by omega
                clear hK h1
                go_wp2_with (first
                  | (refine wpList_load_row rfl 25 _ rfl x1.heap.size rfl 25 (lg Q) (0, 0) _ hl1 Try.underlying25 rfl (lngIk hlT) ?_)
                  | (with_reducible refine (hsc _).mono ?_; rintro e x5 ⟨rfl, hb5⟩
                     have HB5 := Lib.hid (HB.out.trans (hb5.mono HB.out.size)))
                  | (with_reducible refine (hwk _).mono ?_; rintro e x6 ⟨rfl, hb6⟩))
                go_ret
                exact ⟨rfl, HB5.out.trans (hb6.mono HB5.out.size)⟩
  · obtain ⟨e1, e2⟩ := HE2.out hE
    have heq := fun w => run_eqi_lng w hlT zL_lng
    rw [decide_eq_true e2] at heq
    subst e1
    clear e2
    go_wp2_with (first
      | (refine wpList_load_row_g 2 true rfl 26 rfl _ rfl rfl 25 _ rfl x1.heap.size rfl 25 (lg Q) (0, 0) _ hl1 Try.underlying25 rfl (lngIk hlT) ?_)
      | (with_reducible refine (hwk _).mono ?_; rintro e x6 ⟨rfl, hb6⟩))
    go_ret
    exact ⟨rfl, HBL.out.trans (hb6.mono HBL.out.size)⟩
end Go.Proofs.Ytemjlmeakkknbaa
