/- The developers' Quick. -/
import Derived.Test.YtbegpakjojiblabPgD
import Derived.Test.YtbegpakjojiblabCnC
set_option linter.unusedVariables false
set_option linter.unusedSimpArgs false
namespace Go.Proofs.Ytbegpakjojiblab
open Go.RowKit

/-- While the table is filled. -/
structure Qk (w : World) (g5 : Nat) (f : Nat → Int × Int) (cd : List Int) (wr : World) : Prop where
  res : wr.heap[w.heap.size + 1]? = some (.cells (qg zQ) 29 (0, 0))
  tab : wr.heap[w.heap.size + 2]? = some (.cells (qg f) 29 (0, 0))
  cod : wr.heap[g5]? = some (.cells (cl cd) 50 (0, 0))
  l5 : w.heap.size + 2 < g5
  bel : Below w.heap.size w wr
theorem Qk.set {w wr : World} {g5 : Nat} {f : Nat → Int × Int} {cd : List Int} (h : Qk w g5 f cd wr) (i : Nat) (hi : i < 512) (a b : Int) : Qk w g5 (upQ f i a b) cd ((wr.setCell ⟨w.heap.size + 2, 2 * i, none⟩ (.int .i64 a)).setCell ⟨w.heap.size + 2, 2 * i + 1, none⟩ (.int .i64 b)) := by
  have h5 := h.l5
  refine ⟨?_, ?_, ?_, h5, (h.bel.setCell (by simp) _).setCell (by simp) _⟩
  · rw [heap_setCell_other _ _ _ _ (by simp), heap_setCell_other _ _ _ _ (by simp)]
    exact h.res
  · have h1 := heap_setCell_same wr _ (2 * i) _ _ (.int .i64 a) h.tab
    rw [heap_setCell_same _ _ _ _ _ _ h1, qg_up f i hi]
  · rw [heap_setCell_other _ _ _ _ (by simp only; omega), heap_setCell_other _ _ _ _ (by simp only; omega)]
    exact h.cod

set_option maxRecDepth 100000 in
set_option maxHeartbeats 4000000 in
theorem quickd_call : QckC := by
  intro l h w
  have htc := fun W => table_call l h W
  have hz := qgZ
  have hzc := cdsZ
  have hqs := qg_size zQ
  have HT := Lib.hid (show (tableV l = true → (if tableV l then quF l else zQ) = quF l ∧ (if tableV l then (0 : Int) else 2) = 0) ∧ (tableV l = false → (if tableV l then quF l else zQ) = zQ ∧ (if tableV l then (0 : Int) else 2) = 2) from ⟨fun e => by rw [e]; exact ⟨rfl, rfl⟩, fun e => by rw [e]; exact ⟨rfl, rfl⟩⟩)
  generalize (if tableV l then quF l else zQ) = L1 at HT ⊢
  generalize (if tableV l then (0 : Int) else 2) = E1 at HT ⊢
  go_enter Try.func6, Try.ntmps6
  go_upto_region 2 with fail
  have HG := Lib.hid (heap_on (below_al ((w.alloc (.cells (lg l) 23)).alloc (.cells (qg zQ) 29)) (.cells (qg zQ) 29)) (heap_alloc2_old w (.cells (lg l) 23) (.cells (qg zQ) 29)))
  have HR := Lib.hid (heap_on (below_al ((w.alloc (.cells (lg l) 23)).alloc (.cells (qg zQ) 29)) (.cells (qg zQ) 29)) (heap_alloc2_new w (.cells (lg l) 23) (.cells (qg zQ) 29)))
  have hq := heap_alloc_last ((w.alloc (.cells (lg l) 23)).alloc (.cells (qg zQ) 29)) (.cells (qg zQ) 29)
  rw [show ((w.alloc (.cells (lg l) 23)).alloc (.cells (qg zQ) 29)).heap.size = w.heap.size + 2 by simp] at hq
  have HQ := Lib.hid hq
  have HB := Lib.hid (show Below w.heap.size w (((w.alloc (.cells (lg l) 23)).alloc (.cells (qg zQ) 29)).alloc (.cells (qg zQ) 29)) from (((Below.refl _ _).alloc (Nat.le_refl _) _).alloc (by simp) _).alloc (by simp; omega) _)
  clear hq hz
  generalize ((w.alloc (.cells (lg l) 23)).alloc (.cells (qg zQ) 29)).alloc (.cells (qg zQ) 29) = w1 at HG HR HQ HB ⊢
  have hg := HG.out
  cases hT : tableV l with
  | false =>
    rw [hT] at htc
    obtain ⟨rfl, rfl⟩ := HT.out.2 hT
    clear hT HT
    go_wp2_with (first
      | (refine wpList_load_row rfl 23 _ rfl w.heap.size rfl 23 (lg l) (0, 0) _ hg Try.underlying23 rfl (lngIk h) ?_)
      | ((with_reducible refine (htc _).mono ?_)
         rintro e w2 ⟨rfl, hb2⟩
         have hr2 := heap_on hb2 HR.out
         have hq2 := heap_on hb2 HQ.out
         have hbb := HB.out.trans (hb2.mono HB.out.size)
         have HB2 := Lib.hid hbb
         clear hb2 hbb)
      | (refine wpList_load_row rfl 29 _ rfl (w.heap.size + 2) rfl 29 (qg zQ) (0, 0) _ hq2 Try.underlying29 rfl (qgIk zQ) ?_)
      | (refine wpList_store_row rfl 29 _ _ rfl (w.heap.size + 1) (qg zQ) rfl rfl 29 (qg zQ) hr2 (qgIk zQ) rfl (qg_all _) ?_))
    refine bodyPost_ret (v := .tuple #[.agg (qg zQ), .int .i64 2]) ?_ rfl ⟨rfl, HB2.out.setRow (by omega) _⟩
    exact results_cell_tmp Try.results6 _ _ (w.heap.size + 1) 29 (qg zQ) (0, 0) _ _ rfl rfl (setRow_heap _ _ _ _ _ _ hr2) Try.underlying29 rfl (qgIk zQ)
  | true =>
    have hTL : TL l := ⟨h, hT⟩
    rw [hT] at htc
    obtain ⟨hL1, rfl⟩ := HT.out.1 hT
    have HL1 := Lib.hid hL1
    clear hT HT hL1
    have hcc := fun W => codes_call l h W
    have e1 : codR l = codT l 258 := if_pos hTL.vl.sum
    have e2 : codE l = 0 := if_pos hTL.vl.sum
    rw [e1, e2] at hcc
    have HTL := Lib.hid hTL
    have hcs := codT_cds hTL.vl 258
    have hzs := cl_size zC_cds
    have hcz := cl_size hcs
    obtain ⟨cd, hcd⟩ : ∃ cd, cd = codT l 258 := ⟨_, rfl⟩
    rw [← hcd] at hcc hcs hcz
    have HCD := Lib.hid hcd
    clear e1 e2 hTL hcd
    go_upto_region 4 with (first
      | (refine wpList_load_row rfl 23 _ rfl w.heap.size rfl 23 (lg l) (0, 0) _ hg Try.underlying23 rfl (lngIk h) ?_)
      | ((with_reducible refine (htc _).mono ?_)
         rintro e w2 ⟨rfl, hb2⟩
         have HG2 := Lib.hid (heap_on hb2 HG.out)
         have HR2 := Lib.hid (heap_on hb2 HR.out)
         have HQ2 := Lib.hid (heap_on hb2 HQ.out)
         have HB2 := Lib.hid (HB.out.trans (hb2.mono HB.out.size))
         clear hb2))
    clear hg HG HR HQ HB htc
    have hg2 := HG2.out
    go_upto_region 5 with (first
      | (refine wpList_load_row rfl 23 _ rfl w.heap.size rfl 23 (lg l) (0, 0) _ hg2 Try.underlying23 rfl (lngIk h) ?_)
      | ((with_reducible refine (hcc _).mono ?_)
         rintro e w3 ⟨rfl, hb3⟩)
      | (refine wpList_store_row rfl 50 _ _ rfl w3.heap.size (cl cd) rfl rfl 50 (cl zC) (heap_alloc_last w3 _) (cdsIk hcs) (by rw [hzs, hcz]) (cl_all _) ?_))
    rw [World.setRow_alloc_new]
    try simp only [Act.put]
    have hby := hb3.alloc (o := .cells (cl cd) 50) hb3.size
    have HQK := Lib.hid (show Qk w w3.heap.size zQ cd (w3.alloc (.cells (cl cd) 50)) from
      ⟨heap_on hby HR2.out, heap_on hby HQ2.out, heap_alloc_last w3 _, Nat.lt_of_lt_of_le (Array.getElem?_eq_some_iff.1 HQ2.out).1 hb3.size, HB2.out.trans (hby.mono HB2.out.size)⟩)
    have HG3 := Lib.hid (heap_on hby HG2.out)
    obtain ⟨g5, hg5⟩ : ∃ g5, g5 = w3.heap.size := ⟨_, rfl⟩
    rw [← hg5] at HQK ⊢
    clear hg5 hb3 hby HG2 HR2 HQ2 HB2 hg2 hcc hzc hzs hcz
    generalize w3.alloc (.cells (cl cd) 50) = w4 at HQK HG3 ⊢
    have hg3 := HG3.out
    go_wp2_with (refine wpList_load_row rfl 23 _ rfl w.heap.size rfl 23 (lg l) (0, 0) _ hg3 Try.underlying23 rfl (lngIk h) ?_)
    go_loopw [22] (fun i wr => ∃ k : Nat, k ≤ 258 ∧ i = .int .i64 k ∧ Qk w g5 (quK l k) cd wr) (fun i _ => 258 - (intOf i).toNat)
    case atStart => exact ⟨0, by omega, rfl, HQK.out⟩
    case round =>
      obtain ⟨k, hk, rfl, hm⟩ := hrel
      have HM := Lib.hid hm
      by_cases hlt : k < 258
      · have hix := fun w => run_index_lng w h k hlt
        have hbd := h.bd k
        have hsm := HTL.out.vl.small k
        have HNO := Lib.hid (quK_no l k)
        have HALL := Lib.hid (fun (m c : Nat) hm h0 h9 hc => quI_all HTL.out.vl (k := k) (m := m) (c := c) hlt hm h0 h9 hc)
        have HLT := Lib.hid (fun (m : Nat) hm h0 h9 => cd_lt HTL.out.vl (k := k) (m := m) hlt hm h0 h9)
        have HCK := Lib.hid (fun (h0 : 0 < l.getD k 0) => show cd.getD k 0 = cdL l k by rw [HCD.out, codT, row258_get _ k hlt, if_pos ⟨hlt, h0⟩])
        have HZI := Lib.hid (fun F => quI_zero l k F)
        have HST := Lib.hid (fun F j => quI_step l k F j)
        have c5 := cl_cell hm.cod hcs k hlt
        obtain ⟨V, hV⟩ : ∃ V, V = l.getD k 0 := ⟨_, rfl⟩
        rw [← hV] at hix hbd hsm HNO HALL HLT HCK HST
        have HV := Lib.hid hV
        clear hV hm
        obtain ⟨m, rfl⟩ : ∃ m : Nat, V = m := ⟨V.toNat, by omega⟩
        by_cases hgo : 0 < m ∧ m ≤ 9
        · obtain ⟨c, hc, hc1, hc2⟩ := HLT.out m rfl hgo.1 hgo.2
          have hck := HCK.out (by omega)
          rw [hck, hc] at c5
          have HEND := Lib.hid (HALL.out m c rfl hgo.1 hgo.2 hc)
          have HZ := Lib.hid (HZI.out (c * 2 ^ (9 - m)))
          have HS := Lib.hid (HST.out (c * 2 ^ (9 - m)))
          obtain ⟨hm0, hm9⟩ := hgo
          have hdm : decide (m = 0) = false := decide_eq_false (by omega)
          have hdm2 : decide (9 < m) = false := decide_eq_false (by omega)
          have hdi : decide ((9 : Int) < (m : Int)) = false := decide_eq_false (by omega)
          have hw9 : IntKind.i64.wrap (9 - (m : Int)) = ((9 - m : Nat) : Int) := by rw [IntKind.wrap_i64]; omega
          clear HNO HALL HLT HCK HZI HST hck hc
          obtain ⟨F, hF⟩ : ∃ F, F = c * 2 ^ (9 - m) := ⟨_, rfl⟩
          obtain ⟨PW, hPW⟩ : ∃ PW, PW = 2 ^ (9 - m) := ⟨_, rfl⟩
          obtain ⟨O, hO⟩ : ∃ O, O = 9 - m := ⟨_, rfl⟩
          have hs1 : IntKind.i64.wrap ((c : Int) * 2 ^ O) = (F : Int) := by
            have e : (c : Int) * 2 ^ O = ((c * 2 ^ O : Nat) : Int) := by simp
            rw [hO, ← hO, e, hO, ← hF, IntKind.wrap_i64]
            omega
          have hs2 : IntKind.i64.wrap ((2 : Int) ^ O) = (PW : Int) := by
            have e : (2 : Int) ^ O = ((2 ^ O : Nat) : Int) := by simp
            rw [e, hO, ← hPW, IntKind.wrap_i64]
            omega
          rw [← hF, ← hPW] at HEND hc1
          rw [← hF] at HZ HS
          rw [← hO] at hw9
          have hO9 : O ≤ 9 := by omega
          clear hF hPW hO
          go_upto_region 12 with fail
          obtain ⟨wo, hwo⟩ : ∃ wo, wo = wr := ⟨_, rfl⟩
          subst hwo
          clear c5 hs1 hs2
          go_loopw [43] (fun v wx => ∃ j : Nat, j ≤ PW ∧ v = .int .i64 j ∧ Qk w g5 (quI l k F j) cd wx) (fun v _ => 512 - (intOf v).toNat)
          case atStart => exact ⟨0, by omega, rfl, by rw [HZ.out]; exact HM.out⟩
          case round =>
            obtain ⟨j, hj, rfl, hq⟩ := hrel
            have HQ := Lib.hid hq
            by_cases hjl : j < PW
            · have hl : F + j < 512 := by omega
              have HQN := Lib.hid (hq.set (F + j) hl (k : Int) (m : Int))
              rw [HS.out j, Nat.mul_comm 2 (F + j)] at HQN
              have ht2 : wr.heap[w.heap.size + 2]? = _ := hq.tab
              have q0 := (qg_cells ht2 (F + j) hl).1
              have q1 := (qg_cells ht2 (F + j) hl).2
              have f0 := frozen_of_row wr (w.heap.size + 2) ((F + j) * 2) _ _ ht2
              have h1 := heap_setCell_same wr _ ((F + j) * 2) _ _ (.int .i64 (k : Int)) ht2
              have f1 := frozen_of_row _ (w.heap.size + 2) ((F + j) * 2 + 1) _ _ h1
              have q2 : (wr.setCell ⟨w.heap.size + 2, (F + j) * 2, none⟩ (.int .i64 (k : Int))).cell? ⟨w.heap.size + 2, (F + j) * 2 + 1, none⟩ = some (.int .i64 (quI l k F j (F + j)).2) := by
                rw [Nat.mul_comm 2 (F + j)] at q1
                rw [cell_of_row _ _ _ _ _ _ h1, Array.getElem?_setIfInBounds, if_neg (by omega), ← cell_of_row _ _ _ _ _ _ ht2]
                exact q1
              rw [Nat.mul_comm 2 (F + j)] at q0
              generalize (quI l k F j (F + j)).1 = A0 at q0
              generalize (quI l k F j (F + j)).2 = A1 at q2
              clear hq q1 h1 ht2
              replace q0 : wr.cell? ⟨w.heap.size + 1 + 1, (F + j) * 2, none⟩ = _ := q0
              replace f0 : wr.frozen? ⟨w.heap.size + 1 + 1, (F + j) * 2, none⟩ = _ := f0
              replace f1 : (wr.setCell ⟨w.heap.size + 1 + 1, (F + j) * 2, none⟩ (.int .i64 (k : Int))).frozen? ⟨w.heap.size + 1 + 1, (F + j) * 2 + 1, none⟩ = _ := f1
              replace q2 : (wr.setCell ⟨w.heap.size + 1 + 1, (F + j) * 2, none⟩ (.int .i64 (k : Int))).cell? ⟨w.heap.size + 1 + 1, (F + j) * 2 + 1, none⟩ = _ := q2
              go_wp2_with fail
              exact ⟨⟨j + 1, by omega, by go_num, HQN.out⟩, by simp [intOf]; omega⟩
            · obtain rfl : j = PW := by omega
              clear hq
              go_wp2_with fail
              exact ⟨⟨k + 1, by omega, by go_num, HEND.out ▸ HQ.out⟩, by simp [intOf]; omega⟩
        · have HE := Lib.hid (HNO.out (by omega))
          clear HNO HALL HLT HCK HZI HST c5
          by_cases hm0 : m = 0
          · subst hm0
            go_wp2_with fail
            exact ⟨⟨k + 1, by omega, by go_num, HE.out ▸ HM.out⟩, by simp [intOf]; omega⟩
          · have hdm : decide (m = 0) = false := decide_eq_false (by omega)
            have hdm2 : decide (9 < m) = true := decide_eq_true (by omega)
            have hdi : decide ((9 : Int) < (m : Int)) = true := decide_eq_true (by omega)
            go_wp2_with fail
            exact ⟨⟨k + 1, by omega, by go_num, HE.out ▸ HM.out⟩, by simp [intOf]; omega⟩
      · obtain rfl : k = 258 := by omega
        have hg4 := hm.tab
        rw [quK_all] at hg4
        clear hm
        obtain ⟨f, hf⟩ : ∃ f, f = quF l := ⟨_, rfl⟩
        rw [← hf] at hg4
        have HF := Lib.hid hf
        have hfs := qg_size f
        clear hf
        go_wp2_with (first
          | (refine wpList_load_row rfl 29 _ rfl (w.heap.size + 2) rfl 29 (qg f) (0, 0) _ hg4 Try.underlying29 rfl (qgIk f) ?_)
          | (refine wpList_store_row rfl 29 _ _ rfl (w.heap.size + 1) (qg f) rfl rfl 29 (qg zQ) HM.out.res (qgIk f) (by rw [hqs, hfs]) (qg_all _) ?_))
        refine bodyPost_ret (v := .tuple #[.agg (qg f), .int .i64 0]) ?_ rfl ⟨by rw [HF.out, HL1.out], HM.out.bel.setRow (by omega) _⟩
        exact results_cell_tmp Try.results6 _ _ (w.heap.size + 1) 29 (qg f) (0, 0) _ _ rfl rfl (setRow_heap _ _ _ _ _ _ HM.out.res) Try.underlying29 rfl (qgIk f)
end Go.Proofs.Ytbegpakjojiblab
