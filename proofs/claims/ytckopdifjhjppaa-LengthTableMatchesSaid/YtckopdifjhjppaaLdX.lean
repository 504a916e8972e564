/- Package lengthtable: stored, next. -/
import Derived.Test.YtckopdifjhjppaaLdN
set_option linter.unusedVariables false
set_option linter.unusedSimpArgs false
namespace Go.Proofs.Ytckopdifjhjppaa
open Go.RowKit

theorem wpList_load_mid_g {P : Program} {ops : Array Oper} {rest : List Oper} {o : Oper} {a : Act} {w : World} {Q : Exit → Act → World → Prop} (j : Nat) (want : Bool) (hgd : o.guard = some (j, want)) (s : Nat) (hs : (ops[j]?).bind (·.dst) = some s) (v : Bool) (hv : a.tmps[s]? = some (.bool v)) (hvw : v = want)
    (ty : TypeId) (x : Operand) (ho : o.op = .load ty x)
    (b off : Nat) (hx : a.eval x = .pointer (some ⟨b, off, none⟩)) (cs : List Value) (d : TypeDesc) (hc : w.rangeAt b off cs)
    (hu : P.underlying ty = some d) (hd : d.isRow = true) (hi : (P.info? ty).map (·.size) = some cs.length)
    (h : wpList P ops Q rest (a.put o.dst (.agg cs.toArray)) w) : wpList P ops Q (o :: rest) a w := by
  subst hvw
  refine BigFrame.wpList_want ?_ (fun K hK => wp_load_mid ty x ho b off hx cs d hc hu hd hi (hK _ _ h))
  unfold Region.wanted
  rw [hgd]
  simp [yielded, hs, hv]
theorem store_step {c : TS} (ht : c.t = 4) : wayS c 0 = { c with L := c.L.set c.y.toNat c.n, y := c.y + 1, a := 0 } ∧ wayB tableV c 0 = (decide (c.y + 1 < 258) || tableV (c.L.set c.y.toNat c.n)) := by
  constructor
  · unfold wayS
    rw [if_pos ht, if_neg (by decide)]
  · unfold wayB
    rw [if_pos ht, if_neg (by decide)]
theorem low_step {c : TS} (ht : 0 ≤ c.t ∧ c.t ≤ 3) (b : Int) : wayS c b = { c with n := 2 * c.n + b, t := c.t + 1 } ∧ wayB tableV c b = true := by
  constructor
  · unfold wayS
    rw [if_neg (by omega), if_pos ht]
  · unfold wayB
    rw [if_neg (by omega), if_pos ht]
theorem one_step {c : TS} (ht : c.t = 4) : wayS c 1 = { c with t := 5 } ∧ wayB tableV c 1 = true := by
  constructor
  · unfold wayS
    rw [if_pos ht, if_pos rfl]
  · unfold wayB
    rw [if_pos ht, if_pos rfl]

set_option maxRecDepth 100000 in
set_option maxHeartbeats 2000000 in
theorem stored_call (c : TS) (f : Int) (k : Nat) (h : Rch tableV f k c) (ht : c.t = 4) (hy : c.y ≠ 258) (w : World) :
    Calls Try.prog 39 #[.agg (tg c)] w fun e w' => e = .returned (.tuple #[.agg (tg (nxS c 0)), .int .i64 (nxE c 0)]) ∧ Below w.heap.size w w' := by
  have hz := tstZ
  have hcL := h.len
  have hn0 := h.n0
  have hy0 := h.y0
  have hzs := tg_size z0_len
  have HS := Lib.hid (show nxS c 0 = if wayB tableV c 0 then wayS c 0 else z0 from rfl)
  have HE := Lib.hid (show nxE c 0 = if wayB tableV c 0 then 0 else 100 from rfl)
  generalize nxS c 0 = R at HS ⊢
  generalize nxE c 0 = E at HE ⊢
  have HW0 := Lib.hid (Wy.start w hcL)
  obtain ⟨HWS, HWB⟩ := store_step ht
  rw [HWS, HWB] at HS
  rw [HWB] at HE
  clear HWS HWB
  go_enter Try.func39, Try.ntmps39
  go_upto_region 1 with fail
  generalize (w.alloc (.cells (tg c) 25)).alloc (.cells (tg z0) 25) = w1 at HW0 ⊢
  obtain ⟨cy, ct, cn, ca⟩ := HW0.out.cells
  have cf := HW0.out.box.fr
  obtain ⟨y, hyn⟩ : ∃ y : Nat, c.y = y := ⟨c.y.toNat, by omega⟩
  have hy257 : y < 258 := by omega
  have hF : Wy w (TS.mk (c.L.set y c.n) ((y : Int) + 1) c.t c.n 0) (((w1.setCell ⟨w.heap.size, y, none⟩ (.int .u8 c.n)).setCell ⟨w.heap.size, 258, none⟩ (.int .i64 ((y : Int) + 1))).setCell ⟨w.heap.size, 261, none⟩ (.int .i64 0)) := ((HW0.out.l y hy257 c.n).y ((y : Int) + 1)).a 0
  rw [hyn, Int.toNat_natCast] at HS HE
  have HLG := Lib.hid (show Lng (c.L.set y c.n) from h.lngN.set y c.n (WalkArith.wf_u8 ⟨by omega, by omega⟩))
  obtain ⟨D, hD⟩ : ∃ D, D = TS.mk (c.L.set y c.n) ((y : Int) + 1) c.t c.n 0 := ⟨_, rfl⟩
  have HS3 := Lib.hid (show R = if (decide ((y : Int) + 1 < 258) || tableV D.L) then D else z0 by rw [HS.out, hD])
  have HE3 := Lib.hid (show E = if (decide ((y : Int) + 1 < 258) || tableV D.L) then 0 else 100 by rw [HE.out, hD])
  have hDL : Lng D.L := by rw [hD]; exact HLG.out
  rw [hyn] at cy
  have cL := tg_lcell HW0.out.box.1 HW0.out.box.2 y hy257
  generalize c.L.getD y 0 = z at cL
  have hyi : (y : Int) < 258 := by omega
  clear h HLG HS HE hz ht ct
  go_upto_region 4 with fail
  rw [← hD] at hF
  have hDy : D.y = (y : Int) + 1 := by rw [hD]
  clear hD cf cy cn ca cL hyn hy hy0
  generalize ((w1.setCell ⟨w.heap.size, y, none⟩ (.int .u8 c.n)).setCell ⟨w.heap.size, 258, none⟩ (.int .i64 ((y : Int) + 1))).setCell ⟨w.heap.size, 261, none⟩ (.int .i64 0) = w2 at hF ⊢
  have HIC := Lib.hid (fun W => isDone_call D hDL.1 W)
  have hbx := hF.box.1
  have HF := Lib.hid hF
  clear hF
  by_cases hlast : y + 1 < 258
  · have hdec : decide ((y : Int) + 1 < 258) = true := decide_eq_true (by omega)
    have hdn : decide (D.y = 258) = false := decide_eq_false (by omega)
    rw [hdn] at HIC
    have HSX := Lib.hid (show R = D by rw [HS3.out, hdec]; rfl)
    have HEX := Lib.hid (show E = 0 by rw [HE3.out, hdec]; rfl)
    clear HS3 HE3 hdec hdn hlast hDy
    go_upto_region 6 with (first
      | (refine wpList_load_row rfl 25 _ rfl w.heap.size rfl 25 (tg D) (0, 0) _ hbx Try.underlying25 rfl (tstIk hDL.1) ?_)
      | (with_reducible refine (HIC.out _).mono ?_
         rintro e w3 ⟨rfl, hb3⟩
         have hF := HF.out.on hb3))
    go_wp2_with (first
      | (refine wpList_load_row rfl 25 _ rfl w.heap.size rfl 25 (tg D) (0, 0) _ hF.box.1 Try.underlying25 rfl (tstIk hF.box.2) ?_)
      | (refine wpList_store_row rfl 25 _ _ rfl (w.heap.size + 1) (tg D) rfl rfl 25 (tg z0) hF.res (tstIk hF.box.2) (by rw [tg_size z0_len, tg_size hF.box.2]) (tg_all _) ?_))
    refine bodyPost_ret (v := .tuple #[.agg (tg D), .int .i64 0]) ?_ rfl ⟨by rw [HSX.out, HEX.out], hF.bel.setRow (by omega) _⟩
    exact results_cell_tmp Try.results39 _ _ (w.heap.size + 1) 25 (tg D) (0, 0) _ _ rfl rfl (setRow_heap _ _ _ _ _ _ hF.res) Try.underlying25 rfl (tstIk hF.box.2)
  · have hdec : decide ((y : Int) + 1 < 258) = false := decide_eq_false (by omega)
    have hdn : decide (D.y = 258) = true := decide_eq_true (by omega)
    rw [hdn] at HIC
    have HTC := Lib.hid (fun W => table_call D.L hDL W)
    rw [hdec, Bool.false_or] at HS3 HE3
    clear hdec hdn hlast hDy
    cases htb : tableV D.L with
    | true =>
      rw [htb] at HS3 HE3 HTC
      have HSX := Lib.hid (show R = D by rw [HS3.out]; rfl)
      have HEX := Lib.hid (show E = 0 by rw [HE3.out]; rfl)
      clear HS3 HE3 htb
      go_upto_region 6 with (first
        | (refine wpList_load_row rfl 25 _ rfl w.heap.size rfl 25 (tg D) (0, 0) _ hbx Try.underlying25 rfl (tstIk hDL.1) ?_)
        | (with_reducible refine (HIC.out _).mono ?_
           rintro e w3 ⟨rfl, hb3⟩
           have hrg := tg_range (HF.out.on hb3).box.1 hDL.1)
        | (refine wpList_load_mid_g 2 true rfl 18 rfl _ rfl rfl 23 _ rfl w.heap.size 0 rfl (lg D.L).toList _ hrg Try.underlying23 rfl (by rw [Array.length_toList]; exact lngIk hDL) ?_)
        | (with_reducible refine (HTC.out _).mono ?_
           rintro e w4 ⟨rfl, hb4⟩
           have hF := (HF.out.on hb3).on hb4))
      go_wp2_with (first
        | (refine wpList_load_row rfl 25 _ rfl w.heap.size rfl 25 (tg D) (0, 0) _ hF.box.1 Try.underlying25 rfl (tstIk hF.box.2) ?_)
        | (refine wpList_store_row rfl 25 _ _ rfl (w.heap.size + 1) (tg D) rfl rfl 25 (tg z0) hF.res (tstIk hF.box.2) (by rw [tg_size z0_len, tg_size hF.box.2]) (tg_all _) ?_))
      refine bodyPost_ret (v := .tuple #[.agg (tg D), .int .i64 0]) ?_ rfl ⟨by rw [HSX.out, HEX.out], hF.bel.setRow (by omega) _⟩
      exact results_cell_tmp Try.results39 _ _ (w.heap.size + 1) 25 (tg D) (0, 0) _ _ rfl rfl (setRow_heap _ _ _ _ _ _ hF.res) Try.underlying25 rfl (tstIk hF.box.2)
    | false =>
      rw [htb] at HS3 HE3 HTC
      have HSX := Lib.hid (show R = z0 by rw [HS3.out]; rfl)
      have HEX := Lib.hid (show E = 100 by rw [HE3.out]; rfl)
      clear HS3 HE3 htb
      go_upto_region 5 with (first
        | (refine wpList_load_row rfl 25 _ rfl w.heap.size rfl 25 (tg D) (0, 0) _ hbx Try.underlying25 rfl (tstIk hDL.1) ?_)
        | (with_reducible refine (HIC.out _).mono ?_
           rintro e w3 ⟨rfl, hb3⟩
           have hrg := tg_range (HF.out.on hb3).box.1 hDL.1)
        | (refine wpList_load_mid_g 2 true rfl 18 rfl _ rfl rfl 23 _ rfl w.heap.size 0 rfl (lg D.L).toList _ hrg Try.underlying23 rfl (by rw [Array.length_toList]; exact lngIk hDL) ?_)
        | (with_reducible refine (HTC.out _).mono ?_
           rintro e w4 ⟨rfl, hb4⟩
           have hF := (HF.out.on hb3).on hb4))
      go_wp2_with (first
        | (refine wpList_build_is rfl 25 _ rfl _ _ (fun W => build_0 W) rfl ?_)
        | (refine wpList_store_row rfl 25 _ _ rfl (w.heap.size + 1) (tg z0) rfl rfl 25 (tg z0) hF.res tstI rfl (tg_all _) ?_))
      refine bodyPost_ret (v := .tuple #[.agg (tg z0), .int .i64 100]) ?_ rfl ⟨by rw [HSX.out, HEX.out], hF.bel.setRow (by omega) _⟩
      exact results_cell_tmp Try.results39 _ _ (w.heap.size + 1) 25 (tg z0) (0, 0) _ _ rfl rfl (setRow_heap _ _ _ _ _ _ hF.res) Try.underlying25 rfl tstI

set_option maxRecDepth 100000 in
set_option maxHeartbeats 2000000 in
theorem next_call (c : TS) (f : Int) (k : Nat) (h : Rch tableV f k c) (hy : c.y ≠ 258) (b : Int) (hb : b = 0 ∨ b = 1) (w : World) :
    Calls Try.prog 26 #[.agg (tg c), .int .i64 b] w fun e w' => e = .returned (.tuple #[.agg (tg (nxS c b)), .int .i64 (nxE c b)]) ∧ Below w.heap.size w w' := by
  have hz := tstZ
  have hcL := h.len
  have hn0 := h.n0
  have ht0 := h.t0
  have hzs := tg_size z0_len
  have hRL : (nxS c b).L.length = 258 := by
    unfold nxS
    split
    · rw [wayS_len]; exact hcL
    · exact z0_len
  have HW0 := Lib.hid (Wy.start w hcL)
  by_cases h3 : c.t ≤ 3
  · obtain ⟨HWS, HWB⟩ := low_step ⟨ht0.1, h3⟩ b
    have hlt := (h.low h3).2.2.1
    have HS := Lib.hid (show nxS c b = TS.mk c.L c.y (c.t + 1) (2 * c.n + b) c.a by unfold nxS; rw [HWB, HWS]; rfl)
    have HE := Lib.hid (show nxE c b = 0 by unfold nxE; rw [HWB]; rfl)
    generalize nxS c b = R at HS hRL ⊢
    generalize nxE c b = E at HE ⊢
    have hp : (2 : Int) ^ c.t.toNat ≤ 8 := by
      have ht : c.t = 0 ∨ c.t = 1 ∨ c.t = 2 ∨ c.t = 3 := by omega
      rcases ht with e | e | e | e <;> rw [e] <;> decide
    have hn8 : c.n < 8 := by omega
    have hor : bits .or .i64 (c.n * 2) b = 2 * c.n + b := by
      have hc : c.n = 0 ∨ c.n = 1 ∨ c.n = 2 ∨ c.n = 3 ∨ c.n = 4 ∨ c.n = 5 ∨ c.n = 6 ∨ c.n = 7 := by omega
      rcases hb with rfl | rfl <;> rcases hc with e | e | e | e | e | e | e | e <;> rw [e] <;> rfl
    have hw1 : IntKind.i64.wrap (c.n * 2) = c.n * 2 := by rw [IntKind.wrap_i64]; omega
    have hw2 : IntKind.i64.wrap (c.t + 1) = c.t + 1 := by rw [IntKind.wrap_i64]; omega
    have d4 : decide (c.t < 4) = true := decide_eq_true (by omega)
    clear HWS HWB hlt hp h
    go_enter Try.func26, Try.ntmps26
    go_upto_region 2 with fail
    generalize (w.alloc (.cells (tg c) 25)).alloc (.cells (tg z0) 25) = w1 at HW0 ⊢
    obtain ⟨cy, ct, cn, ca⟩ := HW0.out.cells
    have cf := HW0.out.box.fr
    have hF : Wy w (TS.mk c.L c.y (c.t + 1) (2 * c.n + b) c.a) ((w1.setCell ⟨w.heap.size, 260, none⟩ (.int .i64 (2 * c.n + b))).setCell ⟨w.heap.size, 259, none⟩ (.int .i64 (c.t + 1))) := (HW0.out.n (2 * c.n + b)).t (c.t + 1)
    go_upto_region 9 with fail
    rw [← HS.out] at hF
    generalize (w1.setCell ⟨w.heap.size, 260, none⟩ (.int .i64 (2 * c.n + b))).setCell ⟨w.heap.size, 259, none⟩ (.int .i64 (c.t + 1)) = w2 at hF ⊢
    go_wp2_with (first
      | (refine wpList_load_row rfl 25 _ rfl w.heap.size rfl 25 (tg R) (0, 0) _ hF.box.1 Try.underlying25 rfl (tstIk hF.box.2) ?_)
      | (refine wpList_store_row rfl 25 _ _ rfl (w.heap.size + 1) (tg R) rfl rfl 25 (tg z0) hF.res (tstIk hF.box.2) (by rw [tg_size z0_len, tg_size hF.box.2]) (tg_all _) ?_))
    refine bodyPost_ret (v := .tuple #[.agg (tg R), .int .i64 0]) ?_ rfl ⟨by rw [HE.out], hF.bel.setRow (by omega) _⟩
    exact results_cell_tmp Try.results26 _ _ (w.heap.size + 1) 25 (tg R) (0, 0) _ _ rfl rfl (setRow_heap _ _ _ _ _ _ hF.res) Try.underlying25 rfl (tstIk hF.box.2)
  · have d4 : decide (c.t < 4) = false := decide_eq_false (by omega)
    by_cases h5 : c.t = 5
    · have HAC := Lib.hid (fun W => adjusted_call c f k h h5 b hb W)
      have e5 : (c.t == 5) = true := beq_iff_eq.2 h5
      generalize nxS c b = R at HAC hRL ⊢
      generalize nxE c b = E at HAC ⊢
      clear h5 h
      go_enter Try.func26, Try.ntmps26
      go_upto_region 2 with fail
      generalize (w.alloc (.cells (tg c) 25)).alloc (.cells (tg z0) 25) = w1 at HW0 ⊢
      obtain ⟨cy, ct, cn, ca⟩ := HW0.out.cells
      have hbx := HW0.out.box.1
      go_wp2_with (first
        | (refine wpList_load_row rfl 25 _ rfl w.heap.size rfl 25 (tg c) (0, 0) _ hbx Try.underlying25 rfl (tstIk hcL) ?_)
        | (with_reducible refine (HAC.out _).mono ?_
           rintro e w3 ⟨rfl, hb3⟩
           have hF := HW0.out.on hb3)
        | (refine wpList_store_row rfl 25 _ _ rfl (w.heap.size + 1) (tg R) rfl rfl 25 (tg z0) hF.res (tstIk hRL) (by rw [tg_size z0_len, tg_size hRL]) (tg_all _) ?_))
      refine bodyPost_ret (v := .tuple #[.agg (tg R), .int .i64 E]) ?_ rfl ⟨rfl, hF.bel.setRow (by omega) _⟩
      exact results_cell_tmp Try.results26 _ _ (w.heap.size + 1) 25 (tg R) (0, 0) _ _ rfl rfl (setRow_heap _ _ _ _ _ _ hF.res) Try.underlying25 rfl (tstIk hRL)
    · have h4 : c.t = 4 := by omega
      have e5 : (c.t == 5) = false := beq_eq_false_iff_ne.2 h5
      rcases hb with rfl | rfl
      · have HAC := Lib.hid (fun W => stored_call c f k h h4 hy W)
        generalize nxS c 0 = R at HAC hRL ⊢
        generalize nxE c 0 = E at HAC ⊢
        clear h4 h
        go_enter Try.func26, Try.ntmps26
        go_upto_region 2 with fail
        generalize (w.alloc (.cells (tg c) 25)).alloc (.cells (tg z0) 25) = w1 at HW0 ⊢
        obtain ⟨cy, ct, cn, ca⟩ := HW0.out.cells
        have hbx := HW0.out.box.1
        go_wp2_with (first
          | (refine wpList_load_row rfl 25 _ rfl w.heap.size rfl 25 (tg c) (0, 0) _ hbx Try.underlying25 rfl (tstIk hcL) ?_)
          | (with_reducible refine (HAC.out _).mono ?_
             rintro e w3 ⟨rfl, hb3⟩
             have hF := HW0.out.on hb3)
          | (refine wpList_store_row rfl 25 _ _ rfl (w.heap.size + 1) (tg R) rfl rfl 25 (tg z0) hF.res (tstIk hRL) (by rw [tg_size z0_len, tg_size hRL]) (tg_all _) ?_))
        refine bodyPost_ret (v := .tuple #[.agg (tg R), .int .i64 E]) ?_ rfl ⟨rfl, hF.bel.setRow (by omega) _⟩
        exact results_cell_tmp Try.results26 _ _ (w.heap.size + 1) 25 (tg R) (0, 0) _ _ rfl rfl (setRow_heap _ _ _ _ _ _ hF.res) Try.underlying25 rfl (tstIk hRL)
      · obtain ⟨HWS, HWB⟩ := one_step h4
        have HS := Lib.hid (show nxS c 1 = TS.mk c.L c.y 5 c.n c.a by unfold nxS; rw [HWB, HWS]; rfl)
        have HE := Lib.hid (show nxE c 1 = 0 by unfold nxE; rw [HWB]; rfl)
        generalize nxS c 1 = R at HS hRL ⊢
        generalize nxE c 1 = E at HE ⊢
        clear HWS HWB h4 h
        go_enter Try.func26, Try.ntmps26
        go_upto_region 2 with fail
        generalize (w.alloc (.cells (tg c) 25)).alloc (.cells (tg z0) 25) = w1 at HW0 ⊢
        obtain ⟨cy, ct, cn, ca⟩ := HW0.out.cells
        have cf := HW0.out.box.fr
        have hF : Wy w (TS.mk c.L c.y 5 c.n c.a) (w1.setCell ⟨w.heap.size, 259, none⟩ (.int .i64 5)) := HW0.out.t 5
        go_upto_region 9 with fail
        rw [← HS.out] at hF
        generalize w1.setCell ⟨w.heap.size, 259, none⟩ (.int .i64 5) = w2 at hF ⊢
        go_wp2_with (first
          | (refine wpList_load_row rfl 25 _ rfl w.heap.size rfl 25 (tg R) (0, 0) _ hF.box.1 Try.underlying25 rfl (tstIk hF.box.2) ?_)
          | (refine wpList_store_row rfl 25 _ _ rfl (w.heap.size + 1) (tg R) rfl rfl 25 (tg z0) hF.res (tstIk hF.box.2) (by rw [tg_size z0_len, tg_size hF.box.2]) (tg_all _) ?_))
        refine bodyPost_ret (v := .tuple #[.agg (tg R), .int .i64 0]) ?_ rfl ⟨by rw [HE.out], hF.bel.setRow (by omega) _⟩
        exact results_cell_tmp Try.results26 _ _ (w.heap.size + 1) 25 (tg R) (0, 0) _ _ rfl rfl (setRow_heap _ _ _ _ _ _ hF.res) Try.underlying25 rfl (tstIk hF.box.2)
end Go.Proofs.Ytckopdifjhjppaa
