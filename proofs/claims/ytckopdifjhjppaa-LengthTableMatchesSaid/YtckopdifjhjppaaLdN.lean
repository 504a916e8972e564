/- Package lengthtable: adjusted, stored, next. -/
import Derived.Test.YtckopdifjhjppaaLdA
import Derived.Test.YtckopdifjhjppaaLtR
set_option linter.unusedVariables false
set_option linter.unusedSimpArgs false
namespace Go.Proofs.Ytckopdifjhjppaa
open Go.RowKit

/-- What a step leaves: the state, or the zero state with ErrTable. -/
def nxS (c : TS) (b : Int) : TS := if wayB tableV c b then wayS c b else z0
def nxE (c : TS) (b : Int) : Int := if wayB tableV c b then 0 else 100
theorem adj_up {c : TS} (ht : c.t = 5) : wayS c 0 = (if c.a = 2 ∨ c.n = 15 then { c with t := 4 } else { c with t := 4, n := c.n + 1, a := 1 }) ∧ wayB tableV c 0 = !decide (c.a = 2 ∨ c.n = 15) := by
  have h4 : ¬ c.t = 4 := by omega
  have h3 : ¬ (0 ≤ c.t ∧ c.t ≤ 3) := by omega
  constructor
  · unfold wayS
    rw [if_neg h4, if_neg h3, if_pos rfl]
  · unfold wayB
    rw [if_neg h4, if_neg h3, if_pos rfl]
theorem adj_down {c : TS} (ht : c.t = 5) : wayS c 1 = (if c.a = 1 ∨ c.n = 0 then { c with t := 4 } else { c with t := 4, n := c.n - 1, a := 2 }) ∧ wayB tableV c 1 = !decide (c.a = 1 ∨ c.n = 0) := by
  have h4 : ¬ c.t = 4 := by omega
  have h3 : ¬ (0 ≤ c.t ∧ c.t ≤ 3) := by omega
  constructor
  · unfold wayS
    rw [if_neg h4, if_neg h3, if_neg (by decide)]
  · unfold wayB
    rw [if_neg h4, if_neg h3, if_neg (by decide)]
theorem Wy.drewN {w wr : World} {c : TS} (h : Wy w c wr) (n : Nat) : Wy w c (wr.drewN n) := ⟨⟨h.box.1, h.box.2⟩, h.res, h.bel.drewN n⟩

set_option maxRecDepth 100000 in
set_option maxHeartbeats 2000000 in
theorem adjusted_up (c : TS) (f : Int) (k : Nat) (h : Rch tableV f k c) (ht : c.t = 5) (w : World) :
    Calls Try.prog 38 #[.agg (tg c), .int .i64 0] w fun e w' => e = .returned (.tuple #[.agg (tg (nxS c 0)), .int .i64 (nxE c 0)]) ∧ Below w.heap.size w w' := by
  have hz := tstZ
  have hcL := h.len
  have hn0 := h.n0
  have hzs := tg_size z0_len
  have hw := h.way (by omega)
  have HS := Lib.hid (show nxS c 0 = if wayB tableV c 0 then wayS c 0 else z0 from rfl)
  have HE := Lib.hid (show nxE c 0 = if wayB tableV c 0 then 0 else 100 from rfl)
  generalize nxS c 0 = R at HS ⊢
  generalize nxE c 0 = E at HE ⊢
  have HW0 := Lib.hid (Wy.start w hcL)
  go_enter Try.func38, Try.ntmps38
  go_upto_region 1 with fail
  generalize (w.alloc (.cells (tg c) 25)).alloc (.cells (tg z0) 25) = w1 at HW0 ⊢
  obtain ⟨cy, ct, cn, ca⟩ := HW0.out.cells
  have cf := HW0.out.box.fr
  have hw1 : IntKind.i64.wrap (c.n + 1) = c.n + 1 := by rw [IntKind.wrap_i64]; omega
  have hw2 : IntKind.i64.wrap (c.n - 1) = c.n - 1 := by rw [IntKind.wrap_i64]; omega
  · obtain ⟨HWS, HWB⟩ := adj_up ht
    rw [HWS, HWB] at HS
    rw [HWB] at HE
    clear HWS HWB ht h
    go_quiet (fail)
    replace HW0 := Lib.hid (HW0.out.drewN nq)
    clear cy ct cn ca cf
    generalize w1.drewN nq = w2 at HW0 ⊢
    obtain ⟨cy, ct, cn, ca⟩ := HW0.out.cells
    have cf := HW0.out.box.fr
    go_upto_region 4 with fail
    have ha3 : c.a = 0 ∨ c.a = 1 ∨ c.a = 2 := by omega
    go_cut [32] (fun s wx => s = .bool (decide (c.a = 2 ∨ c.n = 15)) ∧ wx = w2)
    case first =>
      by_cases hn : c.n = 15
      · have n1 : decide (15 < c.n + 1) = true := decide_eq_true (by omega)
        have n2 : decide (c.n + 1 < 0) = false := decide_eq_false (by omega)
        rcases ha3 with e | e | e
        · have HD := Lib.hid (show decide (c.a = 2 ∨ c.n = 15) = true from decide_eq_true (by omega))
          have a0 : (c.a != 0) = false := by rw [e]; rfl
          have a1 : (c.a != 1) = true := by rw [e]; rfl
          clear e hn
          go_wp2_with fail
          go_meet
          exact ⟨by rw [HD.out], rfl⟩
        · have HD := Lib.hid (show decide (c.a = 2 ∨ c.n = 15) = true from decide_eq_true (by omega))
          have a0 : (c.a != 0) = true := by rw [e]; rfl
          have a1 : (c.a != 1) = false := by rw [e]; rfl
          clear e hn
          go_wp2_with fail
          go_meet
          exact ⟨by rw [HD.out], rfl⟩
        · have HD := Lib.hid (show decide (c.a = 2 ∨ c.n = 15) = true from decide_eq_true (by omega))
          have a0 : (c.a != 0) = true := by rw [e]; rfl
          have a1 : (c.a != 1) = true := by rw [e]; rfl
          clear e hn
          go_wp2_with fail
          go_meet
          exact ⟨by rw [HD.out], rfl⟩
      · have n1 : decide (15 < c.n + 1) = false := decide_eq_false (by omega)
        have n2 : decide (c.n + 1 < 0) = false := decide_eq_false (by omega)
        rcases ha3 with e | e | e
        · have HD := Lib.hid (show decide (c.a = 2 ∨ c.n = 15) = false from decide_eq_false (by omega))
          have a0 : (c.a != 0) = false := by rw [e]; rfl
          have a1 : (c.a != 1) = true := by rw [e]; rfl
          clear e hn
          go_wp2_with fail
          go_meet
          exact ⟨by rw [HD.out], rfl⟩
        · have HD := Lib.hid (show decide (c.a = 2 ∨ c.n = 15) = false from decide_eq_false (by omega))
          have a0 : (c.a != 0) = true := by rw [e]; rfl
          have a1 : (c.a != 1) = false := by rw [e]; rfl
          clear e hn
          go_wp2_with fail
          go_meet
          exact ⟨by rw [HD.out], rfl⟩
        · have HD := Lib.hid (show decide (c.a = 2 ∨ c.n = 15) = true from decide_eq_true (by omega))
          have a0 : (c.a != 0) = true := by rw [e]; rfl
          have a1 : (c.a != 1) = true := by rw [e]; rfl
          clear e hn
          go_wp2_with fail
          go_meet
          exact ⟨by rw [HD.out], rfl⟩
    case rest =>
      obtain ⟨rfl, hwc⟩ := hcut
      obtain rfl : w2 = wc := hwc.symm
      by_cases hbad : c.a = 2 ∨ c.n = 15
      · have hd : decide (c.a = 2 ∨ c.n = 15) = true := decide_eq_true hbad
        have HSX := Lib.hid (show R = z0 by rw [HS.out, hd]; rfl)
        have HEX := Lib.hid (show E = 100 by rw [HE.out, hd]; rfl)
        rw [hd]
        clear HS HE hd hbad
        go_wp2_with (first
          | (refine wpList_build_is rfl 25 _ rfl _ _ (fun W => build_0 W) rfl ?_)
          | (refine wpList_store_row rfl 25 _ _ rfl (w.heap.size + 1) (tg z0) rfl rfl 25 (tg z0) HW0.out.res tstI rfl (tg_all _) ?_))
        refine bodyPost_ret (v := .tuple #[.agg (tg z0), .int .i64 100]) ?_ rfl ⟨by rw [HSX.out, HEX.out], HW0.out.bel.setRow (by omega) _⟩
        exact results_cell_tmp Try.results38 _ _ (w.heap.size + 1) 25 (tg z0) (0, 0) _ _ rfl rfl (setRow_heap _ _ _ _ _ _ HW0.out.res) Try.underlying25 rfl tstI
      · have hd : decide (c.a = 2 ∨ c.n = 15) = false := decide_eq_false hbad
        have hF : Wy w (TS.mk c.L c.y 4 (c.n + 1) 1) (((w2.setCell ⟨w.heap.size, 259, none⟩ (.int .i64 4)).setCell ⟨w.heap.size, 260, none⟩ (.int .i64 (c.n + 1))).setCell ⟨w.heap.size, 261, none⟩ (.int .i64 1)) := ((HW0.out.t 4).n (c.n + 1)).a 1
        obtain ⟨D, hD⟩ : ∃ D, D = TS.mk c.L c.y 4 (c.n + 1) 1 := ⟨_, rfl⟩
        have HSX := Lib.hid (show R = D by rw [HS.out, hd, if_neg hbad, hD]; rfl)
        have HEX := Lib.hid (show E = 0 by rw [HE.out, hd]; rfl)
        rw [hd]
        rw [← hD] at hF
        clear hD HS HE hd hbad
        go_upto_region 7 with fail
        generalize (((w2.setCell ⟨w.heap.size, 259, none⟩ (.int .i64 4)).setCell ⟨w.heap.size, 260, none⟩ (.int .i64 (c.n + 1))).setCell ⟨w.heap.size, 261, none⟩ (.int .i64 1)) = w4 at hF ⊢
        go_wp2_with (first
          | (refine wpList_load_row rfl 25 _ rfl w.heap.size rfl 25 (tg D) (0, 0) _ hF.box.1 Try.underlying25 rfl (tstIk hF.box.2) ?_)
          | (refine wpList_store_row rfl 25 _ _ rfl (w.heap.size + 1) (tg D) rfl rfl 25 (tg z0) hF.res (tstIk hF.box.2) (by rw [tg_size z0_len, tg_size hF.box.2]) (tg_all _) ?_))
        refine bodyPost_ret (v := .tuple #[.agg (tg D), .int .i64 0]) ?_ rfl ⟨by rw [HSX.out, HEX.out], hF.bel.setRow (by omega) _⟩
        exact results_cell_tmp Try.results38 _ _ (w.heap.size + 1) 25 (tg D) (0, 0) _ _ rfl rfl (setRow_heap _ _ _ _ _ _ hF.res) Try.underlying25 rfl (tstIk hF.box.2)

set_option maxRecDepth 100000 in
set_option maxHeartbeats 2000000 in
theorem adjusted_down (c : TS) (f : Int) (k : Nat) (h : Rch tableV f k c) (ht : c.t = 5) (w : World) :
    Calls Try.prog 38 #[.agg (tg c), .int .i64 1] w fun e w' => e = .returned (.tuple #[.agg (tg (nxS c 1)), .int .i64 (nxE c 1)]) ∧ Below w.heap.size w w' := by
  have hz := tstZ
  have hcL := h.len
  have hn0 := h.n0
  have hzs := tg_size z0_len
  have hw := h.way (by omega)
  have HS := Lib.hid (show nxS c 1 = if wayB tableV c 1 then wayS c 1 else z0 from rfl)
  have HE := Lib.hid (show nxE c 1 = if wayB tableV c 1 then 0 else 100 from rfl)
  generalize nxS c 1 = R at HS ⊢
  generalize nxE c 1 = E at HE ⊢
  have HW0 := Lib.hid (Wy.start w hcL)
  go_enter Try.func38, Try.ntmps38
  go_upto_region 1 with fail
  generalize (w.alloc (.cells (tg c) 25)).alloc (.cells (tg z0) 25) = w1 at HW0 ⊢
  obtain ⟨cy, ct, cn, ca⟩ := HW0.out.cells
  have cf := HW0.out.box.fr
  have hw1 : IntKind.i64.wrap (c.n + 1) = c.n + 1 := by rw [IntKind.wrap_i64]; omega
  have hw2 : IntKind.i64.wrap (c.n - 1) = c.n - 1 := by rw [IntKind.wrap_i64]; omega
  · obtain ⟨HWS, HWB⟩ := adj_down ht
    rw [HWS, HWB] at HS
    rw [HWB] at HE
    clear HWS HWB ht h
    go_quiet (fail)
    replace HW0 := Lib.hid (HW0.out.drewN nq)
    clear cy ct cn ca cf
    generalize w1.drewN nq = w2 at HW0 ⊢
    obtain ⟨cy, ct, cn, ca⟩ := HW0.out.cells
    have cf := HW0.out.box.fr
    go_upto_region 3 with fail
    go_quiet (fail)
    replace HW0 := Lib.hid (HW0.out.drewN nq)
    clear cy ct cn ca cf
    generalize w2.drewN nq = w3 at HW0 ⊢
    obtain ⟨cy, ct, cn, ca⟩ := HW0.out.cells
    have cf := HW0.out.box.fr
    go_upto_region 4 with fail
    have ha3 : c.a = 0 ∨ c.a = 1 ∨ c.a = 2 := by omega
    go_cut [32] (fun s wx => s = .bool (decide (c.a = 1 ∨ c.n = 0)) ∧ wx = w3)
    case first =>
      by_cases hn : c.n = 0
      · have n1 : decide (c.n - 1 < 0) = true := decide_eq_true (by omega)
        have n2 : decide (15 < c.n - 1) = false := decide_eq_false (by omega)
        rcases ha3 with e | e | e
        · have HD := Lib.hid (show decide (c.a = 1 ∨ c.n = 0) = true from decide_eq_true (by omega))
          have a0 : (c.a != 0) = false := by rw [e]; rfl
          have a1 : (c.a != 2) = true := by rw [e]; rfl
          clear e hn
          go_wp2_with fail
          go_meet
          exact ⟨by rw [HD.out], rfl⟩
        · have HD := Lib.hid (show decide (c.a = 1 ∨ c.n = 0) = true from decide_eq_true (by omega))
          have a0 : (c.a != 0) = true := by rw [e]; rfl
          have a1 : (c.a != 2) = true := by rw [e]; rfl
          clear e hn
          go_wp2_with fail
          go_meet
          exact ⟨by rw [HD.out], rfl⟩
        · have HD := Lib.hid (show decide (c.a = 1 ∨ c.n = 0) = true from decide_eq_true (by omega))
          have a0 : (c.a != 0) = true := by rw [e]; rfl
          have a1 : (c.a != 2) = false := by rw [e]; rfl
          clear e hn
          go_wp2_with fail
          go_meet
          exact ⟨by rw [HD.out], rfl⟩
      · have n1 : decide (c.n - 1 < 0) = false := decide_eq_false (by omega)
        have n2 : decide (15 < c.n - 1) = false := decide_eq_false (by omega)
        rcases ha3 with e | e | e
        · have HD := Lib.hid (show decide (c.a = 1 ∨ c.n = 0) = false from decide_eq_false (by omega))
          have a0 : (c.a != 0) = false := by rw [e]; rfl
          have a1 : (c.a != 2) = true := by rw [e]; rfl
          clear e hn
          go_wp2_with fail
          go_meet
          exact ⟨by rw [HD.out], rfl⟩
        · have HD := Lib.hid (show decide (c.a = 1 ∨ c.n = 0) = true from decide_eq_true (by omega))
          have a0 : (c.a != 0) = true := by rw [e]; rfl
          have a1 : (c.a != 2) = true := by rw [e]; rfl
          clear e hn
          go_wp2_with fail
          go_meet
          exact ⟨by rw [HD.out], rfl⟩
        · have HD := Lib.hid (show decide (c.a = 1 ∨ c.n = 0) = false from decide_eq_false (by omega))
          have a0 : (c.a != 0) = true := by rw [e]; rfl
          have a1 : (c.a != 2) = false := by rw [e]; rfl
          clear e hn
          go_wp2_with fail
          go_meet
          exact ⟨by rw [HD.out], rfl⟩
    case rest =>
      obtain ⟨rfl, hwc⟩ := hcut
      obtain rfl : w3 = wc := hwc.symm
      by_cases hbad : c.a = 1 ∨ c.n = 0
      · have hd : decide (c.a = 1 ∨ c.n = 0) = true := decide_eq_true hbad
        have HSX := Lib.hid (show R = z0 by rw [HS.out, hd]; rfl)
        have HEX := Lib.hid (show E = 100 by rw [HE.out, hd]; rfl)
        rw [hd]
        clear HS HE hd hbad
        go_wp2_with (first
          | (refine wpList_build_is rfl 25 _ rfl _ _ (fun W => build_0 W) rfl ?_)
          | (refine wpList_store_row rfl 25 _ _ rfl (w.heap.size + 1) (tg z0) rfl rfl 25 (tg z0) HW0.out.res tstI rfl (tg_all _) ?_))
        refine bodyPost_ret (v := .tuple #[.agg (tg z0), .int .i64 100]) ?_ rfl ⟨by rw [HSX.out, HEX.out], HW0.out.bel.setRow (by omega) _⟩
        exact results_cell_tmp Try.results38 _ _ (w.heap.size + 1) 25 (tg z0) (0, 0) _ _ rfl rfl (setRow_heap _ _ _ _ _ _ HW0.out.res) Try.underlying25 rfl tstI
      · have hd : decide (c.a = 1 ∨ c.n = 0) = false := decide_eq_false hbad
        have hF : Wy w (TS.mk c.L c.y 4 (c.n - 1) 2) (((w3.setCell ⟨w.heap.size, 259, none⟩ (.int .i64 4)).setCell ⟨w.heap.size, 260, none⟩ (.int .i64 (c.n - 1))).setCell ⟨w.heap.size, 261, none⟩ (.int .i64 2)) := ((HW0.out.t 4).n (c.n - 1)).a 2
        obtain ⟨D, hD⟩ : ∃ D, D = TS.mk c.L c.y 4 (c.n - 1) 2 := ⟨_, rfl⟩
        have HSX := Lib.hid (show R = D by rw [HS.out, hd, if_neg hbad, hD]; rfl)
        have HEX := Lib.hid (show E = 0 by rw [HE.out, hd]; rfl)
        rw [hd]
        rw [← hD] at hF
        clear hD HS HE hd hbad
        go_upto_region 7 with fail
        generalize (((w3.setCell ⟨w.heap.size, 259, none⟩ (.int .i64 4)).setCell ⟨w.heap.size, 260, none⟩ (.int .i64 (c.n - 1))).setCell ⟨w.heap.size, 261, none⟩ (.int .i64 2)) = w4 at hF ⊢
        go_wp2_with (first
          | (refine wpList_load_row rfl 25 _ rfl w.heap.size rfl 25 (tg D) (0, 0) _ hF.box.1 Try.underlying25 rfl (tstIk hF.box.2) ?_)
          | (refine wpList_store_row rfl 25 _ _ rfl (w.heap.size + 1) (tg D) rfl rfl 25 (tg z0) hF.res (tstIk hF.box.2) (by rw [tg_size z0_len, tg_size hF.box.2]) (tg_all _) ?_))
        refine bodyPost_ret (v := .tuple #[.agg (tg D), .int .i64 0]) ?_ rfl ⟨by rw [HSX.out, HEX.out], hF.bel.setRow (by omega) _⟩
        exact results_cell_tmp Try.results38 _ _ (w.heap.size + 1) 25 (tg D) (0, 0) _ _ rfl rfl (setRow_heap _ _ _ _ _ _ hF.res) Try.underlying25 rfl (tstIk hF.box.2)

theorem adjusted_call (c : TS) (f : Int) (k : Nat) (h : Rch tableV f k c) (ht : c.t = 5) (b : Int) (hb : b = 0 ∨ b = 1) (w : World) :
    Calls Try.prog 38 #[.agg (tg c), .int .i64 b] w fun e w' => e = .returned (.tuple #[.agg (tg (nxS c b)), .int .i64 (nxE c b)]) ∧ Below w.heap.size w w' := by
  rcases hb with rfl | rfl
  · exact adjusted_up c f k h ht w
  · exact adjusted_down c f k h ht w
end Go.Proofs.Ytckopdifjhjppaa
