/- The reference's Way. -/
import Derived.Test.YtckopdifjhjppaaKt
set_option linter.unusedVariables false
set_option linter.unusedSimpArgs false
namespace Go.Proofs.Ytckopdifjhjppaa
open Go.RowKit

theorem results_cell_tmp {P : Program} {fn : Func} {p q : Tmp} {ty : TypeId} (h : fn.results = #[.cell p ty, .tmp q]) (tmps : Array Value) (w : World) (g : Nat) (t : TypeId) (cs : Array Value) (fr : Nat × Nat) (d : TypeDesc) (v : Value)
    (hp : tmps.getD p undef = .pointer (some ⟨g, 0, none⟩)) (hq : tmps.getD q undef = v) (hg : w.heap[g]? = some (.cells cs t fr))
    (hu : P.underlying ty = some d) (hd : (match d with | .struct _ | .array _ _ => true | _ => false) = true) (hi : (P.info? ty).map (·.size) = some cs.size) :
    (results fn tmps).run P w = .ok (.tuple #[.agg cs, v]) w := by
  have hp' : tmps[p]?.getD undef = .pointer (some ⟨g, 0, none⟩) := by simpa using hp
  have hq' : tmps[q]?.getD undef = v := by simpa using hq
  simp [results, h, hp', hq', asAddr, run_loadVar_row w g t ty cs fr d hg hu hd hi]
theorem Rch.lngN {T : List Int → Bool} {f : Int} {k : Nat} {c : TS} (h : Rch T f k c) : Lng c.L := by
  refine ⟨h.len, fun z hz => ?_⟩
  obtain ⟨i, hi, rfl⟩ := List.mem_iff_getElem.1 hz
  have hg : gl c.L i = c.L[i] := by unfold gl; rw [List.getD_eq_getElem?_getD, List.getElem?_eq_getElem hi]; rfl
  rw [← hg]
  by_cases hy : (i : Int) < c.y
  · have := h.old i hy
    exact WalkArith.wf_u8 ⟨by omega, by omega⟩
  · have := h.new i (by omega)
    rw [this]
    decide
theorem Rch.tst {T : List Int → Bool} {f : Int} {k : Nat} {c : TS} (h : Rch T f k c) : Tst c := by
  have h1 := h.y0
  have h2 := h.n0
  have h3 := h.t0
  have ha : 0 ≤ c.a ∧ c.a ≤ 2 := by
    by_cases h4 : 4 ≤ c.t
    · have := h.way h4
      omega
    · have := (h.low (by omega)).2.1
      omega
  exact ⟨h.lngN, WalkArith.wf_i64 ⟨by omega, by omega⟩, WalkArith.wf_i64 ⟨by omega, by omega⟩, WalkArith.wf_i64 ⟨by omega, by omega⟩, WalkArith.wf_i64 ⟨by omega, by omega⟩⟩
/-- A state's box, and stores into it. -/
def TB (w : World) (g : Nat) (c : TS) : Prop := w.heap[g]? = some (.cells (tg c) 25 (0, 0)) ∧ c.L.length = 258
theorem TB.n {w : World} {g : Nat} {c : TS} (h : TB w g c) (z : Int) : TB (w.setCell ⟨g, 260, none⟩ (.int .i64 z)) g { c with n := z } := ⟨by rw [heap_setCell_same _ _ _ _ _ _ h.1, tg_setNow h.2], h.2⟩
theorem TB.t {w : World} {g : Nat} {c : TS} (h : TB w g c) (z : Int) : TB (w.setCell ⟨g, 259, none⟩ (.int .i64 z)) g { c with t := z } := ⟨by rw [heap_setCell_same _ _ _ _ _ _ h.1, tg_setT h.2], h.2⟩
theorem TB.y {w : World} {g : Nat} {c : TS} (h : TB w g c) (z : Int) : TB (w.setCell ⟨g, 258, none⟩ (.int .i64 z)) g { c with y := z } := ⟨by rw [heap_setCell_same _ _ _ _ _ _ h.1, tg_setY h.2], h.2⟩
theorem TB.a {w : World} {g : Nat} {c : TS} (h : TB w g c) (z : Int) : TB (w.setCell ⟨g, 261, none⟩ (.int .i64 z)) g { c with a := z } := ⟨by rw [heap_setCell_same _ _ _ _ _ _ h.1, tg_setA h.2], h.2⟩
theorem TB.l {w : World} {g : Nat} {c : TS} (h : TB w g c) (i : Nat) (hi : i < 258) (z : Int) : TB (w.setCell ⟨g, i, none⟩ (.int .u8 z)) g { c with L := c.L.set i z } := ⟨by rw [heap_setCell_same _ _ _ _ _ _ h.1, tg_setL h.2 i hi], by simp only; rw [List.length_set]; exact h.2⟩
theorem TB.fr {w : World} {g : Nat} {c : TS} (h : TB w g c) (i : Nat) : w.frozen? ⟨g, i, none⟩ = false := frozen_of_row w g i _ _ h.1
theorem TB.on {w w' : World} {g : Nat} {c : TS} (h : TB w g c) (hb : Below w.heap.size w w') : TB w' g c := ⟨heap_on hb h.1, h.2⟩
theorem tg_whole {w : World} {g : Nat} {t : TypeId} {fr : Nat × Nat} {c : TS} (hg : w.heap[g]? = some (.cells (tg c) t fr)) : w.rangeAt g 0 (tgl c) := fun j v hv => by
  rw [Nat.zero_add, cell_of_row w g j _ t fr hg, tg_at]
  exact hv
/-- Way's two boxes: the state, the result. -/
structure Wy (w : World) (c : TS) (wr : World) : Prop where
  box : TB wr w.heap.size c
  res : wr.heap[w.heap.size + 1]? = some (.cells (tg z0) 25 (0, 0))
  bel : Below w.heap.size w wr
theorem Wy.start (w : World) {c : TS} (h : c.L.length = 258) : Wy w c ((w.alloc (.cells (tg c) 25)).alloc (.cells (tg z0) 25)) :=
  ⟨⟨heap_alloc2_old w _ _, h⟩, heap_alloc2_new w _ _, ((Below.refl _ _).alloc (Nat.le_refl _) _).alloc (by simp) _⟩
theorem Wy.oth {w wr : World} {c : TS} (h : Wy w c wr) (i : Nat) (v : Value) : (wr.setCell ⟨w.heap.size, i, none⟩ v).heap[w.heap.size + 1]? = some (.cells (tg z0) 25 (0, 0)) := by
  rw [heap_setCell_other _ _ _ _ (by simp)]; exact h.res
theorem Wy.n {w wr : World} {c : TS} (h : Wy w c wr) (z : Int) : Wy w { c with n := z } (wr.setCell ⟨w.heap.size, 260, none⟩ (.int .i64 z)) := ⟨h.box.n z, h.oth _ _, h.bel.setCell (Nat.le_refl _) _⟩
theorem Wy.t {w wr : World} {c : TS} (h : Wy w c wr) (z : Int) : Wy w { c with t := z } (wr.setCell ⟨w.heap.size, 259, none⟩ (.int .i64 z)) := ⟨h.box.t z, h.oth _ _, h.bel.setCell (Nat.le_refl _) _⟩
theorem Wy.y {w wr : World} {c : TS} (h : Wy w c wr) (z : Int) : Wy w { c with y := z } (wr.setCell ⟨w.heap.size, 258, none⟩ (.int .i64 z)) := ⟨h.box.y z, h.oth _ _, h.bel.setCell (Nat.le_refl _) _⟩
theorem Wy.a {w wr : World} {c : TS} (h : Wy w c wr) (z : Int) : Wy w { c with a := z } (wr.setCell ⟨w.heap.size, 261, none⟩ (.int .i64 z)) := ⟨h.box.a z, h.oth _ _, h.bel.setCell (Nat.le_refl _) _⟩
theorem Wy.l {w wr : World} {c : TS} (h : Wy w c wr) (i : Nat) (hi : i < 258) (z : Int) : Wy w { c with L := c.L.set i z } (wr.setCell ⟨w.heap.size, i, none⟩ (.int .u8 z)) := ⟨h.box.l i hi z, h.oth _ _, h.bel.setCell (Nat.le_refl _) _⟩
theorem Wy.on {w wr w' : World} {c : TS} (h : Wy w c wr) (hb : Below wr.heap.size wr w') : Wy w c w' := ⟨h.box.on hb, heap_on hb h.res, h.bel.trans (hb.mono h.bel.size)⟩
theorem Wy.cells {w wr : World} {c : TS} (h : Wy w c wr) : wr.cell? ⟨w.heap.size, 258, none⟩ = some (.int .i64 c.y) ∧ wr.cell? ⟨w.heap.size, 259, none⟩ = some (.int .i64 c.t) ∧ wr.cell? ⟨w.heap.size, 260, none⟩ = some (.int .i64 c.n) ∧ wr.cell? ⟨w.heap.size, 261, none⟩ = some (.int .i64 c.a) := tg_cells h.box.1 h.box.2

set_option maxRecDepth 100000 in
set_option maxHeartbeats 2000000 in
theorem way_call (c : TS) (f : Int) (k : Nat) (h : Rch tableV f k c) (hy : c.y ≠ 258) (b : Int) (hb : b = 0 ∨ b = 1) (w : World) :
    Calls Try.prog 27 #[.agg (tg c), .int .i64 b] w fun e w' => e = .returned (.tuple #[.agg (tg (wayS c b)), .bool (wayB tableV c b)]) ∧ Below w.heap.size w w' := by
  have hz := tstZ
  have hst := Wy.start w h.len
  have hy0 := h.y0
  have hn0 := h.n0
  have ht0 := h.t0
  have HS := Lib.hid (show wayS c b = if c.t = 4 then (if b = 1 then { c with t := 5 } else { c with L := c.L.set c.y.toNat c.n, y := c.y + 1, a := 0 }) else if 0 ≤ c.t ∧ c.t ≤ 3 then { c with n := 2 * c.n + b, t := c.t + 1 } else if b = 0 then (if c.a = 2 ∨ c.n = 15 then { c with t := 4 } else { c with t := 4, n := c.n + 1, a := 1 }) else (if c.a = 1 ∨ c.n = 0 then { c with t := 4 } else { c with t := 4, n := c.n - 1, a := 2 }) from rfl)
  have HW := Lib.hid (show wayB tableV c b = if c.t = 4 then (if b = 1 then true else decide (c.y + 1 < 258) || tableV (c.L.set c.y.toNat c.n)) else if 0 ≤ c.t ∧ c.t ≤ 3 then true else if b = 0 then !decide (c.a = 2 ∨ c.n = 15) else !decide (c.a = 1 ∨ c.n = 0) from rfl)
  generalize wayB tableV c b = B at HW ⊢
  generalize hR : wayS c b = R at HS ⊢
  clear hR
  go_enter Try.func27, Try.ntmps27
  go_upto_region 1 with fail
  generalize (w.alloc (.cells (tg c) 25)).alloc (.cells (tg z0) 25) = w1 at hst ⊢
  obtain ⟨cy, ct, cn, ca⟩ := hst.cells
  have cf := hst.box.fr
  have HST := Lib.hid hst
  clear hst hz
  by_cases h3 : c.t ≤ 3
  · have ht : c.t = 0 ∨ c.t = 1 ∨ c.t = 2 ∨ c.t = 3 := by omega
    have hlt := (h.low h3).2.2.1
    have hp : (2 : Int) ^ c.t.toNat ≤ 8 := by rcases ht with e | e | e | e <;> rw [e] <;> decide
    have hn8 : c.n < 8 := by omega
    have HS2 := Lib.hid (show R = { c with n := 2 * c.n + b, t := c.t + 1 } by rw [HS.out, if_neg (by omega), if_pos (by omega)])
    have HW2 := Lib.hid (show B = true by rw [HW.out, if_neg (by omega), if_pos (by omega)])
    clear HS HW hlt hp h3
    have hm : ∀ z : Int, 0 ≤ z → z < 8 → IntKind.i64.wrap (2 * z) = 2 * z := fun z h1 h2 => by rw [IntKind.wrap_i64]; omega
    have HM := Lib.hid (HST.out.n (2 * c.n + b))
    have HM2 := Lib.hid (HM.out.t (c.t + 1))
    have HSL := Lib.hid h.len
    clear h hm
    generalize c.n = n at cn hn0 hn8 HS2 HM HM2
    generalize c.t = t at ct ht0 ht HS2 HM2
    rcases ht with rfl | rfl | rfl | rfl
    · have hF := HM.out.t 1
      obtain ⟨D, hD⟩ : ∃ D, D = TS.mk c.L c.y 1 (2 * n + b) c.a := ⟨_, rfl⟩
      have HS3 := Lib.hid (show R = D by rw [HS2.out, hD]; rfl)
      go_upto_region 8 with fail
      replace hF : Wy w D _ := hD ▸ hF
      clear hD
      generalize (w1.setCell ⟨w.heap.size, 260, none⟩ (.int .i64 (2 * n + b))).setCell ⟨w.heap.size, 259, none⟩ (.int .i64 1) = w2 at hF ⊢
      go_wp2_with (first
        | (refine wpList_load_row rfl 25 _ rfl w.heap.size rfl 25 (tg D) (0, 0) _ hF.box.1 Try.underlying25 rfl (tstIk hF.box.2) ?_)
        | (refine wpList_store_row rfl 25 _ _ rfl (w.heap.size + 1) (tg D) rfl rfl 25 (tg z0) hF.res (tstIk hF.box.2) (by rw [tg_size z0_len, tg_size hF.box.2]) (tg_all _) ?_))
      refine bodyPost_ret (v := .tuple #[.agg (tg D), .bool true]) ?_ rfl ⟨by rw [HS3.out, HW2.out], hF.bel.setRow (by omega) _⟩
      exact results_cell_tmp Try.results27 _ _ (w.heap.size + 1) 25 (tg D) (0, 0) _ _ rfl rfl (setRow_heap _ _ _ _ _ _ hF.res) Try.underlying25 rfl (tstIk hF.box.2)
    · have hF := HM.out.t 2
      obtain ⟨D, hD⟩ : ∃ D, D = TS.mk c.L c.y 2 (2 * n + b) c.a := ⟨_, rfl⟩
      have HS3 := Lib.hid (show R = D by rw [HS2.out, hD]; rfl)
      go_upto_region 8 with fail
      replace hF : Wy w D _ := hD ▸ hF
      clear hD
      generalize (w1.setCell ⟨w.heap.size, 260, none⟩ (.int .i64 (2 * n + b))).setCell ⟨w.heap.size, 259, none⟩ (.int .i64 2) = w2 at hF ⊢
      go_wp2_with (first
        | (refine wpList_load_row rfl 25 _ rfl w.heap.size rfl 25 (tg D) (0, 0) _ hF.box.1 Try.underlying25 rfl (tstIk hF.box.2) ?_)
        | (refine wpList_store_row rfl 25 _ _ rfl (w.heap.size + 1) (tg D) rfl rfl 25 (tg z0) hF.res (tstIk hF.box.2) (by rw [tg_size z0_len, tg_size hF.box.2]) (tg_all _) ?_))
      refine bodyPost_ret (v := .tuple #[.agg (tg D), .bool true]) ?_ rfl ⟨by rw [HS3.out, HW2.out], hF.bel.setRow (by omega) _⟩
      exact results_cell_tmp Try.results27 _ _ (w.heap.size + 1) 25 (tg D) (0, 0) _ _ rfl rfl (setRow_heap _ _ _ _ _ _ hF.res) Try.underlying25 rfl (tstIk hF.box.2)
    · have hF := HM.out.t 3
      obtain ⟨D, hD⟩ : ∃ D, D = TS.mk c.L c.y 3 (2 * n + b) c.a := ⟨_, rfl⟩
      have HS3 := Lib.hid (show R = D by rw [HS2.out, hD]; rfl)
      go_upto_region 8 with fail
      replace hF : Wy w D _ := hD ▸ hF
      clear hD
      generalize (w1.setCell ⟨w.heap.size, 260, none⟩ (.int .i64 (2 * n + b))).setCell ⟨w.heap.size, 259, none⟩ (.int .i64 3) = w2 at hF ⊢
      go_wp2_with (first
        | (refine wpList_load_row rfl 25 _ rfl w.heap.size rfl 25 (tg D) (0, 0) _ hF.box.1 Try.underlying25 rfl (tstIk hF.box.2) ?_)
        | (refine wpList_store_row rfl 25 _ _ rfl (w.heap.size + 1) (tg D) rfl rfl 25 (tg z0) hF.res (tstIk hF.box.2) (by rw [tg_size z0_len, tg_size hF.box.2]) (tg_all _) ?_))
      refine bodyPost_ret (v := .tuple #[.agg (tg D), .bool true]) ?_ rfl ⟨by rw [HS3.out, HW2.out], hF.bel.setRow (by omega) _⟩
      exact results_cell_tmp Try.results27 _ _ (w.heap.size + 1) 25 (tg D) (0, 0) _ _ rfl rfl (setRow_heap _ _ _ _ _ _ hF.res) Try.underlying25 rfl (tstIk hF.box.2)
    · have hF := HM.out.t 4
      obtain ⟨D, hD⟩ : ∃ D, D = TS.mk c.L c.y 4 (2 * n + b) c.a := ⟨_, rfl⟩
      have HS3 := Lib.hid (show R = D by rw [HS2.out, hD]; rfl)
      go_upto_region 8 with fail
      replace hF : Wy w D _ := hD ▸ hF
      clear hD
      generalize (w1.setCell ⟨w.heap.size, 260, none⟩ (.int .i64 (2 * n + b))).setCell ⟨w.heap.size, 259, none⟩ (.int .i64 4) = w2 at hF ⊢
      go_wp2_with (first
        | (refine wpList_load_row rfl 25 _ rfl w.heap.size rfl 25 (tg D) (0, 0) _ hF.box.1 Try.underlying25 rfl (tstIk hF.box.2) ?_)
        | (refine wpList_store_row rfl 25 _ _ rfl (w.heap.size + 1) (tg D) rfl rfl 25 (tg z0) hF.res (tstIk hF.box.2) (by rw [tg_size z0_len, tg_size hF.box.2]) (tg_all _) ?_))
      refine bodyPost_ret (v := .tuple #[.agg (tg D), .bool true]) ?_ rfl ⟨by rw [HS3.out, HW2.out], hF.bel.setRow (by omega) _⟩
      exact results_cell_tmp Try.results27 _ _ (w.heap.size + 1) 25 (tg D) (0, 0) _ _ rfl rfl (setRow_heap _ _ _ _ _ _ hF.res) Try.underlying25 rfl (tstIk hF.box.2)
  · by_cases h4 : c.t = 4
    · have HSL := Lib.hid h.len
      by_cases hb1 : b = 1
      · have HS2 := Lib.hid (show R = { c with t := 5 } by rw [HS.out, if_pos h4, if_pos hb1])
        have HW2 := Lib.hid (show B = true by rw [HW.out, if_pos h4, if_pos hb1])
        have hF := HST.out.t 5
        obtain ⟨D, hD⟩ : ∃ D, D = TS.mk c.L c.y 5 c.n c.a := ⟨_, rfl⟩
        have HS3 := Lib.hid (show R = D by rw [HS2.out, hD])
        rw [h4] at ct
        subst hb1
        clear HS HW h h4 h3
        go_upto_region 12 with fail
        replace hF : Wy w D _ := hD ▸ hF
        clear hD
        generalize w1.setCell ⟨w.heap.size, 259, none⟩ (.int .i64 5) = w2 at hF ⊢
        go_wp2_with (first
          | (refine wpList_load_row rfl 25 _ rfl w.heap.size rfl 25 (tg D) (0, 0) _ hF.box.1 Try.underlying25 rfl (tstIk hF.box.2) ?_)
          | (refine wpList_store_row rfl 25 _ _ rfl (w.heap.size + 1) (tg D) rfl rfl 25 (tg z0) hF.res (tstIk hF.box.2) (by rw [tg_size z0_len, tg_size hF.box.2]) (tg_all _) ?_))
        refine bodyPost_ret (v := .tuple #[.agg (tg D), .bool true]) ?_ rfl ⟨by rw [HS3.out, HW2.out], hF.bel.setRow (by omega) _⟩
        exact results_cell_tmp Try.results27 _ _ (w.heap.size + 1) 25 (tg D) (0, 0) _ _ rfl rfl (setRow_heap _ _ _ _ _ _ hF.res) Try.underlying25 rfl (tstIk hF.box.2)
      · obtain rfl : b = 0 := by omega
        have HS2 := Lib.hid (show R = { c with L := c.L.set c.y.toNat c.n, y := c.y + 1, a := 0 } by rw [HS.out, if_pos h4, if_neg hb1])
        have HW2 := Lib.hid (show B = (decide (c.y + 1 < 258) || tableV (c.L.set c.y.toNat c.n)) by rw [HW.out, if_pos h4, if_neg hb1])
        obtain ⟨y, hyn⟩ : ∃ y : Nat, c.y = y := ⟨c.y.toNat, by omega⟩
        have hy257 : y < 258 := by omega
        have hF : Wy w (TS.mk (c.L.set y c.n) ((y : Int) + 1) c.t c.n 0) (((w1.setCell ⟨w.heap.size, y, none⟩ (.int .u8 c.n)).setCell ⟨w.heap.size, 258, none⟩ (.int .i64 ((y : Int) + 1))).setCell ⟨w.heap.size, 261, none⟩ (.int .i64 0)) := ((HST.out.l y hy257 c.n).y ((y : Int) + 1)).a 0
        rw [hyn, Int.toNat_natCast] at HS2 HW2
        have HLG := Lib.hid (show Lng (c.L.set y c.n) from h.lngN.set y c.n (WalkArith.wf_u8 ⟨by omega, by omega⟩))
        obtain ⟨D, hD⟩ : ∃ D, D = TS.mk (c.L.set y c.n) ((y : Int) + 1) c.t c.n 0 := ⟨_, rfl⟩
        have HS3 := Lib.hid (show R = D by rw [HS2.out, hD])
        have hDL : Lng D.L := by rw [hD]; exact HLG.out
        have HDT := Lib.hid (show tableV (c.L.set y c.n) = tableV D.L by rw [hD])
        rw [h4] at ct
        rw [hyn] at cy
        have cL := tg_lcell HST.out.box.1 HST.out.box.2 y hy257
        generalize c.L.getD y 0 = z at cL
        have HYN := Lib.hid hyn
        have hyi : (y : Int) < 258 := by omega
        clear HS HW h h3 hb1 HLG HS2
        go_upto_region 16 with fail
        rw [← hD] at hF
        have hDy : D.y = (y : Int) + 1 := by rw [hD]
        clear hD cf cy ct cn ca cL
        generalize ((w1.setCell ⟨w.heap.size, y, none⟩ (.int .u8 c.n)).setCell ⟨w.heap.size, 258, none⟩ (.int .i64 ((y : Int) + 1))).setCell ⟨w.heap.size, 261, none⟩ (.int .i64 0) = w2 at hF ⊢
        obtain ⟨dy, _, _, _⟩ := hF.cells
        rw [hDy] at dy
        have hbx := hF.box.1
        have hr := hF.res
        have dr := tg_range hF.box.1 hF.box.2
        have HF := Lib.hid hF
        have hDl := hF.box.2
        clear hF
        have hbel := HF.out.bel
        have HCL := Lib.hid (fun (W : World) (hW : W.heap[w.heap.size]? = some (.cells (tg D) 25 (0, 0))) => hDy ▸ (tg_cells hW hDl).1)
        clear dy
        by_cases hlast : y + 1 < 258
        · have hdec : (decide ((y : Int) + 1 < 258)) = true := decide_eq_true (by omega)
          have HW3 := Lib.hid (show B = true by rw [HW2.out, hdec, Bool.true_or])
          refine wp_region_noPanic ?_
          refine wp_region_held_drew (S := fun W => W.heap[w.heap.size]? = some (.cells (tg D) 25 (0, 0)) ∧ Below w.heap.size w W) (by kernel_rfl) ⟨hbx, hbel.drew⟩ (fun hHeld => ?_)
          refine wpAnyH_take (i := 0) (v := .agg (tgl D).toArray) rfl (by kernel_rfl) (by kernel_rfl) (by kernel_rfl) (fun _ _ _ h => h) (yieldsIf_load_mid rfl 25 _ rfl w.heap.size 0 rfl (tgl D) _ (fun W hW => tg_whole hW.1) Try.underlying25 rfl (by rw [tgl_len hDl]; exact tstI)) (by assumption) ?_
          try simp only [Act.put, List.getElem_toArray, List.getElem_cons_succ, List.getElem_cons_zero, List.setIfInBounds_toArray, List.set_cons_zero, List.set_cons_succ]
          refine wpAnyH_take (i := 1) (v := ?_) rfl (by kernel_rfl) (by kernel_rfl) (by kernel_rfl) (fun _ _ _ h => h) (Or.inl ⟨by rfl, ?_⟩) (by assumption) ?_
          rotate_left
          · (intro W hSw; have dyW := HCL.out W hSw.1; go_simp) <;> with_reducible rfl
          try simp only [Act.put, List.getElem_toArray, List.getElem_cons_succ, List.getElem_cons_zero, List.setIfInBounds_toArray, List.set_cons_zero, List.set_cons_succ]
          refine wpAnyH_take (i := 2) (v := ?_) rfl (by kernel_rfl) (by kernel_rfl) (by kernel_rfl) (fun _ _ _ h => h) (Or.inl ⟨by rfl, ?_⟩) (by assumption) ?_
          rotate_left
          · (intro W hSw; have dyW := HCL.out W hSw.1; go_simp) <;> with_reducible rfl
          try simp only [Act.put, List.getElem_toArray, List.getElem_cons_succ, List.getElem_cons_zero, List.setIfInBounds_toArray, List.set_cons_zero, List.set_cons_succ]
          refine wpAnyH_take (i := 3) (v := ?_) rfl (by kernel_rfl) (by kernel_rfl) (by kernel_rfl) (fun _ _ _ h => h) (Or.inl ⟨by rfl, ?_⟩) (by assumption) ?_
          rotate_left
          · (intro W hSw; have dyW := HCL.out W hSw.1; go_simp) <;> with_reducible rfl
          try simp only [Act.put, List.getElem_toArray, List.getElem_cons_succ, List.getElem_cons_zero, List.setIfInBounds_toArray, List.set_cons_zero, List.set_cons_succ]
          refine wpAnyH_take (i := 4) (v := ?_) rfl (by kernel_rfl) (by kernel_rfl) (by kernel_rfl) (fun _ _ _ h => h) (Or.inl ⟨by rfl, ?_⟩) (by assumption) ?_
          rotate_left
          · (intro W hSw; have dyW := HCL.out W hSw.1; go_simp) <;> with_reducible rfl
          try simp only [Act.put, List.getElem_toArray, List.getElem_cons_succ, List.getElem_cons_zero, List.setIfInBounds_toArray, List.set_cons_zero, List.set_cons_succ]
          refine wpAnyH_take (i := 5) (v := undef) rfl (by kernel_rfl) (by kernel_rfl) (by kernel_rfl) (fun _ _ _ h => h) (Or.inr ⟨by rfl, rfl⟩) (by assumption) ?_
          try simp only [Act.put, List.getElem_toArray, List.getElem_cons_succ, List.getElem_cons_zero, List.setIfInBounds_toArray, List.set_cons_zero, List.set_cons_succ]
          refine wpAnyH_take (i := 6) (v := undef) rfl (by kernel_rfl) (by kernel_rfl) (by kernel_rfl) (fun _ _ _ h => h) (Or.inr ⟨by rfl, rfl⟩) (by assumption) ?_
          try simp only [Act.put, List.getElem_toArray, List.getElem_cons_succ, List.getElem_cons_zero, List.setIfInBounds_toArray, List.set_cons_zero, List.set_cons_succ]
          refine wpAnyH_take (i := 7) (v := undef) rfl (by kernel_rfl) (by kernel_rfl) (by kernel_rfl) (fun _ _ _ h => h) (Or.inr ⟨by rfl, rfl⟩) (by assumption) ?_
          try simp only [Act.put, List.getElem_toArray, List.getElem_cons_succ, List.getElem_cons_zero, List.setIfInBounds_toArray, List.set_cons_zero, List.set_cons_succ]
          refine wpAnyH_take (i := 8) (v := ?_) rfl (by kernel_rfl) (by kernel_rfl) (by kernel_rfl) (fun _ _ _ h => h) (Or.inl ⟨by rfl, ?_⟩) (by assumption) ?_
          rotate_left
          · (intro W hSw; have dyW := HCL.out W hSw.1; go_simp) <;> with_reducible rfl
          try simp only [Act.put, List.getElem_toArray, List.getElem_cons_succ, List.getElem_cons_zero, List.setIfInBounds_toArray, List.set_cons_zero, List.set_cons_succ]
          refine wpAnyH_ready (rs := [9]) (by kernel_rfl) (by simp) ?_
          refine AllReadyH.cons (o := _) rfl (fun K hK => ?_) AllReadyH.nil
          rw [if_pos (by rfl)]
          refine wp_store_row 25 _ _ rfl (w.heap.size + 1) (tg D) rfl rfl 25 (tg z0) hr (tstIk hDl) (by rw [tg_size z0_len, tg_size hDl]) (tg_all _) ?_
          refine hK.out _ _ ⟨(setRow_other _ _ _ _ (by omega)).trans hHeld.1, hHeld.2.setRow (by omega) _⟩ (fun hHeld2 => ?_)
          try simp only [Act.put]
          refine wpAnyH_take (i := 10) (v := ?_) rfl (by kernel_rfl) (by kernel_rfl) (by kernel_rfl) (fun _ _ _ h => h) (Or.inl ⟨by rfl, ?_⟩) (by assumption) ?_
          rotate_left
          · (intro W hSw; go_simp) <;> with_reducible rfl
          try simp only [Act.put, List.getElem_toArray, List.getElem_cons_succ, List.getElem_cons_zero, List.setIfInBounds_toArray, List.set_cons_zero, List.set_cons_succ]
          refine wpAnyH_done (by kernel_rfl) ?_ _
          refine NoPanic.normal ?_
          have hrr := setRow_heap _ _ _ (tg D) _ _ hr
          go_wp2
          refine bodyPost_ret (v := .tuple #[.agg (tg D), .bool true]) ?_ rfl ⟨by rw [HS3.out, HW3.out], hHeld2.2⟩
          exact results_cell_tmp Try.results27 _ _ (w.heap.size + 1) 25 (tg D) (0, 0) _ _ rfl rfl hrr Try.underlying25 rfl (tstIk hDl)
        · have hdec : (decide ((y : Int) + 1 < 258)) = false := decide_eq_false (by omega)
          have HW3 := Lib.hid (show B = tableV D.L by rw [HW2.out, hdec, Bool.false_or, HDT.out])
          refine wp_region_noPanic ?_
          refine wp_region_held_drew (S := fun W => W.heap[w.heap.size]? = some (.cells (tg D) 25 (0, 0)) ∧ Below w.heap.size w W) (by kernel_rfl) ⟨hbx, hbel.drew⟩ (fun hHeld => ?_)
          refine wpAnyH_take (i := 0) (v := .agg (tgl D).toArray) rfl (by kernel_rfl) (by kernel_rfl) (by kernel_rfl) (fun _ _ _ h => h) (yieldsIf_load_mid rfl 25 _ rfl w.heap.size 0 rfl (tgl D) _ (fun W hW => tg_whole hW.1) Try.underlying25 rfl (by rw [tgl_len hDl]; exact tstI)) (by assumption) ?_
          try simp only [Act.put, List.getElem_toArray, List.getElem_cons_succ, List.getElem_cons_zero, List.setIfInBounds_toArray, List.set_cons_zero, List.set_cons_succ]
          refine wpAnyH_take (i := 1) (v := ?_) rfl (by kernel_rfl) (by kernel_rfl) (by kernel_rfl) (fun _ _ _ h => h) (Or.inl ⟨by rfl, ?_⟩) (by assumption) ?_
          rotate_left
          · (intro W hSw; have dyW := HCL.out W hSw.1; go_simp) <;> with_reducible rfl
          try simp only [Act.put, List.getElem_toArray, List.getElem_cons_succ, List.getElem_cons_zero, List.setIfInBounds_toArray, List.set_cons_zero, List.set_cons_succ]
          refine wpAnyH_take (i := 2) (v := ?_) rfl (by kernel_rfl) (by kernel_rfl) (by kernel_rfl) (fun _ _ _ h => h) (Or.inl ⟨by rfl, ?_⟩) (by assumption) ?_
          rotate_left
          · (intro W hSw; have dyW := HCL.out W hSw.1; go_simp) <;> with_reducible rfl
          try simp only [Act.put, List.getElem_toArray, List.getElem_cons_succ, List.getElem_cons_zero, List.setIfInBounds_toArray, List.set_cons_zero, List.set_cons_succ]
          refine wpAnyH_take (i := 3) (v := ?_) rfl (by kernel_rfl) (by kernel_rfl) (by kernel_rfl) (fun _ _ _ h => h) (Or.inl ⟨by rfl, ?_⟩) (by assumption) ?_
          rotate_left
          · (intro W hSw; have dyW := HCL.out W hSw.1; go_simp) <;> with_reducible rfl
          try simp only [Act.put, List.getElem_toArray, List.getElem_cons_succ, List.getElem_cons_zero, List.setIfInBounds_toArray, List.set_cons_zero, List.set_cons_succ]
          refine wpAnyH_take (i := 4) (v := ?_) rfl (by kernel_rfl) (by kernel_rfl) (by kernel_rfl) (fun _ _ _ h => h) (Or.inl ⟨by rfl, ?_⟩) (by assumption) ?_
          rotate_left
          · (intro W hSw; have dyW := HCL.out W hSw.1; go_simp) <;> with_reducible rfl
          try simp only [Act.put, List.getElem_toArray, List.getElem_cons_succ, List.getElem_cons_zero, List.setIfInBounds_toArray, List.set_cons_zero, List.set_cons_succ]
          refine wpAnyH_take (i := 5) (v := ?_) rfl (by kernel_rfl) (by kernel_rfl) (by kernel_rfl) (fun _ _ _ h => h) (Or.inl ⟨by rfl, ?_⟩) (by assumption) ?_
          rotate_left
          · (intro W hSw; have dyW := HCL.out W hSw.1; go_simp) <;> with_reducible rfl
          try simp only [Act.put, List.getElem_toArray, List.getElem_cons_succ, List.getElem_cons_zero, List.setIfInBounds_toArray, List.set_cons_zero, List.set_cons_succ]
          refine wpAnyH_take (i := 6) (v := .agg ((lg D.L).toList).toArray) rfl (by kernel_rfl) (by kernel_rfl) (by kernel_rfl) (fun _ _ _ h => h) (yieldsIf_load_mid rfl 23 _ rfl w.heap.size 0 rfl ((lg D.L).toList) _ (fun W hW => tg_range hW.1 hDl) Try.underlying23 rfl (by rw [Array.length_toList]; exact lngIk hDL)) (by assumption) ?_
          try simp only [Act.put, List.getElem_toArray, List.getElem_cons_succ, List.getElem_cons_zero, List.setIfInBounds_toArray, List.set_cons_zero, List.set_cons_succ]
          refine wpAnyH_ready (rs := [7]) (by kernel_rfl) (by simp) ?_
          refine AllReadyH.cons (o := _) rfl (fun K hK => ?_) AllReadyH.nil
          go_simp
          go_at_call 22
          refine (rtable_call D.L hDL _).mono ?_
          rintro e w5 ⟨rfl, hb5⟩
          replace hr : w2.drew.heap[w.heap.size + 1]? = some (.cells (tg z0) 25 (0, 0)) := hr
          refine hK.out _ _ ⟨heap_on hb5 hHeld.1, hHeld.2.trans (hb5.mono hHeld.2.size)⟩ (fun hHeld3 => ?_)
          replace hr := heap_on hb5 hr
          clear hK K hHeld hbx hbel
          have hHeld := hHeld3
          try simp only [Act.put, List.getElem_toArray, List.getElem_cons_succ, List.getElem_cons_zero, List.setIfInBounds_toArray, List.set_cons_zero, List.set_cons_succ]
          refine wpAnyH_take (i := 8) (v := ?_) rfl (by kernel_rfl) (by kernel_rfl) (by kernel_rfl) (fun _ _ _ h => h) (Or.inl ⟨by rfl, ?_⟩) (by assumption) ?_
          rotate_left
          · (intro W hSw; go_simp) <;> with_reducible rfl
          try simp only [Act.put, List.getElem_toArray, List.getElem_cons_succ, List.getElem_cons_zero, List.setIfInBounds_toArray, List.set_cons_zero, List.set_cons_succ]
          refine wpAnyH_ready (rs := [9]) (by kernel_rfl) (by simp) ?_
          refine AllReadyH.cons (o := _) rfl (fun K hK => ?_) AllReadyH.nil
          rw [if_pos (by rfl)]
          refine wp_store_row 25 _ _ rfl (w.heap.size + 1) (tg D) rfl rfl 25 (tg z0) hr (tstIk hDl) (by rw [tg_size z0_len, tg_size hDl]) (tg_all _) ?_
          refine hK.out _ _ ⟨(setRow_other _ _ _ _ (by omega)).trans hHeld.1, hHeld.2.setRow (by omega) _⟩ (fun hHeld2 => ?_)
          try simp only [Act.put]
          refine wpAnyH_take (i := 10) (v := ?_) rfl (by kernel_rfl) (by kernel_rfl) (by kernel_rfl) (fun _ _ _ h => h) (Or.inl ⟨by rfl, ?_⟩) (by assumption) ?_
          rotate_left
          · (intro W hSw; go_simp) <;> with_reducible rfl
          try simp only [Act.put, List.getElem_toArray, List.getElem_cons_succ, List.getElem_cons_zero, List.setIfInBounds_toArray, List.set_cons_zero, List.set_cons_succ]
          refine wpAnyH_done (by kernel_rfl) ?_ _
          refine NoPanic.normal ?_
          have hrr := setRow_heap _ _ _ (tg D) _ _ hr
          go_wp2
          refine bodyPost_ret (v := .tuple #[.agg (tg D), .bool (tableV D.L)]) ?_ rfl ⟨by rw [HS3.out, HW3.out], hHeld2.2⟩
          exact results_cell_tmp Try.results27 _ _ (w.heap.size + 1) 25 (tg D) (0, 0) _ _ rfl rfl hrr Try.underlying25 rfl (tstIk hDl)
    · have h5 : c.t = 5 := by omega
      have HSL := Lib.hid h.len
      have ha0 : 0 ≤ c.a ∧ c.a ≤ 2 := by have := h.way (by omega); omega
      rw [h5] at ct
      by_cases hb0 : b = 0
      · have HS2 := Lib.hid (show R = if c.a = 2 ∨ c.n = 15 then { c with t := 4 } else { c with t := 4, n := c.n + 1, a := 1 } by rw [HS.out, if_neg h4, if_neg (by omega), if_pos hb0])
        have HW2 := Lib.hid (show B = !decide (c.a = 2 ∨ c.n = 15) by rw [HW.out, if_neg h4, if_neg (by omega), if_pos hb0])
        subst hb0
        clear HS HW h h4 h3
        by_cases ha : c.a = 2
        · have hD0 : R = TS.mk c.L c.y 4 c.n c.a := by rw [HS2.out, if_pos (.inl ha)]
          have HB := Lib.hid (show B = false by rw [HW2.out, decide_eq_true (.inl ha)]; rfl)
          rw [ha] at ca
          obtain ⟨D, hD⟩ : ∃ D, D = TS.mk c.L c.y 4 c.n c.a := ⟨_, rfl⟩
          have HS3 := Lib.hid (show R = D by rw [hD0, hD])
          have hF : Wy w (TS.mk c.L c.y 4 c.n c.a) (w1.setCell ⟨w.heap.size, 259, none⟩ (.int .i64 4)) := HST.out.t 4
          rw [← hD] at hF
          clear hD hD0
          go_upto_region 20 with fail
          generalize w1.setCell ⟨w.heap.size, 259, none⟩ (.int .i64 4) = w2 at hF ⊢
          go_wp2_with (first
            | (refine wpList_load_row rfl 25 _ rfl w.heap.size rfl 25 (tg D) (0, 0) _ hF.box.1 Try.underlying25 rfl (tstIk hF.box.2) ?_)
            | (refine wpList_store_row rfl 25 _ _ rfl (w.heap.size + 1) (tg D) rfl rfl 25 (tg z0) hF.res (tstIk hF.box.2) (by rw [tg_size z0_len, tg_size hF.box.2]) (tg_all _) ?_))
          refine bodyPost_ret (v := .tuple #[.agg (tg D), .bool false]) ?_ rfl ⟨by rw [HS3.out, HB.out], hF.bel.setRow (by omega) _⟩
          exact results_cell_tmp Try.results27 _ _ (w.heap.size + 1) 25 (tg D) (0, 0) _ _ rfl rfl (setRow_heap _ _ _ _ _ _ hF.res) Try.underlying25 rfl (tstIk hF.box.2)
        · by_cases hn : c.n = 15
          · have hD0 : R = TS.mk c.L c.y 4 c.n c.a := by rw [HS2.out, if_pos (.inr hn)]
            have HB := Lib.hid (show B = false by rw [HW2.out, decide_eq_true (.inr hn)]; rfl)
            have hab : (c.a == 2) = false := beq_eq_false_iff_ne.2 ha
            rw [hn] at cn
            obtain ⟨D, hD⟩ : ∃ D, D = TS.mk c.L c.y 4 c.n c.a := ⟨_, rfl⟩
            have HS3 := Lib.hid (show R = D by rw [hD0, hD])
            have hF : Wy w (TS.mk c.L c.y 4 c.n c.a) (w1.setCell ⟨w.heap.size, 259, none⟩ (.int .i64 4)) := HST.out.t 4
            rw [← hD] at hF
            clear hD hD0
            go_upto_region 20 with fail
            generalize w1.setCell ⟨w.heap.size, 259, none⟩ (.int .i64 4) = w2 at hF ⊢
            go_wp2_with (first
              | (refine wpList_load_row rfl 25 _ rfl w.heap.size rfl 25 (tg D) (0, 0) _ hF.box.1 Try.underlying25 rfl (tstIk hF.box.2) ?_)
              | (refine wpList_store_row rfl 25 _ _ rfl (w.heap.size + 1) (tg D) rfl rfl 25 (tg z0) hF.res (tstIk hF.box.2) (by rw [tg_size z0_len, tg_size hF.box.2]) (tg_all _) ?_))
            refine bodyPost_ret (v := .tuple #[.agg (tg D), .bool false]) ?_ rfl ⟨by rw [HS3.out, HB.out], hF.bel.setRow (by omega) _⟩
            exact results_cell_tmp Try.results27 _ _ (w.heap.size + 1) 25 (tg D) (0, 0) _ _ rfl rfl (setRow_heap _ _ _ _ _ _ hF.res) Try.underlying25 rfl (tstIk hF.box.2)
          · have hD0 : R = TS.mk c.L c.y 4 (c.n + 1) 1 := by rw [HS2.out, if_neg (by omega)]
            have HB := Lib.hid (show B = true by rw [HW2.out, decide_eq_false (by omega)]; rfl)
            have hab : (c.a == 2) = false := beq_eq_false_iff_ne.2 ha
            have hnb : (c.n == 15) = false := beq_eq_false_iff_ne.2 hn
            obtain ⟨D, hD⟩ : ∃ D, D = TS.mk c.L c.y 4 (c.n + 1) 1 := ⟨_, rfl⟩
            have HS3 := Lib.hid (show R = D by rw [hD0, hD])
            have hF : Wy w (TS.mk c.L c.y 4 (c.n + 1) 1) (((w1.setCell ⟨w.heap.size, 259, none⟩ (.int .i64 4)).setCell ⟨w.heap.size, 260, none⟩ (.int .i64 (c.n + 1))).setCell ⟨w.heap.size, 261, none⟩ (.int .i64 1)) := ((HST.out.t 4).n (c.n + 1)).a 1
            rw [← hD] at hF
            clear hD hD0
            go_upto_region 23 with fail
            generalize (((w1.setCell ⟨w.heap.size, 259, none⟩ (.int .i64 4)).setCell ⟨w.heap.size, 260, none⟩ (.int .i64 (c.n + 1))).setCell ⟨w.heap.size, 261, none⟩ (.int .i64 1)) = w2 at hF ⊢
            go_wp2_with (first
              | (refine wpList_load_row rfl 25 _ rfl w.heap.size rfl 25 (tg D) (0, 0) _ hF.box.1 Try.underlying25 rfl (tstIk hF.box.2) ?_)
              | (refine wpList_store_row rfl 25 _ _ rfl (w.heap.size + 1) (tg D) rfl rfl 25 (tg z0) hF.res (tstIk hF.box.2) (by rw [tg_size z0_len, tg_size hF.box.2]) (tg_all _) ?_))
            refine bodyPost_ret (v := .tuple #[.agg (tg D), .bool true]) ?_ rfl ⟨by rw [HS3.out, HB.out], hF.bel.setRow (by omega) _⟩
            exact results_cell_tmp Try.results27 _ _ (w.heap.size + 1) 25 (tg D) (0, 0) _ _ rfl rfl (setRow_heap _ _ _ _ _ _ hF.res) Try.underlying25 rfl (tstIk hF.box.2)
      · obtain rfl : b = 1 := by omega
        have HS2 := Lib.hid (show R = if c.a = 1 ∨ c.n = 0 then { c with t := 4 } else { c with t := 4, n := c.n - 1, a := 2 } by rw [HS.out, if_neg h4, if_neg (by omega), if_neg hb0])
        have HW2 := Lib.hid (show B = !decide (c.a = 1 ∨ c.n = 0) by rw [HW.out, if_neg h4, if_neg (by omega), if_neg hb0])
        clear HS HW h h4 h3 hb0
        by_cases ha : c.a = 1
        · have hD0 : R = TS.mk c.L c.y 4 c.n c.a := by rw [HS2.out, if_pos (.inl ha)]
          have HB := Lib.hid (show B = false by rw [HW2.out, decide_eq_true (.inl ha)]; rfl)
          rw [ha] at ca
          obtain ⟨D, hD⟩ : ∃ D, D = TS.mk c.L c.y 4 c.n c.a := ⟨_, rfl⟩
          have HS3 := Lib.hid (show R = D by rw [hD0, hD])
          have hF : Wy w (TS.mk c.L c.y 4 c.n c.a) (w1.setCell ⟨w.heap.size, 259, none⟩ (.int .i64 4)) := HST.out.t 4
          rw [← hD] at hF
          clear hD hD0
          go_upto_region 25 with fail
          generalize w1.setCell ⟨w.heap.size, 259, none⟩ (.int .i64 4) = w2 at hF ⊢
          go_wp2_with (first
            | (refine wpList_load_row rfl 25 _ rfl w.heap.size rfl 25 (tg D) (0, 0) _ hF.box.1 Try.underlying25 rfl (tstIk hF.box.2) ?_)
            | (refine wpList_store_row rfl 25 _ _ rfl (w.heap.size + 1) (tg D) rfl rfl 25 (tg z0) hF.res (tstIk hF.box.2) (by rw [tg_size z0_len, tg_size hF.box.2]) (tg_all _) ?_))
          refine bodyPost_ret (v := .tuple #[.agg (tg D), .bool false]) ?_ rfl ⟨by rw [HS3.out, HB.out], hF.bel.setRow (by omega) _⟩
          exact results_cell_tmp Try.results27 _ _ (w.heap.size + 1) 25 (tg D) (0, 0) _ _ rfl rfl (setRow_heap _ _ _ _ _ _ hF.res) Try.underlying25 rfl (tstIk hF.box.2)
        · by_cases hn : c.n = 0
          · have hD0 : R = TS.mk c.L c.y 4 c.n c.a := by rw [HS2.out, if_pos (.inr hn)]
            have HB := Lib.hid (show B = false by rw [HW2.out, decide_eq_true (.inr hn)]; rfl)
            have hab : (c.a == 1) = false := beq_eq_false_iff_ne.2 ha
            rw [hn] at cn
            obtain ⟨D, hD⟩ : ∃ D, D = TS.mk c.L c.y 4 c.n c.a := ⟨_, rfl⟩
            have HS3 := Lib.hid (show R = D by rw [hD0, hD])
            have hF : Wy w (TS.mk c.L c.y 4 c.n c.a) (w1.setCell ⟨w.heap.size, 259, none⟩ (.int .i64 4)) := HST.out.t 4
            rw [← hD] at hF
            clear hD hD0
            go_upto_region 25 with fail
            generalize w1.setCell ⟨w.heap.size, 259, none⟩ (.int .i64 4) = w2 at hF ⊢
            go_wp2_with (first
              | (refine wpList_load_row rfl 25 _ rfl w.heap.size rfl 25 (tg D) (0, 0) _ hF.box.1 Try.underlying25 rfl (tstIk hF.box.2) ?_)
              | (refine wpList_store_row rfl 25 _ _ rfl (w.heap.size + 1) (tg D) rfl rfl 25 (tg z0) hF.res (tstIk hF.box.2) (by rw [tg_size z0_len, tg_size hF.box.2]) (tg_all _) ?_))
            refine bodyPost_ret (v := .tuple #[.agg (tg D), .bool false]) ?_ rfl ⟨by rw [HS3.out, HB.out], hF.bel.setRow (by omega) _⟩
            exact results_cell_tmp Try.results27 _ _ (w.heap.size + 1) 25 (tg D) (0, 0) _ _ rfl rfl (setRow_heap _ _ _ _ _ _ hF.res) Try.underlying25 rfl (tstIk hF.box.2)
          · have hD0 : R = TS.mk c.L c.y 4 (c.n - 1) 2 := by rw [HS2.out, if_neg (by omega)]
            have HB := Lib.hid (show B = true by rw [HW2.out, decide_eq_false (by omega)]; rfl)
            have hab : (c.a == 1) = false := beq_eq_false_iff_ne.2 ha
            have hnb : (c.n == 0) = false := beq_eq_false_iff_ne.2 hn
            obtain ⟨D, hD⟩ : ∃ D, D = TS.mk c.L c.y 4 (c.n - 1) 2 := ⟨_, rfl⟩
            have HS3 := Lib.hid (show R = D by rw [hD0, hD])
            have hF : Wy w (TS.mk c.L c.y 4 (c.n - 1) 2) (((w1.setCell ⟨w.heap.size, 259, none⟩ (.int .i64 4)).setCell ⟨w.heap.size, 260, none⟩ (.int .i64 (c.n - 1))).setCell ⟨w.heap.size, 261, none⟩ (.int .i64 2)) := ((HST.out.t 4).n (c.n - 1)).a 2
            rw [← hD] at hF
            clear hD hD0
            go_upto_region 28 with fail
            generalize (((w1.setCell ⟨w.heap.size, 259, none⟩ (.int .i64 4)).setCell ⟨w.heap.size, 260, none⟩ (.int .i64 (c.n - 1))).setCell ⟨w.heap.size, 261, none⟩ (.int .i64 2)) = w2 at hF ⊢
            go_wp2_with (first
              | (refine wpList_load_row rfl 25 _ rfl w.heap.size rfl 25 (tg D) (0, 0) _ hF.box.1 Try.underlying25 rfl (tstIk hF.box.2) ?_)
              | (refine wpList_store_row rfl 25 _ _ rfl (w.heap.size + 1) (tg D) rfl rfl 25 (tg z0) hF.res (tstIk hF.box.2) (by rw [tg_size z0_len, tg_size hF.box.2]) (tg_all _) ?_))
            refine bodyPost_ret (v := .tuple #[.agg (tg D), .bool true]) ?_ rfl ⟨by rw [HS3.out, HB.out], hF.bel.setRow (by omega) _⟩
            exact results_cell_tmp Try.results27 _ _ (w.heap.size + 1) 25 (tg D) (0, 0) _ _ rfl rfl (setRow_heap _ _ _ _ _ _ hF.res) Try.underlying25 rfl (tstIk hF.box.2)
end Go.Proofs.Ytckopdifjhjppaa
