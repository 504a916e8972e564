/- Codes and First of package canonical. -/
import Derived.Test.YtbegpakjojiblabCnN
set_option linter.unusedVariables false
set_option linter.unusedSimpArgs false
namespace Go.Proofs.Ytbegpakjojiblab
open Go.RowKit

/-- 258 numbers by a function. -/
def row258 (f : Nat → Int) : List Int := (List.range 258).map f
theorem row258_get (f : Nat → Int) (i : Nat) (hi : i < 258) : (row258 f).getD i 0 = f i := by
  simp [row258, List.getD_eq_getElem?_getD, List.getElem?_map, List.getElem?_range hi]
theorem row258_cds (f : Nat → Int) (h : ∀ i, i < 258 → 0 ≤ f i ∧ f i ≤ 100000) : Cds (row258 f) := by
  refine ⟨by simp [row258], fun z hz => ?_⟩
  obtain ⟨i, hi, rfl⟩ := List.mem_map.1 hz
  have := h i (List.mem_range.1 hi)
  exact WalkArith.wf_u32 ⟨by omega, by omega⟩
theorem row258_set (f g : Nat → Int) (i : Nat) (hi : i < 258) (z : Int) (hz : g i = z) (h : ∀ j, j < 258 → j ≠ i → g j = f j) : (row258 f).set i z = row258 g := by
  apply List.ext_getElem?
  intro j
  rw [List.getElem?_set]
  by_cases hj : j < 258
  · by_cases e : i = j
    · subst e
      simp [row258, hj, hz]
    · simp [row258, e, List.getElem?_map, List.getElem?_range hj, h j hj (fun e2 => e e2.symm)]
  · simp [row258, show 258 ≤ j by omega, show i ≠ j by omega]
theorem row258_congr (f g : Nat → Int) (h : ∀ j, j < 258 → g j = f j) : row258 f = row258 g := by
  unfold row258
  refine List.map_congr_left fun j hj => (h j (List.mem_range.1 hj)).symm
/-- The code of a symbol with a length, as it is counted. -/
def cdL (l : List Int) (s : Nat) : Int := fcL (cntT l 258) (l.getD s 0).toNat + cc l (l.getD s 0).toNat s
/-- The codes of the first k symbols, and zeros. -/
def codT (l : List Int) (k : Nat) : List Int := row258 fun s => if s < k ∧ 0 < l.getD s 0 then cdL l s else 0
/-- The next code of each length, behind k symbols. -/
def nxT (l : List Int) (k : Nat) : List Int := row16 fun i => if i = 0 then 0 else fcL (cntT l 258) i + cc l i k
theorem VL.cdL {l : List Int} (h : VL l) (s : Nat) (hs : s < 258) : 0 ≤ cdL l s ∧ cdL l s ≤ 100000 := by
  have h1 := h.small s
  have h2 := h.fcB (l.getD s 0).toNat (by omega)
  have h3 := cc_bd l (l.getD s 0).toNat s
  have h4 := cntT_get l (l.getD s 0).toNat (by omega)
  have h5 := cc_bd l (l.getD s 0).toNat 258
  unfold Proofs.Ytbegpakjojiblab.cdL
  omega
theorem codT_cds {l : List Int} (h : VL l) (k : Nat) : Cds (codT l k) := row258_cds _ fun i hi => by
  have := h.cdL i hi
  split <;> omega
theorem codT_zero (l : List Int) : codT l 0 = zC := by
  have e : codT l 0 = row258 fun _ => 0 := row258_congr _ _ fun j hj => by rw [if_neg (by omega)]
  rw [e]
  unfold row258 zC
  rw [List.map_const', List.length_range]
theorem codT_yes (l : List Int) (k : Nat) (hk : k < 258) (h0 : 0 < l.getD k 0) : (codT l k).set k (cdL l k) = codT l (k + 1) := by
  refine row258_set _ _ k hk _ (if_pos ⟨by omega, h0⟩) fun j hj hne => ?_
  by_cases h : j < k ∧ 0 < l.getD j 0
  · rw [if_pos h, if_pos ⟨by omega, h.2⟩]
  · rw [if_neg h, if_neg (by rintro ⟨a, b⟩; exact h ⟨by omega, b⟩)]
theorem codT_no (l : List Int) (k : Nat) (h0 : ¬ 0 < l.getD k 0) : codT l k = codT l (k + 1) := by
  refine row258_congr _ _ fun j hj => ?_
  by_cases h : j < k ∧ 0 < l.getD j 0
  · rw [if_pos h, if_pos ⟨by omega, h.2⟩]
  · rw [if_neg h, if_neg]
    rintro ⟨a, b⟩
    by_cases e : j = k
    · subst e; exact h0 b
    · exact h ⟨by omega, b⟩
theorem nxT_fst {l : List Int} (h : VL l) (k : Nat) (hk : k ≤ 258) : Fst (nxT l k) := row16_fst _ fun i hi => by
  have h2 := h.fcB i hi
  have h4 := cntT_get l i hi
  have h3 := cc_bd l i k
  have h5 := h.fc hi
  have h6 := fcL_nat h.lng.1 i (by omega)
  split <;> omega
theorem nxT_zero (l : List Int) : fstT (cntT l 258) 16 = nxT l 0 := by
  rw [fstT_all]
  refine row16_congr _ _ fun j hj => ?_
  rw [cc_zero]
  by_cases h : j = 0
  · subst h
    rfl
  · rw [if_neg h, Int.add_zero]
theorem nxT_get (l : List Int) (k i : Nat) (hi : i < 16) (h0 : 0 < i) : (nxT l k).getD i 0 = fcL (cntT l 258) i + cc l i k := by
  rw [nxT, row16_get _ i hi, if_neg (by omega)]
theorem nxT_yes (l : List Int) (k v : Nat) (hk : k < l.length) (hv : v < 16) (h0 : 0 < v) (e : l.getD k 0 = (v : Int)) : (nxT l k).set v (fcL (cntT l 258) v + cc l v k + 1) = nxT l (k + 1) := by
  refine row16_set _ _ v hv _ ?_ fun j hj hne => ?_
  · rw [if_neg (by omega), cc_step l v k hk, if_pos e, Int.add_assoc]
  · by_cases h : j = 0
    · rw [if_pos h, if_pos h]
    · rw [if_neg h, if_neg h, cc_step l j k hk, if_neg (by omega), Int.add_zero]
theorem nxT_no (l : List Int) (k : Nat) (hk : k < l.length) (e : ¬ 0 < l.getD k 0) : nxT l k = nxT l (k + 1) := by
  refine row16_congr _ _ fun j hj => ?_
  by_cases h : j = 0
  · rw [if_pos h, if_pos h]
  · rw [if_neg h, if_neg h, cc_step l j k hk, if_neg (by omega), Int.add_zero]
/-- What Codes returns. -/
def codR (l : List Int) : List Int := if ks l ≤ 32768 then codT l 258 else zC
def codE (l : List Int) : Int := if ks l ≤ 32768 then 0 else 2
theorem codR_cds {l : List Int} (h : Lng l) : Cds (codR l) := by
  unfold codR
  split
  · rename_i h1
    exact codT_cds ⟨h, h1⟩ 258
  · exact zC_cds

theorem results_cell_tmp {P : Program} {fn : Func} {p q : Tmp} {ty : TypeId} (h : fn.results = #[.cell p ty, .tmp q]) (tmps : Array Value) (w : World) (g : Nat) (t : TypeId) (cs : Array Value) (fr : Nat × Nat) (d : TypeDesc) (v : Value)
    (hp : tmps.getD p undef = .pointer (some ⟨g, 0, none⟩)) (hq : tmps.getD q undef = v) (hg : w.heap[g]? = some (.cells cs t fr))
    (hu : P.underlying ty = some d) (hd : (match d with | .struct _ | .array _ _ => true | _ => false) = true) (hi : (P.info? ty).map (·.size) = some cs.size) :
    (results fn tmps).run P w = .ok (.tuple #[.agg cs, v]) w := by
  have hp' : tmps[p]?.getD undef = .pointer (some ⟨g, 0, none⟩) := by simpa using hp
  have hq' : tmps[q]?.getD undef = v := by simpa using hq
  simp [results, h, hp', hq', asAddr, run_loadVar_row w g t ty cs fr d hg hu hd hi]
theorem Src.get {w : World} {k : IntKind} {sp : Option Addr} {l : List Int} (h : Src w k sp l) {j : Nat} (hj : j < l.length) : ∃ g o, sp = some ⟨g, o, none⟩ ∧ w.cell? ⟨g, o + j, none⟩ = some (.int k (l.getD j 0)) := by
  rcases h with rfl | ⟨g, o, hx, hc⟩
  · simp at hj
  · exact ⟨g, o, hx, hc j hj⟩
/-- While the codes are given. -/
structure Cg (w : World) (g4 g5 : Nat) (c f : List Int) (wr : World) : Prop where
  res : wr.heap[w.heap.size + 1]? = some (.cells (cl zC) 50 (0, 0))
  cod : wr.heap[g4]? = some (.cells (cl c) 50 (0, 0))
  nxt : wr.heap[g5]? = some (.cells (fl f) 62 (0, 0))
  l4 : w.heap.size + 1 < g4
  l5 : g4 < g5
  bel : Below w.heap.size w wr
theorem Cg.set4 {w wr : World} {g4 g5 : Nat} {c f : List Int} (h : Cg w g4 g5 c f wr) (v : Nat) (z : Int) : Cg w g4 g5 (c.set v z) f (wr.setCell ⟨g4, v, none⟩ (.int .u32 z)) :=
  ⟨by rw [heap_setCell_other _ _ _ _ (by have := h.l4; simp only; omega)]; exact h.res, by rw [heap_setCell_same _ _ _ _ _ _ h.cod, cl_set], by rw [heap_setCell_other _ _ _ _ (by have := h.l5; simp only; omega)]; exact h.nxt, h.l4, h.l5, h.bel.setCell (by have := h.l4; simp only; omega) _⟩
theorem Cg.set5 {w wr : World} {g4 g5 : Nat} {c f : List Int} (h : Cg w g4 g5 c f wr) (v : Nat) (z : Int) : Cg w g4 g5 c (f.set v z) (wr.setCell ⟨g5, v, none⟩ (.int .u32 z)) :=
  ⟨by rw [heap_setCell_other _ _ _ _ (by have := h.l4; have := h.l5; simp only; omega)]; exact h.res, by rw [heap_setCell_other _ _ _ _ (by have := h.l5; simp only; omega)]; exact h.cod, by rw [heap_setCell_same _ _ _ _ _ _ h.nxt, fl_set], h.l4, h.l5, h.bel.setCell (by have := h.l4; have := h.l5; simp only; omega) _⟩

set_option maxRecDepth 100000 in
set_option maxHeartbeats 1000000 in
theorem codes_call (l : List Int) (h : Lng l) (w : World) :
    Calls Try.prog 15 #[.agg (lg l)] w fun e w' => e = .returned (.tuple #[.agg (cl (codR l)), .int .i64 (codE l)]) ∧ Below w.heap.size w w' := by
  have hz := cdsZ
  go_enter Try.func15, Try.ntmps15
  go_upto_region 1 with fail
  have hg := heap_alloc2_old w (.cells (lg l) 23) (.cells (cl zC) 50)
  have hg2 := heap_alloc2_new w (.cells (lg l) 23) (.cells (cl zC) 50)
  have hb : Below w.heap.size w ((w.alloc (.cells (lg l) 23)).alloc (.cells (cl zC) 50)) := ((Below.refl _ _).alloc (Nat.le_refl _) _).alloc (by simp) _
  generalize (w.alloc (.cells (lg l) 23)).alloc (.cells (cl zC) 50) = w1 at hg hg2 hb ⊢
  have hvc := valid_call l h w1
  by_cases hv : ks l ≤ 32768
  · have HV : VL l := ⟨h, hv⟩
    have HSR := Lib.hid (show codR l = codT l 258 from if_pos hv)
    have HSE := Lib.hid (show codE l = 0 from if_pos hv)
    rw [decide_eq_true hv] at hvc
    clear hv
    go_upto_region 3 with (first
      | (refine wpList_load_row rfl 23 _ rfl w.heap.size rfl 23 (lg l) (0, 0) _ hg Try.underlying23 rfl (lngIk h) ?_)
      | (refine hvc.mono ?_; rintro e w2 ⟨rfl, hb2⟩))
    have hg3 := heap_on hb2 hg
    have hr3 := heap_on hb2 hg2
    have HB2 := Lib.hid (hb.trans (hb2.mono hb.size))
    have HR3 := Lib.hid hr3
    clear hb2 hvc hb hg hg2 hr3
    have hcc := counts_call l h
    have hfc := firsts_call (cntT l 258) (cntT_sxt l 258 (by omega)) HV.fcB
    rw [nxT_zero] at hfc
    generalize cntT l 258 = C at hcc hfc
    have hzf := fstZ
    go_upto_region 4 with fail
    have hg4 := heap_on ((Below.refl _ w2).alloc (Nat.le_refl _) (.cells (cl zC) 50)) hg3
    have hc4 := heap_alloc_last w2 (.cells (cl zC) 50)
    have HR4 := Lib.hid (heap_on ((Below.refl _ w2).alloc (Nat.le_refl _) (.cells (cl zC) 50)) HR3.out)
    have HB4 := Lib.hid (HB2.out.alloc HB2.out.size (.cells (cl zC) 50))
    have HLT := Lib.hid (show w.heap.size + 1 < w2.heap.size from (Array.getElem?_eq_some_iff.1 HR3.out).1)
    obtain ⟨g4, hg4e⟩ : ∃ g4, g4 = w2.heap.size := ⟨_, rfl⟩
    rw [← hg4e] at hc4 HLT ⊢
    clear hg4e
    generalize w2.alloc (.cells (cl zC) 50) = w3 at hg4 hc4 HR4 HB4 ⊢
    have HC4 := Lib.hid hc4
    clear hc4 hg3
    have hfN := nxT_fst HV 0 (by omega)
    go_upto_region 5 with (first
      | (refine wpList_load_row rfl 23 _ rfl w.heap.size rfl 23 (lg l) (0, 0) _ hg4 Try.underlying23 rfl (lngIk h) ?_)
      | (with_reducible refine (hcc _).mono ?_; rintro e w5 ⟨rfl, hb5⟩)
      | (with_reducible refine (hfc _).mono ?_; rintro e w6 ⟨rfl, hb6⟩)
      | (refine wpList_store_row rfl 62 _ _ rfl w6.heap.size (fl (nxT l 0)) rfl rfl 62 (fl zF) (heap_alloc_last w6 _) (fstIk hfN) (by rw [fl_size zF_fst, fl_size hfN]) (fl_all _) ?_))
    rw [World.setRow_alloc_new]
    simp only [Act.put]
    have hb56 := hb5.trans (hb6.mono hb5.size)
    have hb7 := hb56.alloc (o := .cells (fl (nxT l 0)) 62) hb56.size
    have hg7 := heap_on hb7 hg4
    have hCG : Cg w g4 w6.heap.size (codT l 0) (nxT l 0) (w6.alloc (.cells (fl (nxT l 0)) 62)) :=
      ⟨heap_on hb7 HR4.out, by rw [codT_zero]; exact heap_on hb7 HC4.out, heap_alloc_last w6 _, HLT.out, Nat.lt_of_lt_of_le (Array.getElem?_eq_some_iff.1 HC4.out).1 hb56.size, HB4.out.trans (hb7.mono HB4.out.size)⟩
    obtain ⟨g5, hg5⟩ : ∃ g5, g5 = w6.heap.size := ⟨_, rfl⟩
    rw [← hg5] at hCG ⊢
    clear hg5 hb56 hb5 hb6 hb7 hg4
    generalize w6.alloc (.cells (fl (nxT l 0)) 62) = w7 at hCG hg7 ⊢
    have HCG := Lib.hid hCG
    clear hCG hcc hfc hzf hz
    go_wp2_with (refine wpList_load_row rfl 23 _ rfl w.heap.size rfl 23 (lg l) (0, 0) _ hg7 Try.underlying23 rfl (lngIk h) ?_)
    go_loopw [16] (fun i wr => ∃ k : Nat, k ≤ 258 ∧ i = .int .i64 k ∧ Cg w g4 g5 (codT l k) (nxT l k) wr) (fun i _ => 258 - (intOf i).toNat)
    case atStart => exact ⟨0, by omega, rfl, HCG.out⟩
    case round =>
      obtain ⟨k, hk, rfl, hm⟩ := hrel
      have HM := Lib.hid hm
      by_cases hlt : k < 258
      · have hix := fun w => run_index_lng w h k hlt
        have hbd := h.bd k
        have hsm := HV.small k
        have HY := Lib.hid (codT_yes l k hlt)
        have HN := Lib.hid (codT_no l k)
        have HXN := Lib.hid (nxT_no l k (by rw [h.1]; exact hlt))
        have HXY := Lib.hid (fun v (hv : v < 16) (h0 : 0 < v) e => nxT_yes l k v (by rw [h.1]; exact hlt) hv h0 e)
        have HCD := Lib.hid (show cdL l k = fcL (cntT l 258) (l.getD k 0).toNat + cc l (l.getD k 0).toNat k from rfl)
        have hcb := HV.cdL k hlt
        have HXG := Lib.hid (fun v (hv : v < 16) (h0 : 0 < v) => nxT_get l k v hv h0)
        have hnf := nxT_fst HV k hk
        generalize l.getD k 0 = V at hix hbd hsm HY HN HXN HXY HCD
        obtain ⟨v, rfl⟩ : ∃ v : Nat, V = v := ⟨V.toNat, by omega⟩
        rw [Int.toNat_natCast] at HCD
        by_cases hv0 : 0 < v
        · have hv16 : v < 16 := by omega
          have c5 := fl_cell hm.nxt hnf v hv16
          rw [HXG.out v hv16 hv0, ← HCD.out] at c5
          have c4 := cl_cell hm.cod (codT_cds HV k) k hlt
          have f4 : wr.frozen? ⟨g4, k, none⟩ = false := frozen_of_row wr g4 k _ _ hm.cod
          have f5 : wr.frozen? ⟨g5, v, none⟩ = false := frozen_of_row wr g5 v _ _ hm.nxt
          have hne : g4 ≠ g5 := by have := hm.l5; omega
          have hne2 : g5 ≠ g4 := by have := hm.l5; omega
          have HE1 := Lib.hid (HY.out (by omega))
          have HE2 := Lib.hid (HXY.out v hv16 hv0 rfl)
          rw [← HCD.out] at HE2
          generalize (codT l k).getD k 0 = Z at c4
          generalize cdL l k = X at c5 hcb HE1 HE2
          clear hm HY HN HXN HXY HCD HXG hnf
          go_wp2_with fail
          exact ⟨⟨k + 1, by omega, by go_num, HE1.out ▸ HE2.out ▸ (HM.out.set4 k X).set5 v (X + 1)⟩, by simp [intOf]; omega⟩
        · have HE1 := Lib.hid (HN.out (by omega))
          have HE2 := Lib.hid (HXN.out (by omega))
          clear hm HY HN HXN HXY HCD HXG hnf
          go_wp2_with fail
          exact ⟨⟨k + 1, by omega, by go_num, HE1.out ▸ HE2.out ▸ HM.out⟩, by simp [intOf]; omega⟩
      · obtain rfl : k = 258 := by omega
        have hc : Cds (codT l 258) := codT_cds HV 258
        have hg3 := hm.cod
        clear hm
        obtain ⟨c, hc0⟩ : ∃ c, c = codT l 258 := ⟨_, rfl⟩
        rw [← hc0] at hg3 HM hc HSR
        clear hc0
        go_wp2_with (first
          | (refine wpList_load_row rfl 50 _ rfl g4 rfl 50 (cl c) (0, 0) _ hg3 Try.underlying50 rfl (cdsIk hc) ?_)
          | (refine wpList_store_row rfl 50 _ _ rfl (w.heap.size + 1) (cl c) rfl rfl 50 (cl zC) HM.out.res (cdsIk hc) (by rw [cl_size zC_cds, cl_size hc]) (cl_all _) ?_))
        refine bodyPost_ret (v := .tuple #[.agg (cl c), .int .i64 0]) ?_ rfl ⟨by rw [HSR.out, HSE.out], HM.out.bel.setRow (by omega) _⟩
        exact results_cell_tmp Try.results15 _ _ (w.heap.size + 1) 50 (cl c) (0, 0) _ _ rfl rfl (setRow_heap _ _ _ _ _ _ HM.out.res) Try.underlying50 rfl (cdsIk hc)
  · have HSR := Lib.hid (show codR l = zC from if_neg hv)
    have HSE := Lib.hid (show codE l = 2 from if_neg hv)
    rw [decide_eq_false hv] at hvc
    clear hv
    go_wp2_with (first
      | (refine wpList_load_row rfl 23 _ rfl w.heap.size rfl 23 (lg l) (0, 0) _ hg Try.underlying23 rfl (lngIk h) ?_)
      | (refine hvc.mono ?_; rintro e w2 ⟨rfl, hb2⟩
         have hg3 := heap_on hb2 hg2)
      | (refine wpList_store_row rfl 50 _ _ rfl (w.heap.size + 1) (cl zC) rfl rfl 50 (cl zC) hg3 cdsI rfl (cl_all _) ?_))
    refine bodyPost_ret (v := .tuple #[.agg (cl zC), .int .i64 2]) ?_ rfl ⟨by rw [HSR.out, HSE.out], (hb.trans (hb2.mono hb.size)).setRow (by omega) _⟩
    exact results_cell_tmp Try.results15 _ _ (w.heap.size + 1) 50 (cl zC) (0, 0) _ _ rfl rfl (setRow_heap _ _ _ _ _ _ hg3) Try.underlying50 rfl cdsI
end Go.Proofs.Ytbegpakjojiblab
