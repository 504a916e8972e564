/- The developers' next, Step (gengc.py). -/
import Derived.Test.YtbegpakjojiblabPgB
set_option linter.unusedVariables false
set_option linter.unusedSimpArgs false
namespace Go.Proofs.Ytbegpakjojiblab
open Go.RowKit

theorem or_bit64 (v x : Int) (hv : 0 ≤ v) (hv' : v < 1000000) (hx : x = 0 ∨ x = 1) : bits .or .i64 (v * 2) x = 2 * v + x := by
  obtain ⟨V, rfl⟩ := Int.eq_ofNat_of_zero_le hv
  obtain ⟨X, rfl⟩ : ∃ X : Nat, x = (X : Int) := ⟨x.toNat, by omega⟩
  have h3 := Nat.two_pow_add_eq_or_of_lt (show X < 2 ^ 1 by omega) V
  show IntKind.i64.wrap ((BitVec.ofInt 64 ((V : Int) * 2) ||| BitVec.ofInt 64 (X : Int)).toNat : Int) = _
  have h1 : (BitVec.ofInt 64 ((V : Int) * 2)).toNat = 2 ^ 1 * V := by
    rw [BitVec.toNat_ofInt]
    omega
  have h2 : (BitVec.ofInt 64 (X : Int)).toNat = X := by
    rw [BitVec.toNat_ofInt]
    omega
  rw [BitVec.toNat_or, h1, h2, ← h3, IntKind.wrap_i64]
  omega
theorem results_cell_tmp2 {P : Program} {fn : Func} {p q r : Tmp} {ty : TypeId} (h : fn.results = #[.cell p ty, .tmp q, .tmp r]) (tmps : Array Value) (w : World) (g : Nat) (t : TypeId) (cs : Array Value) (fr : Nat × Nat) (d : TypeDesc) (v u : Value)
    (hp : tmps.getD p undef = .pointer (some ⟨g, 0, none⟩)) (hq : tmps.getD q undef = v) (hr : tmps.getD r undef = u) (hg : w.heap[g]? = some (.cells cs t fr))
    (hu : P.underlying ty = some d) (hd : (match d with | .struct _ | .array _ _ => true | _ => false) = true) (hi : (P.info? ty).map (·.size) = some cs.size) :
    (results fn tmps).run P w = .ok (.tuple #[.agg cs, v, u]) w := by
  have hp' : tmps[p]?.getD undef = .pointer (some ⟨g, 0, none⟩) := by simpa using hp
  have hq' : tmps[q]?.getD undef = v := by simpa using hq
  have hr' : tmps[r]?.getD undef = u := by simpa using hr
  simp [results, h, hp', hq', hr', asAddr, run_loadVar_row w g t ty cs fr d hg hu hd hi]
theorem exec_build {P : Program} {ev : Operand → Value} {o : Oper} (t : TypeId) (parts : Array (Nat × Operand)) (ho : o.op = .build t parts)
    (vals : Array (Nat × Value)) (v : Value) (hr : ∀ W, (Instr.build t vals).run P W = .ok v W) (hv : (parts.toList.map fun (i, x) => (i, ev x)) = vals.toList) (W : World) : (execOp ev o).run P W = .ok (.value v) W := by
  unfold execOp
  simp only [ho, Sem.run_bind]
  have hv2 : (parts.map fun (i, x) => (i, ev x)) = vals := by
    apply Array.toList_inj.1
    rw [Array.toList_map]
    exact hv
  rw [hv2, hr W]
  rfl
/-- What a valid state's next one is. -/
theorem next_is {l : List Int} (h : TL l) {c : Int} {n : Nat} (hv : valC l c n = true) {b : Int} (hb : b = 0 ∨ b = 1) :
    n ≤ 14 ∧ 0 ≤ whL (cntT l 258) n ∧ whL (cntT l 258) n ≤ c ∧ c < 16384 ∧ cc l (n + 1) 258 = (cntT l 258).getD (n + 1) 0 ∧
    ((∃ s : Nat, s < 258 ∧ 2 * c + b - whL (cntT l 258) n * 2 < (cntT l 258).getD (n + 1) 0 ∧ l.getD s 0 = ((n + 1 : Nat) : Int) ∧ cc l (n + 1) s = 2 * c + b - whL (cntT l 258) n * 2 ∧ stC l c n b = (0, 0, (s : Int), true)) ∨
     (¬ 2 * c + b - whL (cntT l 258) n * 2 < (cntT l 258).getD (n + 1) 0 ∧ stC l c n b = (2 * c + b, (n : Int) + 1, 0, false))) := by
  have hn : n ≤ 14 := by
    unfold valC at hv
    simp only [Bool.and_eq_true, decide_eq_true_iff] at hv
    omega
  have h1 := val_wh h (c := c) (n := (n : Int)) (by omega) (by omega)
  rw [hv, Int.toNat_natCast] at h1
  have h2 := h1.symm
  rw [Bool.and_eq_true, decide_eq_true_iff, decide_eq_true_iff] at h2
  have hp : 2 ^ n ≤ 16384 := Nat.le_trans (Nat.pow_le_pow_right (by omega) hn) (by decide)
  have hcc := cntT_get l (n + 1) (by omega)
  have hw := wh_bd h.vl n (by omega)
  refine ⟨hn, hw.1, h2.1, by omega, hcc.symm, ?_⟩
  by_cases hlt : 2 * c + b - whL (cntT l 258) n * 2 < (cntT l 258).getD (n + 1) 0
  · left
    obtain ⟨s, s1, s2, s3, s4⟩ := fnd_yes h.vl (n := n) (c := 2 * c + b) (by omega) (by omega)
    exact ⟨s, s1, hlt, s3, s2, stC_some hv hb (by rw [show ((n : Int) + 1) = ((n + 1 : Nat) : Int) by omega]; exact s4)⟩
  · right
    have h4 := fnd_no h.vl (n := n) (c := 2 * c + b) (by omega)
    exact ⟨hlt, stC_none hv hb (by rw [show ((n : Int) + 1) = ((n + 1 : Nat) : Int) by omega]; exact h4)⟩

set_option maxRecDepth 100000 in
set_option maxHeartbeats 4000000 in
theorem next_call (l : List Int) (h : TL l) (c : Int) (n : Nat) (hv : valC l c n = true) (b : Int) (hb : b = 0 ∨ b = 1) (w : World) :
    Calls Try.prog 19 #[.agg (sg l c n), .agg (xl (cntT l 258)), .int .i64 b] w fun e w' => e = .returned (.tuple #[.agg (sg l (stC l c n b).1 (stC l c n b).2.1), .int .i64 (stC l c n b).2.2.1, .bool (stC l c n b).2.2.2]) ∧ Below w.heap.size w w' := by
  have hl := h.lng
  obtain ⟨hn, hx0, hxc, hc1, hcc, hcase⟩ := next_is h hv hb
  have HWC := Lib.hid (fun W => whole_call l h.vl n hn W)
  have HSA := Lib.hid (fun (s : Nat) (hs : s < 258) (e : l.getD s 0 = ((n + 1 : Nat) : Int)) W => symat_call l hl (n + 1) s hs (by omega) e W)
  have hS := cntT_sxt l 258 (by omega)
  have hz := stZ
  have hsz := sg_size zL_lng 0 0
  have hbs := (h.vl.fcB (n + 1) (by omega)).1
  have hcb := cc_bd l (n + 1) 258
  clear h
  obtain ⟨c2, m2, s2, dn, hst⟩ : ∃ c2 m2 s2 dn, stC l c n b = (c2, m2, s2, dn) := ⟨_, _, _, _, rfl⟩
  rw [hst] at hcase ⊢
  generalize cntT l 258 = ct at hx0 hxc hcase HWC hS hcc hbs ⊢
  generalize whL ct n = X at hx0 hxc hcase HWC
  have HCASE := Lib.hid hcase
  clear hcase
  have hor := or_bit64 c b (by omega) (by omega) hb
  have hb2 : 0 ≤ b ∧ b ≤ 1 := by omega
  clear hst hb hv
  go_enter Try.func19, Try.ntmps19
  go_upto_region 1 with fail
  have hw0 : ((w.alloc (.cells (sg l c n) 34)).alloc (.cells (xl ct) 53)).heap.size = w.heap.size + 2 := by simp
  have HG := Lib.hid (heap_on (below_al ((w.alloc (.cells (sg l c n) 34)).alloc (.cells (xl ct) 53)) (.cells (sg zL 0 0) 34)) (heap_alloc2_old w (.cells (sg l c n) 34) (.cells (xl ct) 53)))
  have HT := Lib.hid (heap_on (below_al ((w.alloc (.cells (sg l c n) 34)).alloc (.cells (xl ct) 53)) (.cells (sg zL 0 0) 34)) (heap_alloc2_new w (.cells (sg l c n) 34) (.cells (xl ct) 53)))
  have hr := heap_alloc_last ((w.alloc (.cells (sg l c n) 34)).alloc (.cells (xl ct) 53)) (.cells (sg zL 0 0) 34)
  rw [hw0] at hr
  have HR := Lib.hid hr
  have HB := Lib.hid (show Below w.heap.size w (((w.alloc (.cells (sg l c n) 34)).alloc (.cells (xl ct) 53)).alloc (.cells (sg zL 0 0) 34)) from (((Below.refl _ _).alloc (Nat.le_refl _) _).alloc (by simp) _).alloc (by simp; omega) _)
  clear hr hw0 hz
  generalize ((w.alloc (.cells (sg l c n) 34)).alloc (.cells (xl ct) 53)).alloc (.cells (sg zL 0 0) 34) = w1 at HG HT HR HB ⊢
  have hcl := sg_cells HG.out hl
  have hT := HT.out
  go_upto_region 2 with (first
    | (refine wpList_load_row rfl 53 _ rfl (w.heap.size + 1) rfl 53 (xl ct) (0, 0) _ hT Try.underlying53 rfl (sxtIk hS) ?_)
    | ((with_reducible refine (HWC.out _).mono ?_)
       rintro e w2 ⟨rfl, hb2b⟩
       have HG2 := Lib.hid (heap_on hb2b HG.out)
       have HT2 := Lib.hid (heap_on hb2b HT.out)
       have HR2 := Lib.hid (heap_on hb2b HR.out)
       have HB2 := Lib.hid (HB.out.trans (hb2b.mono HB.out.size))
       clear hb2b))
  clear hcl hT HG HT HR HB HWC
  have hcl := sg_cells HG2.out hl
  have hw1 : IntKind.i64.wrap (c * 2) = c * 2 := by rw [IntKind.wrap_i64]; omega
  have hw2 : IntKind.i64.wrap ((n : Int) + 1) = (n : Int) + 1 := by rw [IntKind.wrap_i64]; omega
  go_quiet (fail)
  rename_i nq
  have HG3 := Lib.hid (show (w2.drewN nq).heap[w.heap.size]? = _ from HG2.out)
  have HT3 := Lib.hid (show (w2.drewN nq).heap[w.heap.size + 1]? = _ from HT2.out)
  have HR3 := Lib.hid (show (w2.drewN nq).heap[w.heap.size + 2]? = _ from HR2.out)
  have HB3 := Lib.hid (HB2.out.drewN nq)
  clear HG2 HT2 HR2 HB2
  generalize w2.drewN nq = w3 at HG3 HT3 HR3 HB3 ⊢
  have hni : ((n : Int) + 1) = ((n + 1 : Nat) : Int) := by omega
  obtain ⟨C2, hC2⟩ : ∃ C2, C2 = 2 * c + b := ⟨_, rfl⟩
  rw [← hC2] at HCASE ⊢
  have hC2b : 0 ≤ C2 - X * 2 ∧ C2 - X * 2 ≤ 100000 ∧ 0 ≤ C2 ∧ C2 ≤ 100000 := by omega
  have hw3 : IntKind.i64.wrap (C2 - X * 2) = C2 - X * 2 := by rw [IntKind.wrap_i64]; omega
  clear hC2 hor hw1 hcl
  have hct := xl_cell HT3.out hS (n + 1) (by omega)
  generalize ct.getD (n + 1) 0 = CN at HCASE hct hbs hcc
  rcases HCASE.out with ⟨s, hs, hlt, hls, hccs, hstc⟩ | ⟨hge, hstc⟩
  · have hdg : decide (CN ≤ C2 - X * 2) = false := decide_eq_false (by omega)
    injection hstc with e1 e2
    injection e2 with e2 e3
    injection e3 with e3 e4
    have e1 := e1.symm
    have e2 := e2.symm
    have e3 := e3.symm
    have e4 := e4.symm
    subst e1 e2 e3 e4
    have hsa := HSA.out s hs hls
    rw [hccs, ← hni] at hsa
    have HSY := Lib.hid hsa
    clear hsa hs hls hccs HSA HCASE hlt hbs hcc hcb
    have hs0 := sg_size hl 0 0
    clear hni
    go_upto_region 5 with fail
    refine wp_region_noPanic ?_
    refine wp_region_held_drew (S := fun W => W.heap[w.heap.size]? = some (.cells (sg l c n) 34 (0, 0)) ∧ Below w.heap.size w W) (by kernel_rfl) ⟨HG3.out, HB3.out.drew⟩ (fun hHeld => ?_)
    refine wpAnyH_take (i := 0) (v := ?_) rfl (by kernel_rfl) (by kernel_rfl) (by kernel_rfl) (fun _ _ _ h => h) (Or.inl ⟨by rfl, ?_⟩) (by assumption) ?_
    rotate_left
    · (intro W hSw; go_simp) <;> with_reducible rfl
    try simp only [Act.put, List.getElem_toArray, List.getElem_cons_succ, List.getElem_cons_zero, List.setIfInBounds_toArray, List.set_cons_zero, List.set_cons_succ]
    refine wpAnyH_take (i := 1) (v := .agg (lg l)) rfl (by kernel_rfl) (by kernel_rfl) (by kernel_rfl) (fun _ _ _ h => h) (yieldsIf_load_mid rfl 23 _ rfl w.heap.size 0 rfl (lg l).toList _ (fun W hW => sg_range hW.1 hl) Try.underlying23 rfl (by rw [Array.length_toList]; exact lngIk hl)) (by assumption) ?_
    try simp only [Act.put, List.getElem_toArray, List.getElem_cons_succ, List.getElem_cons_zero, List.setIfInBounds_toArray, List.set_cons_zero, List.set_cons_succ]
    refine wpAnyH_take (i := 2) (v := .agg (sg l 0 0)) rfl (by kernel_rfl) (by kernel_rfl) (by kernel_rfl) (fun _ _ _ h => h) (Or.inl ⟨by rfl, fun W hSw => ?_⟩) (by assumption) ?_
    · exact exec_build 34 #[(0, .tmp 38)] rfl _ _ (fun W => build_l W hl) rfl _
    try simp only [Act.put, List.getElem_toArray, List.getElem_cons_succ, List.getElem_cons_zero, List.setIfInBounds_toArray, List.set_cons_zero, List.set_cons_succ]
    refine wpAnyH_take (i := 3) (v := ?_) rfl (by kernel_rfl) (by kernel_rfl) (by kernel_rfl) (fun _ _ _ h => h) (Or.inl ⟨by rfl, ?_⟩) (by assumption) ?_
    rotate_left
    · (intro W hSw; go_simp) <;> with_reducible rfl
    try simp only [Act.put, List.getElem_toArray, List.getElem_cons_succ, List.getElem_cons_zero, List.setIfInBounds_toArray, List.set_cons_zero, List.set_cons_succ]
    refine wpAnyH_take (i := 4) (v := .agg (lg l)) rfl (by kernel_rfl) (by kernel_rfl) (by kernel_rfl) (fun _ _ _ h => h) (yieldsIf_load_mid rfl 23 _ rfl w.heap.size 0 rfl (lg l).toList _ (fun W hW => sg_range hW.1 hl) Try.underlying23 rfl (by rw [Array.length_toList]; exact lngIk hl)) (by assumption) ?_
    try simp only [Act.put, List.getElem_toArray, List.getElem_cons_succ, List.getElem_cons_zero, List.setIfInBounds_toArray, List.set_cons_zero, List.set_cons_succ]
    refine wpAnyH_take (i := 5) (v := ?_) rfl (by kernel_rfl) (by kernel_rfl) (by kernel_rfl) (fun _ _ _ h => h) (Or.inl ⟨by rfl, ?_⟩) (by assumption) ?_
    rotate_left
    · (intro W hSw; go_simp) <;> with_reducible rfl
    try simp only [Act.put, List.getElem_toArray, List.getElem_cons_succ, List.getElem_cons_zero, List.setIfInBounds_toArray, List.set_cons_zero, List.set_cons_succ]
    refine wpAnyH_take (i := 6) (v := ?_) rfl (by kernel_rfl) (by kernel_rfl) (by kernel_rfl) (fun _ _ _ h => h) (Or.inl ⟨by rfl, ?_⟩) (by assumption) ?_
    rotate_left
    · (intro W hSw; go_simp) <;> with_reducible rfl
    try simp only [Act.put, List.getElem_toArray, List.getElem_cons_succ, List.getElem_cons_zero, List.setIfInBounds_toArray, List.set_cons_zero, List.set_cons_succ]
    refine wpAnyH_take (i := 7) (v := ?_) rfl (by kernel_rfl) (by kernel_rfl) (by kernel_rfl) (fun _ _ _ h => h) (Or.inl ⟨by rfl, ?_⟩) (by assumption) ?_
    rotate_left
    · (intro W hSw; go_simp) <;> with_reducible rfl
    try simp only [Act.put, List.getElem_toArray, List.getElem_cons_succ, List.getElem_cons_zero, List.setIfInBounds_toArray, List.set_cons_zero, List.set_cons_succ]
    refine wpAnyH_take (i := 8) (v := ?_) rfl (by kernel_rfl) (by kernel_rfl) (by kernel_rfl) (fun _ _ _ h => h) (Or.inl ⟨by rfl, ?_⟩) (by assumption) ?_
    rotate_left
    · (intro W hSw; go_simp) <;> with_reducible rfl
    try simp only [Act.put, List.getElem_toArray, List.getElem_cons_succ, List.getElem_cons_zero, List.setIfInBounds_toArray, List.set_cons_zero, List.set_cons_succ]
    refine wpAnyH_ready (rs := [9]) (by kernel_rfl) (by simp) ?_
    refine AllReadyH.cons (o := _) rfl (fun K hK => ?_) (AllReadyH.nil)
    go_simp
    go_at_call 26
    refine (HSY.out _).mono ?_
    rintro e w5 ⟨rfl, hb5⟩
    have hr5 := heap_on hb5 (show w3.drew.heap[w.heap.size + 2]? = _ from HR3.out)
    refine hK.out _ _ ⟨heap_on hb5 hHeld.1, hHeld.2.trans (hb5.mono hHeld.2.size)⟩ (fun hHeldN => ?_)
    clear hK K hHeld
    have hHeld := hHeldN
    clear hHeldN
    try simp only [Act.put, List.getElem_toArray, List.getElem_cons_succ, List.getElem_cons_zero, List.setIfInBounds_toArray, List.set_cons_zero, List.set_cons_succ]
    refine wpAnyH_ready (rs := [10]) (by kernel_rfl) (by simp) ?_
    refine AllReadyH.cons (o := _) rfl (fun K hK => ?_) (AllReadyH.nil)
    rw [if_pos (by rfl)]
    refine wp_store_row 34 _ _ rfl (w.heap.size + 2) (sg l 0 0) rfl rfl 34 (sg zL 0 0) hr5 (stIk hl 0 0) (by rw [hsz, hs0]) (sg_all _ _ _) ?_
    refine hK.out _ _ ⟨(setRow_other _ _ _ _ (by omega)).trans hHeld.1, hHeld.2.setRow (by omega) _⟩ (fun hHeldN => ?_)
    clear hK K hHeld
    have hHeld := hHeldN
    clear hHeldN
    try simp only [Act.put, List.getElem_toArray, List.getElem_cons_succ, List.getElem_cons_zero, List.setIfInBounds_toArray, List.set_cons_zero, List.set_cons_succ]
    refine wpAnyH_take (i := 11) (v := ?_) rfl (by kernel_rfl) (by kernel_rfl) (by kernel_rfl) (fun _ _ _ h => h) (Or.inl ⟨by rfl, ?_⟩) (by assumption) ?_
    rotate_left
    · (intro W hSw; go_simp) <;> with_reducible rfl
    try simp only [Act.put, List.getElem_toArray, List.getElem_cons_succ, List.getElem_cons_zero, List.setIfInBounds_toArray, List.set_cons_zero, List.set_cons_succ]
    refine wpAnyH_take (i := 12) (v := ?_) rfl (by kernel_rfl) (by kernel_rfl) (by kernel_rfl) (fun _ _ _ h => h) (Or.inl ⟨by rfl, ?_⟩) (by assumption) ?_
    rotate_left
    · (intro W hSw; go_simp) <;> with_reducible rfl
    try simp only [Act.put, List.getElem_toArray, List.getElem_cons_succ, List.getElem_cons_zero, List.setIfInBounds_toArray, List.set_cons_zero, List.set_cons_succ]
    refine wpAnyH_done (by kernel_rfl) ?_ _
    refine NoPanic.normal ?_
    have hrr := setRow_heap _ _ _ (sg l 0 0) _ _ hr5
    go_wp2
    refine bodyPost_ret (v := .tuple #[.agg (sg l 0 0), .int .i64 s, .bool true]) ?_ rfl ⟨rfl, hHeld.2⟩
    exact results_cell_tmp2 Try.results19 _ _ (w.heap.size + 2) 34 (sg l 0 0) (0, 0) _ _ _ rfl rfl rfl hrr Try.underlying34 rfl (stIk hl _ _)
  · have hdg : decide (CN ≤ C2 - X * 2) = true := decide_eq_true (by omega)
    injection hstc with e1 e2
    injection e2 with e2 e3
    injection e3 with e3 e4
    have e1 := e1.symm
    have e2 := e2.symm
    have e3 := e3.symm
    have e4 := e4.symm
    subst e1 e2 e3 e4
    have hss := sg_size hl C2 ((n : Int) + 1)
    have hrg := sg_range HG3.out hl
    clear HSA HCASE hge hbs hcc hcb hni
    go_wp2_with (first
      | (refine wpList_load_mid rfl 23 _ rfl w.heap.size 0 rfl (lg l).toList _ hrg Try.underlying23 rfl (by rw [Array.length_toList]; exact lngIk hl) ?_)
      | (refine wpList_build_is rfl 34 _ rfl _ _ (fun W => build_lcn W hl C2 ((n : Int) + 1)) rfl ?_)
      | (refine wpList_store_row rfl 34 _ _ rfl (w.heap.size + 2) (sg l C2 ((n : Int) + 1)) rfl rfl 34 (sg zL 0 0) HR3.out (stIk hl _ _) (by rw [hsz, hss]) (sg_all _ _ _) ?_))
    refine bodyPost_ret (v := .tuple #[.agg (sg l C2 ((n : Int) + 1)), .int .i64 0, .bool false]) ?_ rfl ⟨rfl, HB3.out.setRow (by omega) _⟩
    exact results_cell_tmp2 Try.results19 _ _ (w.heap.size + 2) 34 (sg l C2 ((n : Int) + 1)) (0, 0) _ _ _ rfl rfl rfl (setRow_heap _ _ _ _ _ _ HR3.out) Try.underlying34 rfl (stIk hl _ _)

set_option maxRecDepth 100000 in
set_option maxHeartbeats 4000000 in
theorem step_call : StpC := by
  intro l hl c n b hcw hnw hbw w
  have HCC := Lib.hid (fun W => counts_call l hl W)
  have HIC := Lib.hid (fun W => isvalid_call l hl c n hcw hnw W)
  have HBC := Lib.hid (fun W => isbit_call b hbw W)
  have HNX := Lib.hid (show ∀ (_ : valC l c n = true) (_ : b = 0 ∨ b = 1) (W : World), Calls Try.prog 19 #[.agg (sg l c n), .agg (xl (cntT l 258)), .int .i64 b] W fun e w' => e = .returned (.tuple #[.agg (sg l (stC l c n b).1 (stC l c n b).2.1), .int .i64 (stC l c n b).2.2.1, .bool (stC l c n b).2.2.2]) ∧ Below W.heap.size W w' by
    intro hv hb W0
    have hT : tableV l = true := by
      unfold valC at hv
      rw [Bool.and_eq_true] at hv
      exact hv.1
    have hn0 : 0 ≤ n := by
      unfold valC at hv
      simp only [Bool.and_eq_true, decide_eq_true_iff] at hv
      omega
    obtain ⟨N, rfl⟩ : ∃ N : Nat, n = (N : Int) := ⟨n.toNat, by omega⟩
    exact next_call l ⟨hl, hT⟩ c N hv b hb _)
  have HBAD := Lib.hid (show ¬ (valC l c n = true ∧ (b = 0 ∨ b = 1)) → stC l c n b = (c, n, 0, false) from fun hh => by unfold stC; rw [if_neg hh])
  have hS := cntT_sxt l 258 (by omega)
  have hz := stZ
  have hzx := sxtZ
  have hsz := sg_size zL_lng 0 0
  have hsc := sg_size hl c n
  have hxs := xl_size hS
  have hxz := xl_size zX_sxt
  generalize cntT l 258 = ct at HCC HIC HNX hS hxs
  obtain ⟨c2, m2, s2, dn, hst⟩ : ∃ c2 m2 s2 dn, stC l c n b = (c2, m2, s2, dn) := ⟨_, _, _, _, rfl⟩
  rw [hst] at HNX HBAD ⊢
  clear hst
  have hs2 := sg_size hl c2 m2
  generalize valC l c n = V at HIC HNX HBAD
  go_enter Try.func8, Try.ntmps8
  go_upto_region 1 with fail
  have HG := Lib.hid (heap_alloc2_old w (.cells (sg l c n) 34) (.cells (sg zL 0 0) 34))
  have HR := Lib.hid (heap_alloc2_new w (.cells (sg l c n) 34) (.cells (sg zL 0 0) 34))
  have HB := Lib.hid (show Below w.heap.size w ((w.alloc (.cells (sg l c n) 34)).alloc (.cells (sg zL 0 0) 34)) from ((Below.refl _ _).alloc (Nat.le_refl _) _).alloc (by simp) _)
  generalize (w.alloc (.cells (sg l c n) 34)).alloc (.cells (sg zL 0 0) 34) = w1 at HG HR HB ⊢
  have hrg := sg_range HG.out hl
  go_upto_region 2 with (first
    | (refine wpList_load_mid rfl 23 _ rfl w.heap.size 0 rfl (lg l).toList _ hrg Try.underlying23 rfl (by rw [Array.length_toList]; exact lngIk hl) ?_)
    | ((with_reducible refine (HCC.out _).mono ?_); rintro e w2 ⟨rfl, hb2⟩)
    | (refine wpList_store_row rfl 53 _ _ rfl w2.heap.size (xl ct) rfl rfl 53 (xl zX) (heap_alloc_last w2 _) (sxtIk hS) (by rw [hxz, hxs]) (xl_all _) ?_))
  rw [World.setRow_alloc_new]
  try simp only [Act.put]
  have hby := hb2.alloc (o := .cells (xl ct) 53) hb2.size
  have HX := Lib.hid (heap_alloc_last w2 (.cells (xl ct) 53))
  have HG3 := Lib.hid (heap_on hby HG.out)
  have HR3 := Lib.hid (heap_on hby HR.out)
  have HB3 := Lib.hid (HB.out.trans (hby.mono HB.out.size))
  obtain ⟨g7, hg7⟩ : ∃ g7, g7 = w2.heap.size := ⟨_, rfl⟩
  rw [← hg7] at HX ⊢
  clear hg7 hb2 hby HG HR HB hrg HCC hz hzx hxz hxs
  generalize w2.alloc (.cells (xl ct) 53) = w3 at HX HG3 HR3 HB3 ⊢
  by_cases hgood : V = true ∧ (b = 0 ∨ b = 1)
  · obtain ⟨hV, hbb⟩ := hgood
    subst hV
    have HN := Lib.hid (HNX.out rfl hbb)
    clear HBAD HNX
    have hbc := HBC.out
    rw [decide_eq_true hbb] at hbc
    clear HBC hbb
    have hg3 := HG3.out
    have hx3 := HX.out
    go_upto_region 4 with (first
      | (refine wpList_load_row rfl 34 _ rfl w.heap.size rfl 34 (sg l c n) (0, 0) _ hg3 Try.underlying34 rfl (stIk hl c n) ?_)
      | (refine wpList_load_row rfl 53 _ rfl g7 rfl 53 (xl ct) (0, 0) _ hx3 Try.underlying53 rfl (sxtIk hS) ?_)
      | ((with_reducible refine (HIC.out _).mono ?_)
         rintro e w4 ⟨rfl, hb4⟩
         have HG4 := Lib.hid (heap_on hb4 HG3.out)
         have HX4 := Lib.hid (heap_on hb4 HX.out)
         have HR4 := Lib.hid (heap_on hb4 HR3.out)
         have HB4 := Lib.hid (HB3.out.trans (hb4.mono HB3.out.size))
         clear hb4)
      | ((with_reducible refine (hbc _).mono ?_); rintro e w5 ⟨rfl, rfl⟩))
    clear hg3 hx3 HG3 HX HR3 HB3 HIC hbc
    have hg4 := HG4.out
    have hx4 := HX4.out
    go_wp2_with (first
      | (refine wpList_load_row rfl 34 _ rfl w.heap.size rfl 34 (sg l c n) (0, 0) _ hg4 Try.underlying34 rfl (stIk hl c n) ?_)
      | (refine wpList_load_row rfl 53 _ rfl g7 rfl 53 (xl ct) (0, 0) _ hx4 Try.underlying53 rfl (sxtIk hS) ?_)
      | ((with_reducible refine (HN.out _).mono ?_)
         rintro e w6 ⟨rfl, hb6⟩
         have hr6 := heap_on hb6 HR4.out
         have HB6 := Lib.hid (HB4.out.trans (hb6.mono HB4.out.size))
         clear hb6)
      | (refine wpList_store_row rfl 34 _ _ rfl (w.heap.size + 1) (sg l c2 m2) rfl rfl 34 (sg zL 0 0) hr6 (stIk hl _ _) (by rw [hsz, hs2]) (sg_all _ _ _) ?_))
    refine bodyPost_ret (v := .tuple #[.agg (sg l c2 m2), .int .i64 s2, .bool dn]) ?_ rfl ⟨rfl, HB6.out.setRow (by omega) _⟩
    exact results_cell_tmp2 Try.results8 _ _ (w.heap.size + 1) 34 (sg l c2 m2) (0, 0) _ _ _ rfl rfl rfl (setRow_heap _ _ _ _ _ _ hr6) Try.underlying34 rfl (stIk hl _ _)
  · have hx := HBAD.out hgood
    injection hx with e1 e2
    injection e2 with e2 e3
    injection e3 with e3 e4
    subst e1 e2 e3 e4
    clear HBAD HNX
    have hg3 := HG3.out
    have hx3 := HX.out
    go_cut [19] (fun s wx => s = .bool true ∧ wx.heap[w.heap.size]? = some (.cells (sg l c2 m2) 34 (0, 0)) ∧ wx.heap[w.heap.size + 1]? = some (.cells (sg zL 0 0) 34 (0, 0)) ∧ Below w.heap.size w wx)
    case first =>
      cases V with
      | false =>
        clear HBC hgood
        go_wp2_with (first
          | (refine wpList_load_row rfl 34 _ rfl w.heap.size rfl 34 (sg l c2 m2) (0, 0) _ hg3 Try.underlying34 rfl (stIk hl c2 m2) ?_)
          | (refine wpList_load_row rfl 53 _ rfl g7 rfl 53 (xl ct) (0, 0) _ hx3 Try.underlying53 rfl (sxtIk hS) ?_)
          | ((with_reducible refine (HIC.out _).mono ?_)
             rintro e w4 ⟨rfl, hb4⟩))
        go_meet
        exact ⟨rfl, heap_on hb4 HG3.out, heap_on hb4 HR3.out, HB3.out.trans (hb4.mono HB3.out.size)⟩
      | true =>
        have hbc := HBC.out
        rw [decide_eq_false (show ¬ (b = 0 ∨ b = 1) from fun hh => hgood ⟨rfl, hh⟩)] at hbc
        clear HBC hgood
        go_wp2_with (first
          | (refine wpList_load_row rfl 34 _ rfl w.heap.size rfl 34 (sg l c2 m2) (0, 0) _ hg3 Try.underlying34 rfl (stIk hl c2 m2) ?_)
          | (refine wpList_load_row rfl 53 _ rfl g7 rfl 53 (xl ct) (0, 0) _ hx3 Try.underlying53 rfl (sxtIk hS) ?_)
          | ((with_reducible refine (HIC.out _).mono ?_)
             rintro e w4 ⟨rfl, hb4⟩)
          | ((with_reducible refine (hbc _).mono ?_); rintro e w5 ⟨rfl, rfl⟩))
        go_meet
        exact ⟨rfl, heap_on hb4 HG3.out, heap_on hb4 HR3.out, HB3.out.trans (hb4.mono HB3.out.size)⟩
    case rest =>
      obtain ⟨rfl, hg4, hr4, hb4⟩ := hcut
      have HB4 := Lib.hid hb4
      clear hb4 hg3 hx3 HG3 HX HR3 HB3 HIC HBC hgood
      go_wp2_with (first
        | (refine wpList_load_row rfl 34 _ rfl w.heap.size rfl 34 (sg l c2 m2) (0, 0) _ hg4 Try.underlying34 rfl (stIk hl c2 m2) ?_)
        | (refine wpList_store_row rfl 34 _ _ rfl (w.heap.size + 1) (sg l c2 m2) rfl rfl 34 (sg zL 0 0) hr4 (stIk hl _ _) (by rw [hsz, hs2]) (sg_all _ _ _) ?_))
      refine bodyPost_ret (v := .tuple #[.agg (sg l c2 m2), .int .i64 0, .bool false]) ?_ rfl ⟨rfl, HB4.out.setRow (by omega) _⟩
      exact results_cell_tmp2 Try.results8 _ _ (w.heap.size + 1) 34 (sg l c2 m2) (0, 0) _ _ _ rfl rfl rfl (setRow_heap _ _ _ _ _ _ hr4) Try.underlying34 rfl (stIk hl _ _)
end Go.Proofs.Ytbegpakjojiblab
