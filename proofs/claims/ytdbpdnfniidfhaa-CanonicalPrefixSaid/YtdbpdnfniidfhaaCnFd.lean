/- First, symbolsOf and Find of package canonical at valid lengths. -/
import Derived.Test.YtdbpdnfniidfhaaCnC
import Derived.Maps.OwnSet
import Derived.BigQuiet
import Derived.Handy
import Derived.Test.YtdbpdnfniidfhaaFrm2
set_option linter.unusedVariables false
set_option linter.unusedSimpArgs false
namespace Go.Proofs.Ytdbpdnfniidfhaa
open Go.RowKit Go.Maps

/-- What First returns at a valid length. -/
def fstV (l : List Int) (n : Nat) : Value := if cc l n 258 = 0 then .tuple #[.int .u32 0, .int .i64 0, .bool false] else .tuple #[.int .u32 (fcL (cntT l 258) n), .int .i64 (cc l n 258), .bool true]
set_option maxRecDepth 100000 in
set_option maxHeartbeats 1000000 in
theorem first_call (l : List Int) (hv : VL l) (n : Nat) (h1 : 1 ≤ n) (h15 : n < 16) (w : World) :
    Calls Try.prog 11 #[.agg (lg l), .int .i64 n] w fun e w' => e = .returned (fstV l n) ∧ Below w.heap.size w w' := by
  have h := hv.lng
  go_enter Try.func11, Try.ntmps11
  go_upto_region 1 with fail
  have hg := heap_alloc_last w (.cells (lg l) 23)
  have hb := (Below.refl w.heap.size w).alloc (Nat.le_refl _) (.cells (lg l) 23)
  generalize w.alloc (.cells (lg l) 23) = w1 at hg hb ⊢
  have HB := Lib.hid hb
  have hvc := valid_call l h w1
  rw [decide_eq_true hv.sum] at hvc
  have hl1 : (decide (n < 1)) = false := by simp; omega
  have hl2 : (decide ((n : Int) < 1)) = false := by simp; omega
  have hl3 : (decide (15 < n)) = false := by simp; omega
  have hl4 : (decide ((15 : Int) < n)) = false := by simp; omega
  have hcc := counts_call l h
  have hfc := firsts_call (cntT l 258) (cntT_sxt l 258 (by omega)) hv.fcB
  have hS := cntT_sxt l 258 (by omega)
  have hF := fstT_fst hv.fcB 16
  have HV := Lib.hid (show fstV l n = if cc l n 258 = 0 then .tuple #[.int .u32 0, .int .i64 0, .bool false] else .tuple #[.int .u32 (fcL (cntT l 258) n), .int .i64 (cc l n 258), .bool true] from rfl)
  have HCG := Lib.hid (cntT_get l n h15)
  have HFG := Lib.hid (show (fstT (cntT l 258) 16).getD n 0 = fcL (cntT l 258) n by rw [fstT_all]; exact row16_get _ n h15)
  generalize fcL (cntT l 258) n = X at HV HFG
  generalize cc l n 258 = Y at HV HCG
  generalize fstT (cntT l 258) 16 = F at hfc hF HFG
  generalize cntT l 258 = C at hcc hfc hS HCG
  clear hb
  have hzs := sxtZ
  go_upto_region 3 with (first
    | (refine wpList_load_row rfl 23 _ rfl w.heap.size rfl 23 (lg l) (0, 0) _ hg Try.underlying23 rfl (lngIk h) ?_)
    | (refine hvc.mono ?_; rintro e w2 ⟨rfl, hb2⟩))
  have hg3 := heap_on hb2 hg
  have HB2 := Lib.hid (HB.out.trans (hb2.mono HB.out.size))
  clear hb2 hvc hg HB hl1 hl2 hl3 hl4
  go_upto_region 4 with (first
    | (refine wpList_load_row rfl 23 _ rfl w.heap.size rfl 23 (lg l) (0, 0) _ hg3 Try.underlying23 rfl (lngIk h) ?_)
    | (with_reducible refine (hcc _).mono ?_; rintro e w3 ⟨rfl, hb3⟩)
    | (refine wpList_store_row rfl 45 _ _ rfl w3.heap.size (xl C) rfl rfl 45 (xl zX) (heap_alloc_last w3 _) (sxtIk hS) (by rw [xl_size zX_sxt, xl_size hS]) (xl_all _) ?_))
  rw [World.setRow_alloc_new]
  simp only [Act.put]
  have hg4 := heap_alloc_last w3 (.cells (xl C) 45)
  have HB4 := Lib.hid ((HB2.out.trans (hb3.mono HB2.out.size)).alloc (HB2.out.trans (hb3.mono HB2.out.size)).size (.cells (xl C) 45))
  have hcn := xl_cell hg4 hS n h15
  rw [HCG.out] at hcn
  clear hb3 hcc hzs hg3 HB2
  obtain ⟨gc, hgc⟩ : ∃ gc, gc = w3.heap.size := ⟨_, rfl⟩
  rw [← hgc] at hg4 hcn ⊢
  clear hgc
  generalize w3.alloc (.cells (xl C) 45) = w4 at hg4 hcn HB4 ⊢
  by_cases hY : Y = 0
  · subst hY
    go_wp2_with fail
    go_returns
    exact ⟨by rw [HV.out]; rfl, HB4.out⟩
  · have HY := Lib.hid hY
    have hYb : (Y == 0) = false := by simpa using hY
    clear hY
    go_upto_region 6 with fail
    have hni : (n : Int) < 16 := by omega
    have hixf := fun W => run_index_fst W hF n h15
    rw [HFG.out] at hixf
    -- REGION
    refine wp_region_frame (J := Js [eqv (.agg (xl C)), eqv (.agg (fl F)), eqv (.int .i64 n), eqv (.int .u32 X), eqv (.int .i64 n), eqv (.pointer (some ⟨gc, n, none⟩)), eqv (.int .i64 Y), eqv (.int .u32 X), eqv (.int .i64 Y), eqv (.bool true)]) (ds := [25, 26, 27, 28, 29, 30, 31, 4, 5, 6]) (N := 32)
      (B := [(1, .int .i64 n), (7, .pointer (some ⟨gc, 0, none⟩))]) (by kernel_rfl) (by kernel_rfl) (Js_mono ⟨eqv_mono _, eqv_mono _, eqv_mono _, eqv_mono _, eqv_mono _, eqv_mono _, eqv_mono _, eqv_mono _, eqv_mono _, eqv_mono _, trivial⟩) rfl rfl (by simp) ?_ ?_
    · refine ⟨?_, ?_, ?_, ?_, ?_, ?_, ?_, ?_, ?_, ?_, trivial⟩
      · intro a w' hb hdep K hK
        have c7 := hb.at 1 7 _ rfl
        clear hdep
        exact wp_load_row 45 _ rfl gc (by simp [Act.eval, c7]) 45 (xl C) (0, 0) _ (heap_on hb.bel hg4) Try.underlying45 rfl (sxtIk hS) (hK _ _ rfl (Below.refl _ _))
      · intro a w' hb hdep K hK
        obtain ⟨v0, e0, j0⟩ := hdep 0 (by kernel_rfl)
        replace e0 : a.tmps[25]? = some v0 := e0
        obtain rfl : v0 = _ := j0
        clear hdep
        go_simp
        go_at_call 14
        refine (hfc w').mono ?_
        rintro e w20 ⟨rfl, hb20⟩
        exact hK _ _ rfl hb20
      · intro a w' hb hdep K hK
        have c1 := hb.at 0 1 _ rfl
        clear hdep
        go_simp
        exact hK _ _ rfl (Below.refl _ _)
      · intro a w' hb hdep K hK
        obtain ⟨v1, e1, j1⟩ := hdep 1 (by kernel_rfl)
        replace e1 : a.tmps[26]? = some v1 := e1
        obtain rfl : v1 = _ := j1
        obtain ⟨v2, e2, j2⟩ := hdep 2 (by kernel_rfl)
        replace e2 : a.tmps[27]? = some v2 := e2
        obtain rfl : v2 = _ := j2
        clear hdep
        go_simp
        exact hK _ _ rfl (Below.refl _ _)
      · intro a w' hb hdep K hK
        have c1 := hb.at 0 1 _ rfl
        clear hdep
        go_simp
        exact hK _ _ rfl (Below.refl _ _)
      · intro a w' hb hdep K hK
        have c7 := hb.at 1 7 _ rfl
        obtain ⟨v4, e4, j4⟩ := hdep 4 (by kernel_rfl)
        replace e4 : a.tmps[29]? = some v4 := e4
        obtain rfl : v4 = _ := j4
        clear hdep
        go_simp
        exact hK _ _ rfl (Below.refl _ _)
      · intro a w' hb hdep K hK
        obtain ⟨v5, e5, j5⟩ := hdep 5 (by kernel_rfl)
        replace e5 : a.tmps[30]? = some v5 := e5
        obtain rfl : v5 = _ := j5
        have hcn := cell_on hb.bel hcn
        clear hdep
        go_simp
        exact hK _ _ rfl (Below.refl _ _)
      · intro a w' hb hdep K hK
        obtain ⟨v3, e3, j3⟩ := hdep 3 (by kernel_rfl)
        replace e3 : a.tmps[28]? = some v3 := e3
        obtain rfl : v3 = _ := j3
        clear hdep
        go_simp
        exact hK _ _ rfl (Below.refl _ _)
      · intro a w' hb hdep K hK
        obtain ⟨v6, e6, j6⟩ := hdep 6 (by kernel_rfl)
        replace e6 : a.tmps[31]? = some v6 := e6
        obtain rfl : v6 = _ := j6
        clear hdep
        go_simp
        exact hK _ _ rfl (Below.refl _ _)
      · intro a w' hb hdep K hK
        clear hdep
        go_simp
        exact hK _ _ rfl (Below.refl _ _)
    · intro vs w' hvl hall hb
      match vs, hvl with
      | [v0, v1, v2, v3, v4, v5, v6, v7, v8, v9], _ =>
        obtain rfl : v0 = _ := hall 0 (by decide)
        obtain rfl : v1 = _ := hall 1 (by decide)
        obtain rfl : v2 = _ := hall 2 (by decide)
        obtain rfl : v3 = _ := hall 3 (by decide)
        obtain rfl : v4 = _ := hall 4 (by decide)
        obtain rfl : v5 = _ := hall 5 (by decide)
        obtain rfl : v6 = _ := hall 6 (by decide)
        obtain rfl : v7 = _ := hall 7 (by decide)
        obtain rfl : v8 = _ := hall 8 (by decide)
        obtain rfl : v9 = _ := hall 9 (by decide)
        simp only [putAll, List.setIfInBounds_toArray, List.set_cons_zero, List.set_cons_succ]
        go_wp2
        go_returns
        exact ⟨by rw [HV.out, if_neg HY.out]; rfl, HB4.out.trans (hb.mono HB4.out.size)⟩
    -- END REGION

/-- The last of the first k symbols that has this code with this length. -/
def fndL (l : List Int) (c m : Int) : Nat → Option Nat
  | 0 => none
  | k + 1 => if 0 < l.getD k 0 ∧ l.getD k 0 = m ∧ cdL l k = c then some k else fndL l c m k
theorem fndL_no (l : List Int) (c m : Int) (k : Nat) (h : ¬ 0 < l.getD k 0) : fndL l c m (k + 1) = fndL l c m k := if_neg fun e => h e.1
theorem fndL_yes (l : List Int) (k : Nat) (h : 0 < l.getD k 0) : fndL l (cdL l k) (l.getD k 0) (k + 1) = some k := if_pos ⟨h, rfl, rfl⟩
theorem fndL_other (l : List Int) (c m : Int) (k : Nat) (h : ¬ (l.getD k 0 = m ∧ cdL l k = c)) : fndL l c m (k + 1) = fndL l c m k := if_neg fun e => h e.2
theorem fndL_lt (l : List Int) (c m : Int) : ∀ k s, fndL l c m k = some s → s < k
  | 0, s, h => by cases h
  | k + 1, s, h => by
    unfold fndL at h
    split at h
    · injection h with h; omega
    · have := fndL_lt l c m k s h; omega
theorem wordU : Try.prog.underlying 49 = some (.map 52 3) := Try.underlying49
theorem word_wide : (match Try.prog.underlying 52 with | some (.array _ _) | some (.struct _) => true | _ => false) = true := by rw [Try.underlying52]
theorem word_keyAt : Try.prog.keyTypeAt 2 52 = true := by kernel_rfl
theorem word_tiled : Try.prog.tiled 2 52 = true := by kernel_rfl
theorem wordK : Keyed Try.prog 52 := Keyed.of_law (deep_law (m := 2) (by omega) word_keyAt word_tiled word_wide)
/-- A code with its length as a key. -/
def wordV (c m : Int) : Value := .agg #[.int .u32 c, .int .i64 m]
theorem word_key (c m : Int) (hc : (Lit.int .u32 c).wf = true) (hm : (Lit.int .i64 m).wf = true) : ∃ lx, keyOf Try.prog 52 (wordV c m) = some lx := by
  have hk : Try.prog.keyType 52 = true := by kernel_rfl
  have hcl : Try.prog.cellsOf 52 = 2 := by kernel_rfl
  have hi : Try.prog.cellsOf 3 = 1 := by kernel_rfl
  have hu : Try.prog.cellsOf 26 = 1 := by kernel_rfl
  have ht : ∃ D, Try.prog.types.size + 1 = D + 2 := by
    have h1 : decide (1 < Try.prog.types.size) = true := by kernel_rfl
    have h2 := of_decide_eq_true h1
    exact ⟨Try.prog.types.size - 1, by omega⟩
  obtain ⟨D, hD⟩ := ht
  refine ⟨.string (keyBytes [.int .u32 c, .int .i64 m]), ?_⟩
  have hf : (wordV c m).formed Try.prog 52 = true := by simp [wordV, Value.formed, Try.underlying52, hcl]
  unfold keyOf
  simp only [Try.underlying52, hk, hf, Bool.and_self, if_true]
  rw [hD]
  unfold Program.keyLits
  simp only [Try.underlying52, wordV, Value.cells]
  unfold Program.keyLits
  simp [hi, hu, hcl, u32U, intU, hc, hm]
/-- Block b is the map of the first k symbols by their codes. -/
def MapS (l : List Int) (b k : Nat) (w : World) : Prop := ∃ D : DataW Unit, w.ownsMap Try.prog 52 (plainElem Try.prog 3) b k D ∧ IsMap D ∧
  ∀ c m kl, keyOf Try.prog 52 (wordV c m) = some kl → has D kl = (fndL l c m k).isSome ∧ D.atKey kl (.lit (.int .i64 0)) = .lit (.int .i64 (((fndL l c m k).getD 0 : Nat) : Int))
theorem MapS.new (l : List Int) (w : World) : MapS l w.heap.size 0 (w.alloc (.map #[] 0)) :=
  ⟨.map [], World.ownsMap_made w _ _ _, isMap_empty, fun c m kl h => ⟨rfl, rfl⟩⟩
theorem MapS.kept {l : List Int} {b k : Nat} {w w' : World} (h : MapS l b k w) (hb : Below w.heap.size w w') : MapS l b k w' := by
  obtain ⟨D, ⟨es, clock, h1, h2⟩, h3⟩ := h
  exact ⟨D, ⟨es, clock, heap_on hb h1, h2⟩, h3⟩
theorem MapS.skip {l : List Int} {b k : Nat} {w : World} (h : MapS l b k w) (h0 : ¬ 0 < l.getD k 0) : MapS l b (k + 1) w := by
  obtain ⟨D, h1, h2, h3⟩ := h
  refine ⟨D, h1.mono (by omega), h2, fun c m kl hk => ?_⟩
  rw [fndL_no l c m k h0]
  exact h3 c m kl hk
theorem MapS.put {l : List Int} {b k : Nat} {w' : World} {D : DataW Unit} (h2 : IsMap D)
    (h3 : ∀ c m kl, keyOf Try.prog 52 (wordV c m) = some kl → has D kl = (fndL l c m k).isSome ∧ D.atKey kl (.lit (.int .i64 0)) = .lit (.int .i64 (((fndL l c m k).getD 0 : Nat) : Int)))
    {kl : Lit} (hk : keyOf Try.prog 52 (wordV (cdL l k) (l.getD k 0)) = some kl) (h0 : 0 < l.getD k 0)
    (h1 : w'.ownsMap Try.prog 52 (plainElem Try.prog 3) b (k + 1) (D.put kl (.lit (.int .i64 (k : Int))))) : MapS l b (k + 1) w' := by
  refine ⟨_, h1, h2.put _ _, fun c m kl' hk' => ?_⟩
  by_cases e : l.getD k 0 = m ∧ cdL l k = c
  · obtain ⟨rfl, rfl⟩ := e
    rw [hk] at hk'
    injection hk' with hk'
    subst hk'
    rw [fndL_yes l k h0, has_put_same h2 (wordK.key hk), atKey_put_same h2 (wordK.key hk)]
    exact ⟨rfl, rfl⟩
  · have hne : kl' ≠ kl := fun e2 => by
      subst e2
      have := wordK.inj hk hk'
      unfold wordV at this
      injection this with this
      have e3 := congrArg Array.toList this
      simp at e3
      exact e ⟨e3.2, e3.1⟩
    rw [fndL_other l c m k e, has_put_other hne, atKey_put_other hne]
    exact h3 c m kl' hk'

set_option maxRecDepth 100000 in
set_option maxHeartbeats 1000000 in
theorem symbols_call (l : List Int) (hv : VL l) (w : World) :
    Calls Try.prog 18 #[.agg (lg l)] w fun e w' => ∃ b, e = .returned (.map (some b)) ∧ MapS l b 258 w' ∧ Below w.heap.size w w' := by
  have h := hv.lng
  have hmk : ∀ w : World, (Instr.makeMap 49 none).run Try.prog w = .ok (.map (some w.heap.size)) (w.alloc (.map #[] 0)) := fun w => by
    simp [Instr.makeMap, run_underlying wordU, Result.andThen]
  go_enter Try.func18, Try.ntmps18
  go_upto_region 2 with fail
  have hM : MapS l (w.heap.size + 1) 0 ((w.alloc (.cells (lg l) 23)).alloc (.map #[] 0)) := by
    have := MapS.new l (w.alloc (.cells (lg l) 23))
    simpa using this
  have hg := heap_alloc2_old w (.cells (lg l) 23) (.map #[] 0)
  have hb : Below w.heap.size w ((w.alloc (.cells (lg l) 23)).alloc (.map #[] 0)) := ((Below.refl _ _).alloc (Nat.le_refl _) _).alloc (by simp) _
  have hz1 : w.heap.size + 1 < ((w.alloc (.cells (lg l) 23)).alloc (.map #[] 0)).heap.size := by simp
  generalize (w.alloc (.cells (lg l) 23)).alloc (.map #[] 0) = w1 at hM hg hb hz1 ⊢
  have HM := Lib.hid hM
  have HB := Lib.hid hb
  have HZ1 := Lib.hid hz1
  have hcd := fun W => codes_call l h W
  have hE : codE l = 0 := if_pos hv.sum
  have HR := Lib.hid (show codR l = codT l 258 from if_pos hv.sum)
  rw [hE] at hcd
  have hcc := codR_cds h
  have hzc := cdsZ
  clear hM hb hmk hE hz1
  obtain ⟨c, hc⟩ : ∃ c, c = codR l := ⟨_, rfl⟩
  rw [← hc] at hcd hcc HR
  clear hc
  go_upto_region 3 with (first
    | (refine wpList_load_row rfl 23 _ rfl w.heap.size rfl 23 (lg l) (0, 0) _ hg Try.underlying23 rfl (lngIk h) ?_)
    | (with_reducible refine (hcd _).mono ?_; rintro e w2 ⟨rfl, hb2⟩)
    | (refine wpList_store_row rfl 28 _ _ rfl w2.heap.size (cl c) rfl rfl 28 (cl zC) (heap_alloc_last w2 _) (cdsIk hcc) (by rw [cl_size zC_cds, cl_size hcc]) (cl_all _) ?_))
  rw [World.setRow_alloc_new]
  have hb3 := hb2.alloc (o := .cells (cl c) 28) hb2.size
  have hg3 := heap_on hb3 hg
  have HM3 := Lib.hid (HM.out.kept hb3)
  have HB3 := Lib.hid (HB.out.trans (hb3.mono HB.out.size))
  have hc3 := heap_alloc_last w2 (.cells (cl c) 28)
  have hz2 := hb2.size
  obtain ⟨g4, hg4⟩ : ∃ g4, g4 = w2.heap.size := ⟨_, rfl⟩
  rw [← hg4] at hc3 hz2 ⊢
  have HZ := Lib.hid (show w.heap.size + 1 < g4 from Nat.lt_of_lt_of_le HZ1.out hz2)
  clear hg4 hb2 hb3 hcd hz2
  generalize w2.alloc (.cells (cl c) 28) = w3 at hg3 HM3 HB3 hc3 ⊢
  have HC3 := Lib.hid hc3
  clear hc3 hzc
  obtain ⟨b, hbe⟩ : ∃ b, b = w.heap.size + 1 := ⟨_, rfl⟩
  rw [← hbe] at HM3 HZ ⊢
  have HBE := Lib.hid hbe
  clear hbe HM HZ1
  go_wp2_with (refine wpList_load_row rfl 23 _ rfl w.heap.size rfl 23 (lg l) (0, 0) _ hg3 Try.underlying23 rfl (lngIk h) ?_)
  go_loopw [18] (fun i wr => ∃ k : Nat, k ≤ 258 ∧ i = .int .i64 k ∧ MapS l b k wr ∧ wr.heap[g4]? = some (.cells (cl c) 28 (0, 0)) ∧ Below w.heap.size w wr) (fun i _ => 258 - (intOf i).toNat)
  case atStart => exact ⟨0, by omega, rfl, HM3.out, HC3.out, HB3.out⟩
  case round =>
    obtain ⟨k, hk, rfl, hm, hc, hb⟩ := hrel
    have HMr := Lib.hid hm
    have HCr := Lib.hid hc
    have HBr := Lib.hid hb
    clear hm hb
    by_cases hlt : k < 258
    · have hix := fun w => run_index_lng w h k hlt
      have hbd := h.bd k
      have HSK := Lib.hid (fun (W : World) (hW : MapS l b k W) (h0 : ¬ 0 < l.getD k 0) => hW.skip h0)
      by_cases h0 : 0 < l.getD k 0
      · have hck := cl_cell hc hcc k hlt
        have hcv : c.getD k 0 = cdL l k := by
          rw [HR.out, codT, row258_get _ k hlt, if_pos ⟨hlt, h0⟩]
        rw [hcv] at hck
        obtain ⟨D, hown, hD, h3⟩ := HMr.out
        have hwc : (Lit.int .u32 (cdL l k)).wf = true := by have := hv.cdL k hlt; exact WalkArith.wf_u32 ⟨by omega, by omega⟩
        have hwm : (Lit.int .i64 (l.getD k 0)).wf = true := WalkArith.wf_i64 ⟨by omega, by omega⟩
        obtain ⟨kl, hkl⟩ := word_key (cdL l k) (l.getD k 0) hwc hwm
        have HPUT := Lib.hid (fun (W : World) (h1 : W.ownsMap Try.prog 52 (plainElem Try.prog 3) b (k + 1) (D.put kl (.lit (.int .i64 (k : Int))))) => MapS.put (w' := W) hD h3 hkl h0 h1)
        have HKL : RowKit.Hid (keyOf Try.prog 52 (.agg #[.int .u32 (cdL l k), .int .i64 (l.getD k 0)]) = some kl) := hkl
        have hpl : plainElem (H := Unit) Try.prog 3 (.int .i64 (k : Int)) = some (.lit (.int .i64 (k : Int)), []) := plainElem_int intU (WalkArith.wf_i64 ⟨by omega, by omega⟩)
        have HPL := Lib.hid hpl
        have HOWN := Lib.hid hown
        have hcd := hv.cdL k hlt
        generalize l.getD k 0 = V at hix hbd HKL h0
        generalize cdL l k = X at hck HKL hcd
        obtain ⟨v, rfl⟩ : ∃ v : Nat, V = v := ⟨V.toNat, by omega⟩
        clear hc hcv hwc hwm hkl h3 hpl hown HSK hD
        go_wp2_with (refine wpList_mapUpdate_own _ rfl _ _ _ 49 rfl 52 3 wordK wordU _ b k D rfl HOWN.out (by unfold maxLen; omega) (.agg #[.int .u32 X, .int .i64 (v : Int)]) (.int .i64 (k : Int)) kl rfl rfl HKL.out (.lit (.int .i64 (k : Int))) [] HPL.out ?_; intro w5 hown5 hgr5)
        have hZ := HZ.out
        have hBE := HBE.out
        exact ⟨⟨k + 1, by omega, by go_num, HPUT.out _ hown5, (hgr5.block g4 (Array.getElem?_eq_some_iff.1 HCr.out).1 (by intro e; injection e with e; omega)).trans HCr.out, HBr.out.grown hgr5 HBr.out.size (fun g e => by injection e with e; omega)⟩, by simp [intOf]; omega⟩
      · have HST := Lib.hid (HSK.out _ HMr.out h0)
        generalize l.getD k 0 = V at hix hbd h0
        clear HSK hc
        go_wp2_with fail
        exact ⟨⟨k + 1, by omega, by go_num, HST.out, HCr.out, HBr.out⟩, by simp [intOf]; omega⟩
    · obtain rfl : k = 258 := by omega
      clear hc
      go_wp2_with fail
      go_ret
      exact ⟨b, rfl, HMr.out, HBr.out⟩

/-- What Find returns. -/
def fndV (l : List Int) (c m : Int) : Value := .tuple #[.int .i64 (((fndL l c m 258).getD 0 : Nat) : Int), .bool (fndL l c m 258).isSome]
set_option maxRecDepth 100000 in
set_option maxHeartbeats 1000000 in
theorem find_call (l : List Int) (hv : VL l) (c m : Int) (hc : (Lit.int .u32 c).wf = true) (hm : (Lit.int .i64 m).wf = true) (w : World) :
    Calls Try.prog 10 #[.agg (lg l), .int .u32 c, .int .i64 m] w fun e w' => e = .returned (fndV l c m) ∧ Below w.heap.size w w' := by
  have h := hv.lng
  go_enter Try.func10, Try.ntmps10
  go_upto_region 1 with fail
  have hg := heap_alloc_last w (.cells (lg l) 23)
  have hb := (Below.refl w.heap.size w).alloc (Nat.le_refl _) (.cells (lg l) 23)
  generalize w.alloc (.cells (lg l) 23) = w1 at hg hb ⊢
  have HB := Lib.hid hb
  have hsy := symbols_call l hv w1
  have HV := Lib.hid (show fndV l c m = .tuple #[.int .i64 (((fndL l c m 258).getD 0 : Nat) : Int), .bool (fndL l c m 258).isSome] from rfl)
  obtain ⟨kl, hkl⟩ := word_key c m hc hm
  have HKL : RowKit.Hid (keyOf Try.prog 52 (.agg #[.int .u32 c, .int .i64 m]) = some kl) := hkl
  have HKL2 := Lib.hid hkl
  have hz0 : ∀ w, (zeroValue 3).run Try.prog w = .ok (.int .i64 0) w := (zero_of_info (show (Try.prog.info? 3).map (fun i => (i.zero, i.size)) = some (some (.int .i64 0), 1) by kernel_rfl)).1
  clear hb hkl
  go_upto_region 2 with (first
    | (refine wpList_load_row rfl 23 _ rfl w.heap.size rfl 23 (lg l) (0, 0) _ hg Try.underlying23 rfl (lngIk h) ?_)
    | (with_reducible refine hsy.mono ?_
       rintro e w2 ⟨b, rfl, hM, hb2⟩
       obtain ⟨D, hown, hD, h3⟩ := hM
       obtain ⟨h4, h5⟩ := h3 c m kl HKL2.out
       have H4 := Lib.hid h4
       have H5 := Lib.hid h5
       have HOWN := Lib.hid hown
       clear hown hD h3 h4 h5)
    | (refine wpList_lookup_own_ok_int _ rfl _ _ 49 rfl 52 3 .i64 wordK wordU intU (hz0 _) b 258 D rfl HOWN.out (.agg #[.int .u32 c, .int .i64 m]) kl rfl HKL.out ?_
       intro cv hcv hwv))
  have hcv2 : cv = (((fndL l c m 258).getD 0 : Nat) : Int) := by
    rw [H5.out] at hcv
    injection hcv with hcv
    injection hcv with _ hcv
    exact hcv.symm
  have hhas := H4.out
  rw [hcv2, hhas]
  clear hcv hwv hcv2 hhas
  generalize (((fndL l c m 258).getD 0 : Nat) : Int) = S at HV ⊢
  generalize (fndL l c m 258).isSome = B at HV ⊢
  go_wp2_with fail
  go_returns
  exact ⟨by rw [HV.out]; rfl, HB.out.trans (hb2.mono HB.out.size)⟩
end Go.Proofs.Ytdbpdnfniidfhaa
