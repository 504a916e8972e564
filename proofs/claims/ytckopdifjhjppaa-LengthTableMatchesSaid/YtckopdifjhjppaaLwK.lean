/- winepresslaw10.wakes. -/
import Derived.Test.YtckopdifjhjppaaLwA
import Derived.Test.YtckopdifjhjppaaFrm2
set_option linter.unusedVariables false
set_option linter.unusedSimpArgs false
namespace Go.Proofs.Ytckopdifjhjppaa
open Go.RowKit

/-- All that wakes calls, with its tables named. -/
theorem wk_all : ∃ (L Q Z : List Int) (z Z1 Z9 : TS), Lng L ∧ Lng Z ∧ Tst Z1 ∧ Tst Z9 ∧ Tst z ∧ Q.length = 272 ∧ (Q.take 13 = [0, 0, 0, 1, 0, 1, 0, 0, 1, 1, 1, 1, 0]) ∧ (Q.drop 267 = [1, 0, 1, 0, 0]) ∧
    (∀ w, Calls Try.prog 23 #[] w fun e w' => e = .returned (.agg (lg L)) ∧ Below w.heap.size w w') ∧
    (∀ w, Calls Try.prog 10 #[.agg (lg L)] w fun e w' => ∃ A c, e = .returned (.tuple #[.slice (ad0 A) 272 c, .int .i64 0]) ∧ NewO w w' A c Q) ∧
    (∀ w, Calls Try.prog 10 #[.agg (lg Z)] w fun e w' => ∃ A c, e = .returned (.tuple #[.slice (ad0 A) 0 c, .int .i64 2]) ∧ NewO w w' A c []) ∧
    (∀ (sp : Option Addr) (cap : Nat) (w : World), Src w .i64 sp (Q ++ [1, 1]) → Calls Try.prog 17 #[.slice sp 274 cap] w fun e w' => e = .returned (.tuple #[.agg (lg L), .int .i64 272, .int .i64 0]) ∧ Below w.heap.size w w') ∧
    (∀ (sp : Option Addr) (cap : Nat) (w : World), Src w .i64 sp [0, 0, 0, 0, 1, 0, 1, 1] → Calls Try.prog 17 #[.slice sp 8 cap] w fun e w' => e = .returned (.tuple #[.agg (lg Z), .int .i64 0, .int .i64 100]) ∧ Below w.heap.size w w') ∧
    (∀ (sp : Option Addr) (cap : Nat) (w : World), Src w .i64 sp [0, 0, 0] → Calls Try.prog 17 #[.slice sp 3 cap] w fun e w' => e = .returned (.tuple #[.agg (lg Z), .int .i64 0, .int .i64 50]) ∧ Below w.heap.size w w') ∧
    (∀ (sp : Option Addr) (cap : Nat) (w : World), Src w .i64 sp [0, 2] → Calls Try.prog 17 #[.slice sp 2 cap] w fun e w' => e = .returned (.tuple #[.agg (lg Z), .int .i64 0, .int .i64 2]) ∧ Below w.heap.size w w') ∧
    (∀ (w : World) (p : Nat) (A : Option Nat) (c : Nat), Wr w p A c [] → Calls Try.prog 16 #[.pointer (some ⟨p, 0, none⟩), .agg (lg L)] w fun e w' => e = .returned (.int .i64 0) ∧ ∃ A' c', Wr w' p A' c' Q ∧ Ch (Fp p A) w w' ∧ (∀ g, A' = some g → A = some g ∨ w.heap.size ≤ g)) ∧
    (∀ w, Calls Try.prog 16 #[.pointer none, .agg (lg L)] w fun e w' => e = .returned (.int .i64 2) ∧ Below w.heap.size w w') ∧
    (∀ w, Calls Try.prog 8 #[.agg (tg z), .int .i64 1] w fun e w' => e = .returned (.tuple #[.agg (tg Z1), .bool false, .int .i64 0]) ∧ Below w.heap.size w w') ∧
    (∀ w, Calls Try.prog 8 #[.agg (tg Z9), .int .i64 1] w fun e w' => e = .returned (.tuple #[.agg (tg z), .bool false, .int .i64 2]) ∧ Below w.heap.size w w') ∧
    (∀ w, Calls Try.prog 13 #[.agg (tg Z1)] w fun e w' => e = .returned (.bool true) ∧ Below w.heap.size w w') ∧
    (∀ w, Calls Try.prog 13 #[.agg (tg Z9)] w fun e w' => e = .returned (.bool false) ∧ Below w.heap.size w w') ∧
    (∀ W, (Instr.build 25 #[]).run Try.prog W = .ok (.agg (tg z)) W) ∧ (∀ W, (Instr.build 25 #[(2, .int .i64 9)]).run Try.prog W = .ok (.agg (tg Z9)) W) ∧ (∀ W, (Instr.build 25 #[(2, .int .i64 1), (3, .int .i64 1)]).run Try.prog W = .ok (.agg (tg Z1)) W) ∧
    (∀ W, (Instr.build 23 #[]).run Try.prog W = .ok (.agg (lg Z)) W) ∧ (∀ W, (zeroValue 23).run Try.prog W = .ok (.agg (lg Z)) W) ∧ (∀ W, (zeroValue 25).run Try.prog W = .ok (.agg (tg z)) W) := by
  have hR : ofR L3 = ofV L3 := by unfold ofR; rw [L3_tab]; rfl
  have hE : ofE L3 = 0 := by unfold ofE; rw [L3_tab]; rfl
  have hR0 : ofR zL = [] := by unfold ofR; rw [zL_tab]; rfl
  have hE0 : ofE zL = 2 := by unfold ofE; rw [zL_tab]; rfl
  refine ⟨L3, ofV L3, zL, z0, Z1, Z9, L3_lng, zL_lng, Z1_tst, Z9_tst, z0_tst, L3_len, L3_take, L3_drop, three_call, fun w => ?_, fun w => ?_, fun sp cap w hs => ?_, fun sp cap w hs => ?_, fun sp cap w hs => ?_, fun sp cap w hs => ?_, fun w p A c hw => lput_yes L3 L3_lng L3_tab hw, fun w => lput_nil L3 w, fun w => ?_, fun w => ?_, fun w => ?_, fun w => ?_, build_0, fun W => build_t W 9, fun W => build_tn W 1 1, build_l0, lngZ, tstZ⟩
  · have := of_call L3 L3_lng w
    rw [hR, hE, L3_len] at this
    exact this
  · have := of_call zL zL_lng w
    rw [hR0, hE0] at this
    exact this
  · have := read_call sp 274 cap (ofV L3 ++ [1, 1]) (by rw [List.length_append, L3_len]; rfl) (by omega) w hs
    rw [L3_read] at this
    exact this
  · have := read_call sp 8 cap _ rfl (by omega) w hs
    rw [rd_bad] at this
    exact this
  · have := read_call sp 3 cap _ rfl (by omega) w hs
    rw [rd_short] at this
    exact this
  · have := read_call sp 2 cap _ rfl (by omega) w hs
    rw [rd_arg] at this
    exact this
  · have := step_call z0 z0_tst 1 w
    rw [step_z0] at this
    exact this
  · have := step_call Z9 Z9_tst 1 w
    rw [step_Z9] at this
    exact this
  · have := valid_call Z1 Z1_tst w
    rw [Z1_valid] at this
    exact this
  · have := valid_call Z9 Z9_tst w
    rw [Z9_valid] at this
    exact this
/-- A slice literal of integers. -/
def LitP (n : Nat) (q : List Int) (v : Value) (w : World) : Prop := ∃ g : Nat, v = .slice (some ⟨g, 0, none⟩) n n ∧ w.heap[g]? = some (.cells (icells .i64 q) 3 (0, 0))
theorem LitP_mono (n : Nat) (q : List Int) : MonoV (LitP n q) := fun v w w' h hb => by
  obtain ⟨g, e, hs⟩ := h
  exact ⟨g, e, heap_on hb hs⟩
theorem Src.part {w : World} {k : IntKind} {g off n : Nat} {l : List Int} (h : Src w k (some ⟨g, 0, none⟩) l) (hn : n + off ≤ l.length) : Src w k (some ⟨g, off, none⟩) ((l.drop off).take n) := by
  rcases h with rfl | ⟨g', o, hx, hc⟩
  · exact .inl (by simp)
  · injection hx with hx
    injection hx with h1 h2
    subst h1 h2
    refine .inr ⟨g, off, rfl, fun j hj => ?_⟩
    rw [List.length_take, List.length_drop] at hj
    have := hc (off + j) (by omega)
    rw [Nat.zero_add] at this
    rw [this]
    congr 2
    rw [List.getD_eq_getElem?_getD, List.getD_eq_getElem?_getD, List.getElem?_take, if_pos (by omega), List.getElem?_drop]
theorem ints_at (w : World) (g off g2 n c c2 : Nat) (Q q : List Int) (hl : Q.length = 272) (hS : Src w .i64 (ad0 (some g)) Q) (h2 : w.heap[g2]? = some (.cells (icells .i64 q) 3 (0, 0))) (hn : n + off ≤ 272) (he : (Q.drop off).take n = q) :
    Calls Try.prog 12 #[.slice (some ⟨g, off, none⟩) n c, .slice (some ⟨g2, 0, none⟩) n c2] w fun r w' => r = .returned (.bool true) ∧ Below w.heap.size w w' := by
  have hp := Src.part (off := off) (n := n) hS (by omega)
  rw [he] at hp
  have hlen : q.length = n := by rw [← he, List.length_take, List.length_drop]; omega
  refine (ints_call (some ⟨g, off, none⟩) (some ⟨g2, 0, none⟩) n n c c2 q q w hlen hlen hp (Src.whole h2) (by omega) (by omega)).mono ?_
  rintro e w' ⟨rfl, hb⟩
  exact ⟨by rw [decide_eq_true rfl], hb⟩
theorem wlen_at {w : World} {p : Nat} {A : Option Nat} {c n : Nat} {bs : List Int} (h : Wr w p A c bs) (hn : bs.length = n) :
    Calls Try.prog 19 #[.pointer (some ⟨p, 0, none⟩)] w fun e w' => e = .returned (.int .i64 n) ∧ w = w' := by
  subst hn
  exact wlen_call h
theorem wanted_build {P : Program} {ops : Array Oper} {o : Oper} {a : Act} {w : World} {K : Act → World → Prop} {Q : Exit → Act → World → Prop} (j : Nat) (b : Bool) (hgd : o.guard = some (j, b)) (s : Nat) (hs : (ops[j]?).bind (·.dst) = some s) (hv : a.tmps[s]? = some (.bool b))
    (t : TypeId) (parts : Array (Nat × Operand)) (ho : o.op = .build t parts)
    (vals : Array (Nat × Value)) (u : Value) (hr : ∀ W, (Instr.build t vals).run P W = .ok u W) (hval : (parts.toList.map fun (i, x) => (i, a.eval x)) = vals.toList) (h : K (a.put o.dst u) w) : if Region.wanted o (yielded ops a.tmps) = true then Oper.wp P o a w K Q else K (a.put o.dst undef) w := by
  rw [if_pos (by unfold Region.wanted; rw [hgd]; simp [yielded, hs, hv])]
  unfold Oper.wp execOp
  simp only [ho, Sem.run_bind]
  have hv2 : (parts.map fun (i, x) => (i, a.eval x)) = vals := by
    apply Array.toList_inj.1
    rw [Array.toList_map]
    exact hval
  rw [hv2, hr w]
  exact h
theorem OwnS.empty {w : World} {k : IntKind} {E : TypeId} {g : Nat} (h : w.heap[g]? = some (.cells #[] E (0, 0))) : OwnS w k E (some g) 0 [] := OwnS.lit (l := []) h (by simp)

set_option maxRecDepth 100000 in
set_option maxHeartbeats 4000000 in
theorem wakes_call (w : World) :
    Calls Try.prog 7 #[] w fun e w' => e = .returned (.bool true) ∧ Below w.heap.size w w' := by
  obtain ⟨L, Q, Z, z, Z1, Z9, hL, hZ, hT1, hT9, hTz, hQl, hQt, hQd, c3, cO3, cO0, cR1, cR2, cR3, cR4, cP, cPn, cS1, cS9, cV1, cV9, b0, b9, b1, bl, zl, zt⟩ := wk_all
  have hzL := zl
  have hzT := zt
  have HQL := Lib.hid hQl
  have HQT := Lib.hid hQt
  have HQD := Lib.hid hQd
  have H3 := Lib.hid c3
  have HO3 := Lib.hid cO3
  have HO0 := Lib.hid cO0
  have HR1 := Lib.hid cR1
  have HR2 := Lib.hid cR2
  have HR3 := Lib.hid cR3
  have HR4 := Lib.hid cR4
  have HP := Lib.hid cP
  have HPN := Lib.hid cPn
  have HS1 := Lib.hid cS1
  have HS9 := Lib.hid cS9
  have HV1 := Lib.hid cV1
  have HV9 := Lib.hid cV9
  have HB0 := Lib.hid b0
  have HB9 := Lib.hid b9
  have HB1 := Lib.hid b1
  have HBL := Lib.hid bl
  have HB92 := Lib.hid b9
  have heL := fun W => run_eqi_lng W hL hL
  rw [decide_eq_true rfl] at heL
  have HEL := Lib.hid heL
  have heZ := fun W => run_eqi_tst W hT1 hT1
  rw [decide_eq_true rfl] at heZ
  have HEZ := Lib.hid heZ
  clear heL heZ
  clear c3 cO3 cO0 cR1 cR2 cR3 cR4 cP cPn cS1 cS9 cV1 cV9 b0 b9 b1 bl zl zt hQl hQt hQd
  go_enter Try.func7, Try.ntmps7
  go_upto_region 2 with (first
    | (with_reducible refine (H3.out _).mono ?_; rintro e w1 ⟨rfl, hb1⟩)
    | (with_reducible refine (HO3.out _).mono ?_; rintro e w2 ⟨A, c, rfl, hs2⟩))
  have HB := Lib.hid (hb1.trans (hs2.bel.mono hb1.size))
  have HQ := Lib.hid hs2.own
  have HA := Lib.hid (show ∀ g, A = some g → w.heap.size ≤ g from fun g e => Nat.le_trans hb1.size (hs2.new g e))
  clear hb1 hs2
  go_upto_region 3 with (first
    | (refine wpList_build_is rfl 23 _ rfl _ _ HBL.out rfl ?_)
    | (with_reducible refine (HO0.out _).mono ?_; rintro e w3 ⟨A0, c0, rfl, hs3⟩))
  replace HB := Lib.hid (HB.out.trans (hs3.bel.mono HB.out.size))
  replace HQ := Lib.hid (HQ.out.below hs3.bel)
  clear hs3
  go_upto_region 4 with (first
    | (at_builtin; refine wpList_appendI rfl _ _ 26 rfl 3 .i64 8 intsT intI (some w3.heap.size) 0 [] 0 rfl rfl (OwnS.empty (heap_alloc_last w3 _)) (ad0 A) 272 c rfl Q HQL.out (HQ.out.alloc _).src (by unfold maxLen; omega) (by omega) ?_
       intro A4 c4 w4 h4 hg4 ha4
       have HB4 := Lib.hid ((HB.out.alloc HB.out.size _).grown hg4 (by have := HB.out.size; simp; omega) (fun g e => by injection e with e; have := HB.out.size; omega))
       have HQ4 := Lib.hid ((HQ.out.alloc _).keep hg4 (fun g e e2 => by injection e2 with e2; have := HQ.out.lt e; omega))
       have HO4 := Lib.hid h4
       have HA4 := Lib.hid (show ∀ g, A4 = some g → w3.heap.size ≤ g from fun g e => by
         rcases ha4 with h | h
         · rw [h] at e; injection e with e; omega
         · rw [h] at e; injection e with e; simp at e; omega)
       clear h4 hg4 ha4)
    | (at_builtin; refine wpList_appendI rfl _ _ 26 rfl 3 .i64 8 intsT intI A4 c4 ([] ++ Q) (0 + 272) (by simp [HQL.out]) rfl (HO4.out.alloc _) (some ⟨w4.heap.size, 0, none⟩) 2 2 rfl [1, 1] rfl (Src.whole (l := [1, 1]) (heap_alloc_last w4 _)) (by unfold maxLen; omega) (by omega) ?_
       intro A5 c5 w5 h5 hg5 ha5
       have HB5 := Lib.hid ((HB4.out.alloc HB4.out.size _).grown hg5 (by have := HB4.out.size; simp; omega) (fun g e => by have := HA4.out g e; have := HB.out.size; omega))
       have HQ5 := Lib.hid ((HQ4.out.alloc _).keep hg5 (fun g e e2 => by have h1 := HA4.out g e2; have h2 := HQ.out.lt e; omega))
       have HS5 := Lib.hid h5.src
       clear h5 hg5 ha5)
    | (with_reducible refine (HR1.out _ _ _ HS5.out).mono ?_; rintro e w6 ⟨rfl, hb6⟩)
    | (refine wpList_store_row rfl 23 _ _ rfl w6.heap.size (lg L) rfl rfl 23 (lg Z) (heap_alloc_last w6 _) (lngIk hL) (by rw [lg_size hZ, lg_size hL]) (lg_all _) ?_))
  rw [World.setRow_alloc_new]
  try simp only [Act.put]
  have h5 := heap_alloc_last w6 (.cells (lg L) 23)
  have hb7 := hb6.alloc (o := .cells (lg L) 23) hb6.size
  replace HQ := Lib.hid (HQ5.out.below hb7)
  replace HB := Lib.hid (HB5.out.trans (hb7.mono HB5.out.size))
  obtain ⟨g5, hg5⟩ : ∃ g5, g5 = w6.heap.size := ⟨_, rfl⟩
  rw [← hg5] at h5 ⊢
  have H5 := Lib.hid h5
  clear hg5 h5 hb6 hb7 HB5 HQ5 HS5 HB4 HQ4 HO4 HA4
  generalize w6.alloc (.cells (lg L) 23) = w7 at H5 HQ HB ⊢
  have hS : Src (w7.alloc (.cells #[.int .i64 0, .int .i64 0, .int .i64 0, .int .i64 0, .int .i64 1, .int .i64 0, .int .i64 1, .int .i64 1] 3)) .i64 (some ⟨w7.heap.size, 0, none⟩) [0, 0, 0, 0, 1, 0, 1, 1] := Src.whole (l := [0, 0, 0, 0, 1, 0, 1, 1]) (heap_alloc_last w7 _)
  go_upto_region 5 with (first
    | (with_reducible refine (HR2.out _ _ _ hS).mono ?_; rintro e x ⟨rfl, hbx⟩)
    | (refine wpList_store_row rfl 23 _ _ rfl x.heap.size (lg Z) rfl rfl 23 (lg Z) (heap_alloc_last x _) (lngIk hZ) rfl (lg_all _) ?_))
  rw [World.setRow_alloc_new]
  try simp only [Act.put]
  have hby := ((below_al w7 _).trans (hbx.mono (by simp))).alloc (o := .cells (lg Z) 23) (Nat.le_trans (by simp) hbx.size)
  replace H5 := Lib.hid (heap_on hby H5.out)
  replace HQ := Lib.hid (HQ.out.below hby)
  replace HB := Lib.hid (HB.out.trans (hby.mono HB.out.size))
  clear hbx hby hS
  generalize x.alloc (.cells (lg Z) 23) = w8 at H5 HQ HB ⊢
  have hS : Src (w8.alloc (.cells #[.int .i64 0, .int .i64 0, .int .i64 0] 3)) .i64 (some ⟨w8.heap.size, 0, none⟩) [0, 0, 0] := Src.whole (l := [0, 0, 0]) (heap_alloc_last w8 _)
  go_upto_region 6 with (first
    | (with_reducible refine (HR3.out _ _ _ hS).mono ?_; rintro e x ⟨rfl, hbx⟩)
    | (refine wpList_store_row rfl 23 _ _ rfl x.heap.size (lg Z) rfl rfl 23 (lg Z) (heap_alloc_last x _) (lngIk hZ) rfl (lg_all _) ?_))
  rw [World.setRow_alloc_new]
  try simp only [Act.put]
  have hby := ((below_al w8 _).trans (hbx.mono (by simp))).alloc (o := .cells (lg Z) 23) (Nat.le_trans (by simp) hbx.size)
  replace H5 := Lib.hid (heap_on hby H5.out)
  replace HQ := Lib.hid (HQ.out.below hby)
  replace HB := Lib.hid (HB.out.trans (hby.mono HB.out.size))
  clear hbx hby hS
  generalize x.alloc (.cells (lg Z) 23) = w9 at H5 HQ HB ⊢
  have hS : Src (w9.alloc (.cells #[.int .i64 0, .int .i64 2] 3)) .i64 (some ⟨w9.heap.size, 0, none⟩) [0, 2] := Src.whole (l := [0, 2]) (heap_alloc_last w9 _)
  go_upto_region 7 with (first
    | (with_reducible refine (HR4.out _ _ _ hS).mono ?_; rintro e x ⟨rfl, hbx⟩)
    | (refine wpList_store_row rfl 23 _ _ rfl x.heap.size (lg Z) rfl rfl 23 (lg Z) (heap_alloc_last x _) (lngIk hZ) rfl (lg_all _) ?_))
  rw [World.setRow_alloc_new]
  try simp only [Act.put]
  have hby := ((below_al w9 _).trans (hbx.mono (by simp))).alloc (o := .cells (lg Z) 23) (Nat.le_trans (by simp) hbx.size)
  replace H5 := Lib.hid (heap_on hby H5.out)
  replace HQ := Lib.hid (HQ.out.below hby)
  replace HB := Lib.hid (HB.out.trans (hby.mono HB.out.size))
  clear hbx hby hS
  generalize x.alloc (.cells (lg Z) 23) = w10 at H5 HQ HB ⊢
  go_upto_region 8 with (with_reducible refine (wnew_call _).mono ?_; rintro e w11 ⟨rfl, hw, hb⟩)
  replace H5 := Lib.hid (heap_on hb H5.out)
  replace HQ := Lib.hid (HQ.out.below hb)
  have hpW := HB.out.size
  have h5lt := (Array.getElem?_eq_some_iff.1 H5.out).1
  replace HB := Lib.hid (HB.out.trans (hb.mono HB.out.size))
  have HN5 := Lib.hid (show g5 ≠ w10.heap.size from fun e => by
    have h1 := hw.hp
    have h2 := H5.out
    rw [e, h1] at h2
    injection h2 with h2
    injection h2 with _ h2
    revert h2
    decide)
  have HNA := Lib.hid (show ∀ g, A = some g → g ≠ w10.heap.size from fun g e e2 => by
    subst e
    obtain ⟨cur, h1, _⟩ := HQ.out.row
    have h2 := hw.hp
    rw [← e2, h1] at h2
    injection h2 with h2
    injection h2 with _ h2
    revert h2
    decide)
  have HW := Lib.hid hw
  obtain ⟨p, hp⟩ : ∃ p, p = w10.heap.size := ⟨_, rfl⟩
  rw [← hp] at HW HN5 HNA hpW ⊢
  clear hp hw hb h5lt
  go_upto_region 9 with (first
    | (with_reducible refine (H3.out _).mono ?_; rintro e w12 ⟨rfl, hb12⟩)
    | (with_reducible refine (HP.out _ _ _ _ (HW.out.below hb12)).mono ?_; rintro e w13 ⟨rfl, A2, c2, hw2, hc2, ha2⟩))
  replace H5 := Lib.hid (hc2.heap (heap_on hb12 H5.out) (fun e => by rcases e with e | e; exact HN5.out e; cases e))
  replace HQ := Lib.hid ((HQ.out.below hb12).ch hc2 (fun g hg e => by rcases e with e | e; exact HNA.out g hg e; cases e))
  replace HB := Lib.hid ((HB.out.trans (hb12.mono HB.out.size)).trans (hc2.below (Nat.le_trans HB.out.size hb12.size) (fun k e => by rcases e with e | e; omega; cases e)))
  replace HW := Lib.hid hw2
  clear hw2 hc2 ha2 hb12 HN5 HNA
  go_upto_region 10 with (first
    | (refine wpList_build_is rfl 25 _ rfl _ _ HB0.out rfl ?_)
    | (with_reducible refine (HS1.out _).mono ?_; rintro e x ⟨rfl, hbx⟩)
    | (refine wpList_store_row rfl 25 _ _ rfl x.heap.size (tg Z1) rfl rfl 25 (tg z) (heap_alloc_last x _) (tstIk hT1.lng.1) (by rw [tg_size hTz.lng.1, tg_size hT1.lng.1]) (tg_all _) ?_))
  rw [World.setRow_alloc_new]
  try simp only [Act.put]
  have hby := hbx.alloc (o := .cells (tg Z1) 25) hbx.size
  have h19 := heap_alloc_last x (.cells (tg Z1) 25)
  replace H5 := Lib.hid (heap_on hby H5.out)
  replace HQ := Lib.hid (HQ.out.below hby)
  replace HB := Lib.hid (HB.out.trans (hby.mono HB.out.size))
  replace HW := Lib.hid (HW.out.below hby)
  obtain ⟨g19, hg19⟩ : ∃ g19, g19 = x.heap.size := ⟨_, rfl⟩
  rw [← hg19] at h19 ⊢
  have H19 := Lib.hid h19
  clear hbx hby hg19 h19
  generalize x.alloc (.cells (tg Z1) 25) = w14 at H5 HQ HB HW H19 ⊢
  go_upto_region 11 with (first
    | (refine wpList_build_is rfl 25 _ rfl _ _ HB9.out rfl ?_)
    | (with_reducible refine (HS9.out _).mono ?_; rintro e x ⟨rfl, hbx⟩)
    | (refine wpList_store_row rfl 25 _ _ rfl x.heap.size (tg z) rfl rfl 25 (tg z) (heap_alloc_last x _) (tstIk hTz.lng.1) rfl (tg_all _) ?_))
  rw [World.setRow_alloc_new]
  try simp only [Act.put]
  have hby := hbx.alloc (o := .cells (tg z) 25) hbx.size
  replace H5 := Lib.hid (heap_on hby H5.out)
  replace HQ := Lib.hid (HQ.out.below hby)
  replace HB := Lib.hid (HB.out.trans (hby.mono HB.out.size))
  replace HW := Lib.hid (HW.out.below hby)
  replace H19 := Lib.hid (heap_on hby H19.out)
  clear hbx hby
  generalize x.alloc (.cells (tg z) 25) = w15 at H5 HQ HB HW H19 ⊢
  obtain ⟨g, rfl⟩ := HQ.out.pos (by rw [HQL.out]; decide)
  rw [ad0_some]
  have hcap := HQ.out.cap
  rw [HQL.out] at hcap
  clear HO3 HO0 HR1 HR2 HR3 HR4 HP HS1 HS9 HB0 HB9 HBL hpW
  go_upto_region 13 with fail
  unfold maxLen at hcap
  have hc1 : 272 ≤ c := hcap.1
  have hc267 : ¬ c = 267 := by omega
  have hc13 : (13 : Int) ≤ (c : Int) := by omega
  have HL1 := Lib.hid hL
  have HCAP := Lib.hid hcap
  clear hcap
  dsimp only [List.append]
  refine wp_region_inv (J := Js [eqv (.slice (some ⟨g, 0, none⟩) 272 c), eqv (.slice (some ⟨g, 0, none⟩) 13 c), LitP 13 [0, 0, 0, 1, 0, 1, 0, 0, 1, 1, 1, 1, 0], eqv (.bool true), eqv (.bool true), eqv (.slice (some ⟨g, 0, none⟩) 272 c), eqv (.slice (some ⟨g, 267, none⟩) 5 (c - 267)), LitP 5 [1, 0, 1, 0, 0], eqv (.bool true), eqv (.bool true), eqv (.bool true), eqv (.int .i64 2), eqv (.bool true), eqv (.bool true), eqv (.bool true), eqv (.agg (lg L)), eqv (.agg (lg L)), eqv (.bool true), eqv (.bool true), eqv (.bool true), eqv (.int .i64 272), eqv (.bool true), eqv (.bool true), eqv (.bool true), eqv (.int .i64 0), eqv (.bool true), eqv (.bool true), eqv (.bool true), eqv (.int .i64 100), eqv (.bool true), eqv (.bool true), eqv (.bool true), eqv (.int .i64 50), eqv (.bool true), eqv (.bool true), eqv (.bool true), eqv (.int .i64 2), eqv (.bool true), eqv (.bool true), eqv (.bool true), eqv (.int .i64 0), eqv (.bool true), eqv (.bool true), eqv (.bool true), eqv (.pointer (some ⟨p, 0, none⟩)), eqv (.int .i64 272), eqv (.bool true), eqv (.bool true), eqv (.bool true), eqv (.agg (lg L)), eqv (.int .i64 2), eqv (.bool true), eqv (.bool true), eqv (.bool true), eqv (.int .i64 0), eqv (.bool true), eqv (.bool true), eqv (.bool true), eqv (.bool false), eqv (.bool true), eqv (.bool true), eqv (.bool true), eqv (.agg (tg Z1)), eqv (.agg (tg Z1)), eqv (.bool true), eqv (.bool true), eqv (.bool true), eqv (.int .i64 2), eqv (.bool true), eqv (.bool true), eqv (.bool true), eqv (.agg (tg Z1)), eqv (.bool true), eqv (.bool true), eqv (.bool true), eqv (.agg (tg Z9)), eqv (.bool false), eqv (.bool true), eqv (.bool true), eqv (.bool true)]) (ds := [86, 87, 88, 89, 90, 91, 92, 93, 94, 95, 96, 97, 98, 99, 100, 101, 102, 103, 104, 105, 106, 107, 108, 109, 110, 111, 112, 113, 114, 115, 116, 117, 118, 119, 120, 121, 122, 123, 124, 125, 126, 127, 128, 129, 130, 131, 132, 133, 134, 135, 136, 137, 138, 139, 140, 141, 142, 143, 144, 145, 146, 147, 148, 149, 150, 151, 152, 153, 154, 155, 156, 157, 158, 159, 160, 161, 162, 163, 164, 0]) (N := 165)
    (B := [(1, .slice (some ⟨g, 0, none⟩) 272 c), (4, .int .i64 2), (5, .pointer (some ⟨g5, 0, none⟩)), (6, .int .i64 272), (7, .int .i64 0), (10, .int .i64 100), (13, .int .i64 50), (16, .int .i64 2), (17, .pointer (some ⟨p, 0, none⟩)), (18, .int .i64 0), (19, .pointer (some ⟨g19, 0, none⟩)), (20, .bool false), (21, .int .i64 0), (24, .int .i64 2)]) (by kernel_rfl) (by kernel_rfl) (Js_mono ⟨eqv_mono _, eqv_mono _, LitP_mono _ _, eqv_mono _, eqv_mono _, eqv_mono _, eqv_mono _, LitP_mono _ _, eqv_mono _, eqv_mono _, eqv_mono _, eqv_mono _, eqv_mono _, eqv_mono _, eqv_mono _, eqv_mono _, eqv_mono _, eqv_mono _, eqv_mono _, eqv_mono _, eqv_mono _, eqv_mono _, eqv_mono _, eqv_mono _, eqv_mono _, eqv_mono _, eqv_mono _, eqv_mono _, eqv_mono _, eqv_mono _, eqv_mono _, eqv_mono _, eqv_mono _, eqv_mono _, eqv_mono _, eqv_mono _, eqv_mono _, eqv_mono _, eqv_mono _, eqv_mono _, eqv_mono _, eqv_mono _, eqv_mono _, eqv_mono _, eqv_mono _, eqv_mono _, eqv_mono _, eqv_mono _, eqv_mono _, eqv_mono _, eqv_mono _, eqv_mono _, eqv_mono _, eqv_mono _, eqv_mono _, eqv_mono _, eqv_mono _, eqv_mono _, eqv_mono _, eqv_mono _, eqv_mono _, eqv_mono _, eqv_mono _, eqv_mono _, eqv_mono _, eqv_mono _, eqv_mono _, eqv_mono _, eqv_mono _, eqv_mono _, eqv_mono _, eqv_mono _, eqv_mono _, eqv_mono _, eqv_mono _, eqv_mono _, eqv_mono _, eqv_mono _, eqv_mono _, eqv_mono _, trivial⟩) rfl rfl (by simp) ?_ ?_
  · refine ⟨?_, ?_, ?_, ?_, ?_, ?_, ?_, ?_, ?_, ?_, ?_, ?_, ?_, ?_, ?_, ?_, ?_, ?_, ?_, ?_, ?_, ?_, ?_, ?_, ?_, ?_, ?_, ?_, ?_, ?_, ?_, ?_, ?_, ?_, ?_, ?_, ?_, ?_, ?_, ?_, ?_, ?_, ?_, ?_, ?_, ?_, ?_, ?_, ?_, ?_, ?_, ?_, ?_, ?_, ?_, ?_, ?_, ?_, ?_, ?_, ?_, ?_, ?_, ?_, ?_, ?_, ?_, ?_, ?_, ?_, ?_, ?_, ?_, ?_, ?_, ?_, ?_, ?_, ?_, ?_, trivial⟩
    · intro a w' hb hdep K hK
      have c1 := hb.at 0 1 _ rfl
      clear hdep
      go_simp
      exact hK _ _ rfl (Below.refl _ _)
    · intro a w' hb hdep K hK
      obtain ⟨v0, e0, j0⟩ := hdep 0 (by kernel_rfl)
      replace e0 : a.tmps[86]? = some v0 := e0
      obtain rfl : v0 = _ := j0
      clear hdep
      go_simp
      exact hK _ _ rfl (Below.refl _ _)
    · intro a w' hb hdep K hK
      clear hdep
      go_simp
      exact hK _ _ ⟨_, rfl, heap_alloc_last w' _⟩ ((Below.refl _ _).alloc (Nat.le_refl _) _)
    · intro a w' hb hdep K hK
      obtain ⟨v1, e1, j1⟩ := hdep 1 (by kernel_rfl)
      replace e1 : a.tmps[87]? = some v1 := e1
      obtain rfl : v1 = _ := j1
      obtain ⟨v2, e2, j2⟩ := hdep 2 (by kernel_rfl)
      replace e2 : a.tmps[88]? = some v2 := e2
      clear hdep
      obtain ⟨g2, rfl, hg2⟩ := j2
      go_simp
      go_at_call 12
      refine (ints_at w' g 0 g2 13 _ _ Q _ HQL.out ((HQ.out.below hb.bel).src) hg2 (by decide) (by rw [List.drop_zero]; exact HQT.out)).mono ?_
      rintro e w20 ⟨rfl, hb20⟩
      exact hK _ _ rfl hb20
    · intro a w' hb hdep K hK
      obtain ⟨v3, e3, j3⟩ := hdep 3 (by kernel_rfl)
      replace e3 : a.tmps[89]? = some v3 := e3
      obtain rfl : v3 = _ := j3
      clear hdep
      go_simp
      exact hK _ _ rfl (Below.refl _ _)
    · intro a w' hb hdep K hK
      have c1 := hb.at 0 1 _ rfl
      obtain ⟨v4, e4, j4⟩ := hdep 4 (by kernel_rfl)
      replace e4 : a.tmps[90]? = some v4 := e4
      obtain rfl : v4 = _ := j4
      clear hdep
      go_simp
      exact hK _ _ rfl (Below.refl _ _)
    · intro a w' hb hdep K hK
      obtain ⟨v5, e5, j5⟩ := hdep 5 (by kernel_rfl)
      replace e5 : a.tmps[91]? = some v5 := e5
      obtain rfl : v5 = _ := j5
      obtain ⟨v4, e4, j4⟩ := hdep 4 (by kernel_rfl)
      replace e4 : a.tmps[90]? = some v4 := e4
      obtain rfl : v4 = _ := j4
      clear hdep
      go_simp
      exact hK _ _ rfl (Below.refl _ _)
    · intro a w' hb hdep K hK
      obtain ⟨v4, e4, j4⟩ := hdep 4 (by kernel_rfl)
      replace e4 : a.tmps[90]? = some v4 := e4
      obtain rfl : v4 = _ := j4
      clear hdep
      go_simp
      exact hK _ _ ⟨_, rfl, heap_alloc_last w' _⟩ ((Below.refl _ _).alloc (Nat.le_refl _) _)
    · intro a w' hb hdep K hK
      obtain ⟨v6, e6, j6⟩ := hdep 6 (by kernel_rfl)
      replace e6 : a.tmps[92]? = some v6 := e6
      obtain rfl : v6 = _ := j6
      obtain ⟨v7, e7, j7⟩ := hdep 7 (by kernel_rfl)
      replace e7 : a.tmps[93]? = some v7 := e7
      obtain ⟨v4, e4, j4⟩ := hdep 4 (by kernel_rfl)
      replace e4 : a.tmps[90]? = some v4 := e4
      obtain rfl : v4 = _ := j4
      clear hdep
      obtain ⟨g2, rfl, hg2⟩ := j7
      go_simp
      go_at_call 12
      refine (ints_at w' g 267 g2 5 _ _ Q _ HQL.out ((HQ.out.below hb.bel).src) hg2 (by decide) (by rw [HQD.out]; rfl)).mono ?_
      rintro e w20 ⟨rfl, hb20⟩
      exact hK _ _ rfl hb20
    · intro a w' hb hdep K hK
      obtain ⟨v4, e4, j4⟩ := hdep 4 (by kernel_rfl)
      replace e4 : a.tmps[90]? = some v4 := e4
      obtain rfl : v4 = _ := j4
      obtain ⟨v8, e8, j8⟩ := hdep 8 (by kernel_rfl)
      replace e8 : a.tmps[94]? = some v8 := e8
      obtain rfl : v8 = _ := j8
      clear hdep
      go_simp
      exact hK _ _ rfl (Below.refl _ _)
    · intro a w' hb hdep K hK
      obtain ⟨v9, e9, j9⟩ := hdep 9 (by kernel_rfl)
      replace e9 : a.tmps[95]? = some v9 := e9
      obtain rfl : v9 = _ := j9
      clear hdep
      go_simp
      exact hK _ _ rfl (Below.refl _ _)
    · intro a w' hb hdep K hK
      have c4 := hb.at 1 4 _ rfl
      obtain ⟨v10, e10, j10⟩ := hdep 10 (by kernel_rfl)
      replace e10 : a.tmps[96]? = some v10 := e10
      obtain rfl : v10 = _ := j10
      clear hdep
      go_simp
      exact hK _ _ rfl (Below.refl _ _)
    · intro a w' hb hdep K hK
      obtain ⟨v11, e11, j11⟩ := hdep 11 (by kernel_rfl)
      replace e11 : a.tmps[97]? = some v11 := e11
      obtain rfl : v11 = _ := j11
      obtain ⟨v10, e10, j10⟩ := hdep 10 (by kernel_rfl)
      replace e10 : a.tmps[96]? = some v10 := e10
      obtain rfl : v10 = _ := j10
      clear hdep
      go_simp
      exact hK _ _ rfl (Below.refl _ _)
    · intro a w' hb hdep K hK
      obtain ⟨v10, e10, j10⟩ := hdep 10 (by kernel_rfl)
      replace e10 : a.tmps[96]? = some v10 := e10
      obtain rfl : v10 = _ := j10
      obtain ⟨v12, e12, j12⟩ := hdep 12 (by kernel_rfl)
      replace e12 : a.tmps[98]? = some v12 := e12
      obtain rfl : v12 = _ := j12
      clear hdep
      go_simp
      exact hK _ _ rfl (Below.refl _ _)
    · intro a w' hb hdep K hK
      obtain ⟨v13, e13, j13⟩ := hdep 13 (by kernel_rfl)
      replace e13 : a.tmps[99]? = some v13 := e13
      obtain rfl : v13 = _ := j13
      clear hdep
      go_simp
      exact hK _ _ rfl (Below.refl _ _)
    · intro a w' hb hdep K hK
      have c5 := hb.at 2 5 _ rfl
      obtain ⟨v14, e14, j14⟩ := hdep 14 (by kernel_rfl)
      replace e14 : a.tmps[100]? = some v14 := e14
      obtain rfl : v14 = _ := j14
      clear hdep
      refine wanted_row 14 true rfl 100 rfl (by assumption) 23 _ rfl g5 (by simp [Act.eval, c5]) 23 (lg L) (0, 0) _ (heap_on hb.bel H5.out) Try.underlying23 rfl (lngIk HL1.out) ?_
      exact hK _ _ rfl (Below.refl _ _)
    · intro a w' hb hdep K hK
      obtain ⟨v14, e14, j14⟩ := hdep 14 (by kernel_rfl)
      replace e14 : a.tmps[100]? = some v14 := e14
      obtain rfl : v14 = _ := j14
      clear hdep
      go_simp
      go_at_call 23
      refine (H3.out w').mono ?_
      rintro e w20 ⟨rfl, hb20⟩
      exact hK _ _ rfl hb20
    · intro a w' hb hdep K hK
      obtain ⟨v15, e15, j15⟩ := hdep 15 (by kernel_rfl)
      replace e15 : a.tmps[101]? = some v15 := e15
      obtain rfl : v15 = _ := j15
      obtain ⟨v16, e16, j16⟩ := hdep 16 (by kernel_rfl)
      replace e16 : a.tmps[102]? = some v16 := e16
      obtain rfl : v16 = _ := j16
      obtain ⟨v14, e14, j14⟩ := hdep 14 (by kernel_rfl)
      replace e14 : a.tmps[100]? = some v14 := e14
      obtain rfl : v14 = _ := j14
      have heq := HEL.out
      clear hdep
      go_simp
      exact hK _ _ rfl (Below.refl _ _)
    · intro a w' hb hdep K hK
      obtain ⟨v14, e14, j14⟩ := hdep 14 (by kernel_rfl)
      replace e14 : a.tmps[100]? = some v14 := e14
      obtain rfl : v14 = _ := j14
      obtain ⟨v17, e17, j17⟩ := hdep 17 (by kernel_rfl)
      replace e17 : a.tmps[103]? = some v17 := e17
      obtain rfl : v17 = _ := j17
      clear hdep
      go_simp
      exact hK _ _ rfl (Below.refl _ _)
    · intro a w' hb hdep K hK
      obtain ⟨v18, e18, j18⟩ := hdep 18 (by kernel_rfl)
      replace e18 : a.tmps[104]? = some v18 := e18
      obtain rfl : v18 = _ := j18
      clear hdep
      go_simp
      exact hK _ _ rfl (Below.refl _ _)
    · intro a w' hb hdep K hK
      have c6 := hb.at 3 6 _ rfl
      obtain ⟨v19, e19, j19⟩ := hdep 19 (by kernel_rfl)
      replace e19 : a.tmps[105]? = some v19 := e19
      obtain rfl : v19 = _ := j19
      clear hdep
      go_simp
      exact hK _ _ rfl (Below.refl _ _)
    · intro a w' hb hdep K hK
      obtain ⟨v20, e20, j20⟩ := hdep 20 (by kernel_rfl)
      replace e20 : a.tmps[106]? = some v20 := e20
      obtain rfl : v20 = _ := j20
      obtain ⟨v19, e19, j19⟩ := hdep 19 (by kernel_rfl)
      replace e19 : a.tmps[105]? = some v19 := e19
      obtain rfl : v19 = _ := j19
      clear hdep
      go_simp
      exact hK _ _ rfl (Below.refl _ _)
    · intro a w' hb hdep K hK
      obtain ⟨v19, e19, j19⟩ := hdep 19 (by kernel_rfl)
      replace e19 : a.tmps[105]? = some v19 := e19
      obtain rfl : v19 = _ := j19
      obtain ⟨v21, e21, j21⟩ := hdep 21 (by kernel_rfl)
      replace e21 : a.tmps[107]? = some v21 := e21
      obtain rfl : v21 = _ := j21
      clear hdep
      go_simp
      exact hK _ _ rfl (Below.refl _ _)
    · intro a w' hb hdep K hK
      obtain ⟨v22, e22, j22⟩ := hdep 22 (by kernel_rfl)
      replace e22 : a.tmps[108]? = some v22 := e22
      obtain rfl : v22 = _ := j22
      clear hdep
      go_simp
      exact hK _ _ rfl (Below.refl _ _)
    · intro a w' hb hdep K hK
      have c7 := hb.at 4 7 _ rfl
      obtain ⟨v23, e23, j23⟩ := hdep 23 (by kernel_rfl)
      replace e23 : a.tmps[109]? = some v23 := e23
      obtain rfl : v23 = _ := j23
      clear hdep
      go_simp
      exact hK _ _ rfl (Below.refl _ _)
    · intro a w' hb hdep K hK
      obtain ⟨v24, e24, j24⟩ := hdep 24 (by kernel_rfl)
      replace e24 : a.tmps[110]? = some v24 := e24
      obtain rfl : v24 = _ := j24
      obtain ⟨v23, e23, j23⟩ := hdep 23 (by kernel_rfl)
      replace e23 : a.tmps[109]? = some v23 := e23
      obtain rfl : v23 = _ := j23
      clear hdep
      go_simp
      exact hK _ _ rfl (Below.refl _ _)
    · intro a w' hb hdep K hK
      obtain ⟨v23, e23, j23⟩ := hdep 23 (by kernel_rfl)
      replace e23 : a.tmps[109]? = some v23 := e23
      obtain rfl : v23 = _ := j23
      obtain ⟨v25, e25, j25⟩ := hdep 25 (by kernel_rfl)
      replace e25 : a.tmps[111]? = some v25 := e25
      obtain rfl : v25 = _ := j25
      clear hdep
      go_simp
      exact hK _ _ rfl (Below.refl _ _)
    · intro a w' hb hdep K hK
      obtain ⟨v26, e26, j26⟩ := hdep 26 (by kernel_rfl)
      replace e26 : a.tmps[112]? = some v26 := e26
      obtain rfl : v26 = _ := j26
      clear hdep
      go_simp
      exact hK _ _ rfl (Below.refl _ _)
    · intro a w' hb hdep K hK
      have c10 := hb.at 5 10 _ rfl
      obtain ⟨v27, e27, j27⟩ := hdep 27 (by kernel_rfl)
      replace e27 : a.tmps[113]? = some v27 := e27
      obtain rfl : v27 = _ := j27
      clear hdep
      go_simp
      exact hK _ _ rfl (Below.refl _ _)
    · intro a w' hb hdep K hK
      obtain ⟨v28, e28, j28⟩ := hdep 28 (by kernel_rfl)
      replace e28 : a.tmps[114]? = some v28 := e28
      obtain rfl : v28 = _ := j28
      obtain ⟨v27, e27, j27⟩ := hdep 27 (by kernel_rfl)
      replace e27 : a.tmps[113]? = some v27 := e27
      obtain rfl : v27 = _ := j27
      clear hdep
      go_simp
      exact hK _ _ rfl (Below.refl _ _)
    · intro a w' hb hdep K hK
      obtain ⟨v27, e27, j27⟩ := hdep 27 (by kernel_rfl)
      replace e27 : a.tmps[113]? = some v27 := e27
      obtain rfl : v27 = _ := j27
      obtain ⟨v29, e29, j29⟩ := hdep 29 (by kernel_rfl)
      replace e29 : a.tmps[115]? = some v29 := e29
      obtain rfl : v29 = _ := j29
      clear hdep
      go_simp
      exact hK _ _ rfl (Below.refl _ _)
    · intro a w' hb hdep K hK
      obtain ⟨v30, e30, j30⟩ := hdep 30 (by kernel_rfl)
      replace e30 : a.tmps[116]? = some v30 := e30
      obtain rfl : v30 = _ := j30
      clear hdep
      go_simp
      exact hK _ _ rfl (Below.refl _ _)
    · intro a w' hb hdep K hK
      have c13 := hb.at 6 13 _ rfl
      obtain ⟨v31, e31, j31⟩ := hdep 31 (by kernel_rfl)
      replace e31 : a.tmps[117]? = some v31 := e31
      obtain rfl : v31 = _ := j31
      clear hdep
      go_simp
      exact hK _ _ rfl (Below.refl _ _)
    · intro a w' hb hdep K hK
      obtain ⟨v32, e32, j32⟩ := hdep 32 (by kernel_rfl)
      replace e32 : a.tmps[118]? = some v32 := e32
      obtain rfl : v32 = _ := j32
      obtain ⟨v31, e31, j31⟩ := hdep 31 (by kernel_rfl)
      replace e31 : a.tmps[117]? = some v31 := e31
      obtain rfl : v31 = _ := j31
      clear hdep
      go_simp
      exact hK _ _ rfl (Below.refl _ _)
    · intro a w' hb hdep K hK
      obtain ⟨v31, e31, j31⟩ := hdep 31 (by kernel_rfl)
      replace e31 : a.tmps[117]? = some v31 := e31
      obtain rfl : v31 = _ := j31
      obtain ⟨v33, e33, j33⟩ := hdep 33 (by kernel_rfl)
      replace e33 : a.tmps[119]? = some v33 := e33
      obtain rfl : v33 = _ := j33
      clear hdep
      go_simp
      exact hK _ _ rfl (Below.refl _ _)
    · intro a w' hb hdep K hK
      obtain ⟨v34, e34, j34⟩ := hdep 34 (by kernel_rfl)
      replace e34 : a.tmps[120]? = some v34 := e34
      obtain rfl : v34 = _ := j34
      clear hdep
      go_simp
      exact hK _ _ rfl (Below.refl _ _)
    · intro a w' hb hdep K hK
      have c16 := hb.at 7 16 _ rfl
      obtain ⟨v35, e35, j35⟩ := hdep 35 (by kernel_rfl)
      replace e35 : a.tmps[121]? = some v35 := e35
      obtain rfl : v35 = _ := j35
      clear hdep
      go_simp
      exact hK _ _ rfl (Below.refl _ _)
    · intro a w' hb hdep K hK
      obtain ⟨v36, e36, j36⟩ := hdep 36 (by kernel_rfl)
      replace e36 : a.tmps[122]? = some v36 := e36
      obtain rfl : v36 = _ := j36
      obtain ⟨v35, e35, j35⟩ := hdep 35 (by kernel_rfl)
      replace e35 : a.tmps[121]? = some v35 := e35
      obtain rfl : v35 = _ := j35
      clear hdep
      go_simp
      exact hK _ _ rfl (Below.refl _ _)
    · intro a w' hb hdep K hK
      obtain ⟨v35, e35, j35⟩ := hdep 35 (by kernel_rfl)
      replace e35 : a.tmps[121]? = some v35 := e35
      obtain rfl : v35 = _ := j35
      obtain ⟨v37, e37, j37⟩ := hdep 37 (by kernel_rfl)
      replace e37 : a.tmps[123]? = some v37 := e37
      obtain rfl : v37 = _ := j37
      clear hdep
      go_simp
      exact hK _ _ rfl (Below.refl _ _)
    · intro a w' hb hdep K hK
      obtain ⟨v38, e38, j38⟩ := hdep 38 (by kernel_rfl)
      replace e38 : a.tmps[124]? = some v38 := e38
      obtain rfl : v38 = _ := j38
      clear hdep
      go_simp
      exact hK _ _ rfl (Below.refl _ _)
    · intro a w' hb hdep K hK
      have c18 := hb.at 9 18 _ rfl
      obtain ⟨v39, e39, j39⟩ := hdep 39 (by kernel_rfl)
      replace e39 : a.tmps[125]? = some v39 := e39
      obtain rfl : v39 = _ := j39
      clear hdep
      go_simp
      exact hK _ _ rfl (Below.refl _ _)
    · intro a w' hb hdep K hK
      obtain ⟨v40, e40, j40⟩ := hdep 40 (by kernel_rfl)
      replace e40 : a.tmps[126]? = some v40 := e40
      obtain rfl : v40 = _ := j40
      obtain ⟨v39, e39, j39⟩ := hdep 39 (by kernel_rfl)
      replace e39 : a.tmps[125]? = some v39 := e39
      obtain rfl : v39 = _ := j39
      clear hdep
      go_simp
      exact hK _ _ rfl (Below.refl _ _)
    · intro a w' hb hdep K hK
      obtain ⟨v39, e39, j39⟩ := hdep 39 (by kernel_rfl)
      replace e39 : a.tmps[125]? = some v39 := e39
      obtain rfl : v39 = _ := j39
      obtain ⟨v41, e41, j41⟩ := hdep 41 (by kernel_rfl)
      replace e41 : a.tmps[127]? = some v41 := e41
      obtain rfl : v41 = _ := j41
      clear hdep
      go_simp
      exact hK _ _ rfl (Below.refl _ _)
    · intro a w' hb hdep K hK
      obtain ⟨v42, e42, j42⟩ := hdep 42 (by kernel_rfl)
      replace e42 : a.tmps[128]? = some v42 := e42
      obtain rfl : v42 = _ := j42
      clear hdep
      go_simp
      exact hK _ _ rfl (Below.refl _ _)
    · intro a w' hb hdep K hK
      have c17 := hb.at 8 17 _ rfl
      obtain ⟨v43, e43, j43⟩ := hdep 43 (by kernel_rfl)
      replace e43 : a.tmps[129]? = some v43 := e43
      obtain rfl : v43 = _ := j43
      clear hdep
      go_simp
      exact hK _ _ rfl (Below.refl _ _)
    · intro a w' hb hdep K hK
      obtain ⟨v44, e44, j44⟩ := hdep 44 (by kernel_rfl)
      replace e44 : a.tmps[130]? = some v44 := e44
      obtain rfl : v44 = _ := j44
      obtain ⟨v43, e43, j43⟩ := hdep 43 (by kernel_rfl)
      replace e43 : a.tmps[129]? = some v43 := e43
      obtain rfl : v43 = _ := j43
      clear hdep
      go_simp
      go_at_call 19
      refine (wlen_at (HW.out.below hb.bel) HQL.out).mono ?_
      rintro e w20 ⟨rfl, rfl⟩
      exact hK _ _ rfl (Below.refl _ _)
    · intro a w' hb hdep K hK
      obtain ⟨v45, e45, j45⟩ := hdep 45 (by kernel_rfl)
      replace e45 : a.tmps[131]? = some v45 := e45
      obtain rfl : v45 = _ := j45
      obtain ⟨v43, e43, j43⟩ := hdep 43 (by kernel_rfl)
      replace e43 : a.tmps[129]? = some v43 := e43
      obtain rfl : v43 = _ := j43
      clear hdep
      go_simp
      exact hK _ _ rfl (Below.refl _ _)
    · intro a w' hb hdep K hK
      obtain ⟨v43, e43, j43⟩ := hdep 43 (by kernel_rfl)
      replace e43 : a.tmps[129]? = some v43 := e43
      obtain rfl : v43 = _ := j43
      obtain ⟨v46, e46, j46⟩ := hdep 46 (by kernel_rfl)
      replace e46 : a.tmps[132]? = some v46 := e46
      obtain rfl : v46 = _ := j46
      clear hdep
      go_simp
      exact hK _ _ rfl (Below.refl _ _)
    · intro a w' hb hdep K hK
      obtain ⟨v47, e47, j47⟩ := hdep 47 (by kernel_rfl)
      replace e47 : a.tmps[133]? = some v47 := e47
      obtain rfl : v47 = _ := j47
      clear hdep
      go_simp
      exact hK _ _ rfl (Below.refl _ _)
    · intro a w' hb hdep K hK
      obtain ⟨v48, e48, j48⟩ := hdep 48 (by kernel_rfl)
      replace e48 : a.tmps[134]? = some v48 := e48
      obtain rfl : v48 = _ := j48
      clear hdep
      go_simp
      go_at_call 23
      refine (H3.out w').mono ?_
      rintro e w20 ⟨rfl, hb20⟩
      exact hK _ _ rfl hb20
    · intro a w' hb hdep K hK
      obtain ⟨v49, e49, j49⟩ := hdep 49 (by kernel_rfl)
      replace e49 : a.tmps[135]? = some v49 := e49
      obtain rfl : v49 = _ := j49
      obtain ⟨v48, e48, j48⟩ := hdep 48 (by kernel_rfl)
      replace e48 : a.tmps[134]? = some v48 := e48
      obtain rfl : v48 = _ := j48
      clear hdep
      go_simp
      go_at_call 16
      refine (HPN.out w').mono ?_
      rintro e w20 ⟨rfl, hb20⟩
      exact hK _ _ rfl hb20
    · intro a w' hb hdep K hK
      obtain ⟨v50, e50, j50⟩ := hdep 50 (by kernel_rfl)
      replace e50 : a.tmps[136]? = some v50 := e50
      obtain rfl : v50 = _ := j50
      obtain ⟨v48, e48, j48⟩ := hdep 48 (by kernel_rfl)
      replace e48 : a.tmps[134]? = some v48 := e48
      obtain rfl : v48 = _ := j48
      clear hdep
      go_simp
      exact hK _ _ rfl (Below.refl _ _)
    · intro a w' hb hdep K hK
      obtain ⟨v48, e48, j48⟩ := hdep 48 (by kernel_rfl)
      replace e48 : a.tmps[134]? = some v48 := e48
      obtain rfl : v48 = _ := j48
      obtain ⟨v51, e51, j51⟩ := hdep 51 (by kernel_rfl)
      replace e51 : a.tmps[137]? = some v51 := e51
      obtain rfl : v51 = _ := j51
      clear hdep
      go_simp
      exact hK _ _ rfl (Below.refl _ _)
    · intro a w' hb hdep K hK
      obtain ⟨v52, e52, j52⟩ := hdep 52 (by kernel_rfl)
      replace e52 : a.tmps[138]? = some v52 := e52
      obtain rfl : v52 = _ := j52
      clear hdep
      go_simp
      exact hK _ _ rfl (Below.refl _ _)
    · intro a w' hb hdep K hK
      have c21 := hb.at 12 21 _ rfl
      obtain ⟨v53, e53, j53⟩ := hdep 53 (by kernel_rfl)
      replace e53 : a.tmps[139]? = some v53 := e53
      obtain rfl : v53 = _ := j53
      clear hdep
      go_simp
      exact hK _ _ rfl (Below.refl _ _)
    · intro a w' hb hdep K hK
      obtain ⟨v54, e54, j54⟩ := hdep 54 (by kernel_rfl)
      replace e54 : a.tmps[140]? = some v54 := e54
      obtain rfl : v54 = _ := j54
      obtain ⟨v53, e53, j53⟩ := hdep 53 (by kernel_rfl)
      replace e53 : a.tmps[139]? = some v53 := e53
      obtain rfl : v53 = _ := j53
      clear hdep
      go_simp
      exact hK _ _ rfl (Below.refl _ _)
    · intro a w' hb hdep K hK
      obtain ⟨v53, e53, j53⟩ := hdep 53 (by kernel_rfl)
      replace e53 : a.tmps[139]? = some v53 := e53
      obtain rfl : v53 = _ := j53
      obtain ⟨v55, e55, j55⟩ := hdep 55 (by kernel_rfl)
      replace e55 : a.tmps[141]? = some v55 := e55
      obtain rfl : v55 = _ := j55
      clear hdep
      go_simp
      exact hK _ _ rfl (Below.refl _ _)
    · intro a w' hb hdep K hK
      obtain ⟨v56, e56, j56⟩ := hdep 56 (by kernel_rfl)
      replace e56 : a.tmps[142]? = some v56 := e56
      obtain rfl : v56 = _ := j56
      clear hdep
      go_simp
      exact hK _ _ rfl (Below.refl _ _)
    · intro a w' hb hdep K hK
      have c20 := hb.at 11 20 _ rfl
      obtain ⟨v57, e57, j57⟩ := hdep 57 (by kernel_rfl)
      replace e57 : a.tmps[143]? = some v57 := e57
      obtain rfl : v57 = _ := j57
      clear hdep
      go_simp
      exact hK _ _ rfl (Below.refl _ _)
    · intro a w' hb hdep K hK
      obtain ⟨v58, e58, j58⟩ := hdep 58 (by kernel_rfl)
      replace e58 : a.tmps[144]? = some v58 := e58
      obtain rfl : v58 = _ := j58
      obtain ⟨v57, e57, j57⟩ := hdep 57 (by kernel_rfl)
      replace e57 : a.tmps[143]? = some v57 := e57
      obtain rfl : v57 = _ := j57
      clear hdep
      go_simp
      exact hK _ _ rfl (Below.refl _ _)
    · intro a w' hb hdep K hK
      obtain ⟨v57, e57, j57⟩ := hdep 57 (by kernel_rfl)
      replace e57 : a.tmps[143]? = some v57 := e57
      obtain rfl : v57 = _ := j57
      obtain ⟨v59, e59, j59⟩ := hdep 59 (by kernel_rfl)
      replace e59 : a.tmps[145]? = some v59 := e59
      obtain rfl : v59 = _ := j59
      clear hdep
      go_simp
      exact hK _ _ rfl (Below.refl _ _)
    · intro a w' hb hdep K hK
      obtain ⟨v60, e60, j60⟩ := hdep 60 (by kernel_rfl)
      replace e60 : a.tmps[146]? = some v60 := e60
      obtain rfl : v60 = _ := j60
      clear hdep
      go_simp
      exact hK _ _ rfl (Below.refl _ _)
    · intro a w' hb hdep K hK
      have c19 := hb.at 10 19 _ rfl
      obtain ⟨v61, e61, j61⟩ := hdep 61 (by kernel_rfl)
      replace e61 : a.tmps[147]? = some v61 := e61
      obtain rfl : v61 = _ := j61
      clear hdep
      refine wanted_row 61 true rfl 147 rfl (by assumption) 25 _ rfl g19 (by simp [Act.eval, c19]) 25 (tg Z1) (0, 0) _ (heap_on hb.bel H19.out) Try.underlying25 rfl (tstIk hT1.lng.1) ?_
      exact hK _ _ rfl (Below.refl _ _)
    · intro a w' hb hdep K hK
      obtain ⟨v61, e61, j61⟩ := hdep 61 (by kernel_rfl)
      replace e61 : a.tmps[147]? = some v61 := e61
      obtain rfl : v61 = _ := j61
      clear hdep
      refine wanted_build 61 true rfl 147 rfl (by assumption) 25 _ rfl _ _ (HB1.out) rfl ?_
      exact hK _ _ rfl (Below.refl _ _)
    · intro a w' hb hdep K hK
      obtain ⟨v62, e62, j62⟩ := hdep 62 (by kernel_rfl)
      replace e62 : a.tmps[148]? = some v62 := e62
      obtain rfl : v62 = _ := j62
      obtain ⟨v63, e63, j63⟩ := hdep 63 (by kernel_rfl)
      replace e63 : a.tmps[149]? = some v63 := e63
      obtain rfl : v63 = _ := j63
      obtain ⟨v61, e61, j61⟩ := hdep 61 (by kernel_rfl)
      replace e61 : a.tmps[147]? = some v61 := e61
      obtain rfl : v61 = _ := j61
      have heq := HEZ.out
      clear hdep
      go_simp
      exact hK _ _ rfl (Below.refl _ _)
    · intro a w' hb hdep K hK
      obtain ⟨v61, e61, j61⟩ := hdep 61 (by kernel_rfl)
      replace e61 : a.tmps[147]? = some v61 := e61
      obtain rfl : v61 = _ := j61
      obtain ⟨v64, e64, j64⟩ := hdep 64 (by kernel_rfl)
      replace e64 : a.tmps[150]? = some v64 := e64
      obtain rfl : v64 = _ := j64
      clear hdep
      go_simp
      exact hK _ _ rfl (Below.refl _ _)
    · intro a w' hb hdep K hK
      obtain ⟨v65, e65, j65⟩ := hdep 65 (by kernel_rfl)
      replace e65 : a.tmps[151]? = some v65 := e65
      obtain rfl : v65 = _ := j65
      clear hdep
      go_simp
      exact hK _ _ rfl (Below.refl _ _)
    · intro a w' hb hdep K hK
      have c24 := hb.at 13 24 _ rfl
      obtain ⟨v66, e66, j66⟩ := hdep 66 (by kernel_rfl)
      replace e66 : a.tmps[152]? = some v66 := e66
      obtain rfl : v66 = _ := j66
      clear hdep
      go_simp
      exact hK _ _ rfl (Below.refl _ _)
    · intro a w' hb hdep K hK
      obtain ⟨v67, e67, j67⟩ := hdep 67 (by kernel_rfl)
      replace e67 : a.tmps[153]? = some v67 := e67
      obtain rfl : v67 = _ := j67
      obtain ⟨v66, e66, j66⟩ := hdep 66 (by kernel_rfl)
      replace e66 : a.tmps[152]? = some v66 := e66
      obtain rfl : v66 = _ := j66
      clear hdep
      go_simp
      exact hK _ _ rfl (Below.refl _ _)
    · intro a w' hb hdep K hK
      obtain ⟨v66, e66, j66⟩ := hdep 66 (by kernel_rfl)
      replace e66 : a.tmps[152]? = some v66 := e66
      obtain rfl : v66 = _ := j66
      obtain ⟨v68, e68, j68⟩ := hdep 68 (by kernel_rfl)
      replace e68 : a.tmps[154]? = some v68 := e68
      obtain rfl : v68 = _ := j68
      clear hdep
      go_simp
      exact hK _ _ rfl (Below.refl _ _)
    · intro a w' hb hdep K hK
      obtain ⟨v69, e69, j69⟩ := hdep 69 (by kernel_rfl)
      replace e69 : a.tmps[155]? = some v69 := e69
      obtain rfl : v69 = _ := j69
      clear hdep
      go_simp
      exact hK _ _ rfl (Below.refl _ _)
    · intro a w' hb hdep K hK
      have c19 := hb.at 10 19 _ rfl
      obtain ⟨v70, e70, j70⟩ := hdep 70 (by kernel_rfl)
      replace e70 : a.tmps[156]? = some v70 := e70
      obtain rfl : v70 = _ := j70
      clear hdep
      refine wanted_row 70 true rfl 156 rfl (by assumption) 25 _ rfl g19 (by simp [Act.eval, c19]) 25 (tg Z1) (0, 0) _ (heap_on hb.bel H19.out) Try.underlying25 rfl (tstIk hT1.lng.1) ?_
      exact hK _ _ rfl (Below.refl _ _)
    · intro a w' hb hdep K hK
      obtain ⟨v71, e71, j71⟩ := hdep 71 (by kernel_rfl)
      replace e71 : a.tmps[157]? = some v71 := e71
      obtain rfl : v71 = _ := j71
      obtain ⟨v70, e70, j70⟩ := hdep 70 (by kernel_rfl)
      replace e70 : a.tmps[156]? = some v70 := e70
      obtain rfl : v70 = _ := j70
      clear hdep
      go_simp
      go_at_call 13
      refine (HV1.out w').mono ?_
      rintro e w20 ⟨rfl, hb20⟩
      exact hK _ _ rfl hb20
    · intro a w' hb hdep K hK
      obtain ⟨v70, e70, j70⟩ := hdep 70 (by kernel_rfl)
      replace e70 : a.tmps[156]? = some v70 := e70
      obtain rfl : v70 = _ := j70
      obtain ⟨v72, e72, j72⟩ := hdep 72 (by kernel_rfl)
      replace e72 : a.tmps[158]? = some v72 := e72
      obtain rfl : v72 = _ := j72
      clear hdep
      go_simp
      exact hK _ _ rfl (Below.refl _ _)
    · intro a w' hb hdep K hK
      obtain ⟨v73, e73, j73⟩ := hdep 73 (by kernel_rfl)
      replace e73 : a.tmps[159]? = some v73 := e73
      obtain rfl : v73 = _ := j73
      clear hdep
      go_simp
      exact hK _ _ rfl (Below.refl _ _)
    · intro a w' hb hdep K hK
      obtain ⟨v74, e74, j74⟩ := hdep 74 (by kernel_rfl)
      replace e74 : a.tmps[160]? = some v74 := e74
      obtain rfl : v74 = _ := j74
      clear hdep
      refine wanted_build 74 true rfl 160 rfl (by assumption) 25 _ rfl _ _ (HB92.out) rfl ?_
      exact hK _ _ rfl (Below.refl _ _)
    · intro a w' hb hdep K hK
      obtain ⟨v75, e75, j75⟩ := hdep 75 (by kernel_rfl)
      replace e75 : a.tmps[161]? = some v75 := e75
      obtain rfl : v75 = _ := j75
      obtain ⟨v74, e74, j74⟩ := hdep 74 (by kernel_rfl)
      replace e74 : a.tmps[160]? = some v74 := e74
      obtain rfl : v74 = _ := j74
      clear hdep
      go_simp
      go_at_call 13
      refine (HV9.out w').mono ?_
      rintro e w20 ⟨rfl, hb20⟩
      exact hK _ _ rfl hb20
    · intro a w' hb hdep K hK
      obtain ⟨v76, e76, j76⟩ := hdep 76 (by kernel_rfl)
      replace e76 : a.tmps[162]? = some v76 := e76
      obtain rfl : v76 = _ := j76
      obtain ⟨v74, e74, j74⟩ := hdep 74 (by kernel_rfl)
      replace e74 : a.tmps[160]? = some v74 := e74
      obtain rfl : v74 = _ := j74
      clear hdep
      go_simp
      exact hK _ _ rfl (Below.refl _ _)
    · intro a w' hb hdep K hK
      obtain ⟨v74, e74, j74⟩ := hdep 74 (by kernel_rfl)
      replace e74 : a.tmps[160]? = some v74 := e74
      obtain rfl : v74 = _ := j74
      obtain ⟨v77, e77, j77⟩ := hdep 77 (by kernel_rfl)
      replace e77 : a.tmps[163]? = some v77 := e77
      obtain rfl : v77 = _ := j77
      clear hdep
      go_simp
      exact hK _ _ rfl (Below.refl _ _)
    · intro a w' hb hdep K hK
      obtain ⟨v78, e78, j78⟩ := hdep 78 (by kernel_rfl)
      replace e78 : a.tmps[164]? = some v78 := e78
      obtain rfl : v78 = _ := j78
      clear hdep
      go_simp
      exact hK _ _ rfl (Below.refl _ _)
  · intro a w' hb hall
    obtain ⟨v, h6, hv⟩ := hall 79 (by decide)
    obtain rfl : v = .bool true := hv
    have HBB := Lib.hid (HB.out.trans (hb.bel.mono HB.out.size))
    have hd := hb.defers
    clear hall hb
    go_wp2
    replace h6 : a.tmps[0]? = some (.bool true) := h6
    exact bodyPost_ret (v := .bool true) (by simp [results, Try.results7, go_sem, h6]) hd ⟨rfl, HBB.out⟩
end Go.Proofs.Ytckopdifjhjppaa
