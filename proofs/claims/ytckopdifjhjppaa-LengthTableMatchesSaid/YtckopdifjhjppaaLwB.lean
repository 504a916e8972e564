/- Law LengthTableBack. -/
import Derived.Test.YtckopdifjhjppaaLwK
import Derived.Test.YtckopdifjhjppaaLwW
import Derived.Test.YtckopdifjhjppaaLwO
set_option linter.unusedVariables false
set_option linter.unusedSimpArgs false
namespace Go.Proofs.Ytckopdifjhjppaa
open Go.RowKit

/-! The states on the way over an encoding. -/
def dsV (Q : List Int) (i : Nat) : TS := (runS tableV z0 (Q.take i)).getD z0
structure Walk (l Q : List Int) : Prop where
  zero : dsV Q 0 = z0
  tst : ∀ i, i ≤ Q.length → Tst (dsV Q i)
  step : ∀ i, i < Q.length → stepS tableV (dsV Q i) (Q.getD i 0) = (dsV Q (i + 1), decide (i + 1 = Q.length), 0)
  valid : validS tableV (dsV Q Q.length) = true
  last : (dsV Q Q.length).L = l
  bit : ∀ i, i < Q.length → Q.getD i 0 = 0 ∨ Q.getD i 0 = 1
  wide : 262 ≤ Q.length ∧ Q.length ≤ 8002
  read : ∀ r, readS tableV z0 0 (Q ++ r) = (l, Q.length, 0)
  short : ∀ m, m < Q.length → readS tableV z0 0 (Q.take m) = (z0.L, 0, 50)
theorem walk_of (l : List Int) (h : Lng l) (ht : tableV l = true) : Walk l (ofV l) := by
  have hsm := table_small h ht
  have hrun := run_of tableV l h.1 hsm ht
  have hbit : ∀ b ∈ ofV l, bit b := encV_bit _ _ _
  have hlen := of_len l hsm
  have hread := read_of tableV l h.1 hsm ht
  have hshort := read_short tableV l h.1 hsm ht
  generalize ofV l = Q at hrun hbit hlen hread hshort
  have hD : ∀ i, i ≤ Q.length → ∃ e, runS tableV z0 (Q.take i) = some e ∧ dsV Q i = e ∧ (∃ f k, Rch tableV f k e ∧ Cnt f k e) := fun i hi => by
    have hz : ∃ e, runS tableV z0 (Q.take i) = some e := by
      rw [← List.take_append_drop i Q] at hrun
      obtain ⟨e, h1, _⟩ := runS_pre tableV z0 _ _ _ hrun
      exact ⟨e, h1⟩
    obtain ⟨e, he⟩ := hz
    obtain ⟨g, h1, h2⟩ := Rch.run tableV _ (Rch.zero (T := tableV) 0) (fun e => absurd e (by show ¬ (4 : Int) ≤ 0; decide)) (fun b hb => hbit b (List.mem_of_mem_take hb)) he
    exact ⟨e, he, by unfold dsV; rw [he]; rfl, g, _, h1, h2⟩
  have hgb : ∀ i, i < Q.length → Q.getD i 0 = 0 ∨ Q.getD i 0 = 1 := fun i hi => by
    rw [List.getD_eq_getElem?_getD, List.getElem?_eq_getElem hi]
    exact hbit _ (List.getElem_mem hi)
  refine ⟨rfl, fun i hi => ?_, fun i hi => ?_, ?_, ?_, hgb, hlen, hread, hshort⟩
  · obtain ⟨e, _, h2, f, k, h3, _⟩ := hD i hi
    rw [h2]
    exact h3.tst
  · obtain ⟨e, h1, h2, f, k, h3, h4⟩ := hD i (by omega)
    obtain ⟨e2, g1, g2, _⟩ := hD (i + 1) (by omega)
    obtain ⟨e', t1, t2, t3⟩ := run_take tableV hrun i hi
    rw [h1] at t1
    injection t1 with t1
    subst t1
    rw [drop_at Q i hi] at t3
    obtain ⟨y1, wb, t4⟩ := runS_cons tableV t3
    have hsucc : runS tableV z0 (Q.take (i + 1)) = some (wayS e (Q.getD i 0)) := by
      have e3 : Q.take (i + 1) = Q.take i ++ [Q.getD i 0] := take_snoc_getD Q i hi
      rw [e3, runS_append, h1]
      show runS tableV e [Q.getD i 0] = _
      rw [run_one tableV e _ y1 wb]
      rfl
    rw [g1] at hsucc
    injection hsucc with hsucc
    have hv : validS tableV e = true := valid_of h3
    rw [h2, g2]
    unfold stepS
    rw [hv, if_neg (fun e => e.elim (fun e => by cases e) (fun e => e.elim y1 (fun e => e (hgb i hi)))), wb, if_neg (by decide), ← hsucc]
    have hy : decide (e2.y = 258) = decide (i + 1 = Q.length) := by
      rw [Bool.eq_iff_iff, decide_eq_true_iff, decide_eq_true_iff]
      constructor
      · intro hy
        apply Decidable.byContradiction
        intro hne
        obtain ⟨e', t1, t2, _⟩ := run_take tableV hrun (i + 1) (by omega)
        rw [g1] at t1
        injection t1 with t1
        exact t2 (t1 ▸ hy)
      · intro hy
        have : runS tableV z0 (Q.take (i + 1)) = runS tableV z0 Q := by rw [List.take_of_length_le (by omega)]
        rw [g1, hrun] at this
        injection this with this
        rw [this]
    rw [hy]
  · obtain ⟨e, _, h2, f, k, h3, _⟩ := hD Q.length (Nat.le_refl _)
    rw [h2]
    exact valid_of h3
  · obtain ⟨e, h1, h2, _⟩ := hD Q.length (Nat.le_refl _)
    rw [List.take_of_length_le (Nat.le_refl _), hrun] at h1
    injection h1 with h1
    rw [h2, ← h1]

theorem NewO.over0 {w w0 w4 w5 : World} {A A4 : Option Nat} {c c4 : Nat} {q q4 : List Int} (h : NewO w w4 A c q) (hd : ∀ g, A = some g → A4 ≠ some g) (h4 : NewO w0 w4 A4 c4 q4) (hg : w4.grownBy w5 A4) (hw : ∀ g, A4 = some g → w.heap.size ≤ g) : NewO w w5 A c q :=
  ⟨h.own.keep hg (fun g e => hd g e), h.new, h.bel.grown hg h.bel.size (fun g e => hw g e)⟩

set_option maxRecDepth 100000 in
set_option maxHeartbeats 1000000 in
theorem back_long (l : List Int) (less : Int) (sp : Option Addr) (m d : Nat) (hm : m ≤ 9223372036854775807) (h : 60 < m) (w : World) :
    Calls Try.prog 4 #[.agg (lg l), .slice sp m d, .int .i64 less] w fun e w' => e = .returned (.bool true) ∧ Below w.heap.size w w' := by
  have hwk := wakes_call
  have HB := Lib.hid ((Below.refl w.heap.size w).alloc (Nat.le_refl _) (.cells (lg l) 23))
  have d0 : decide ((60 : Int) < (m : Int)) = true := decide_eq_true (by omega)
  go_enter Try.func4, Try.ntmps4
  go_upto_region 1 with fail
  generalize w.alloc (.cells (lg l) 23) = w1 at HB ⊢
  go_wp2_with (with_reducible refine (hwk _).mono ?_; rintro e z ⟨rfl, hb⟩)
  go_ret
  exact ⟨rfl, HB.out.trans (hb.mono HB.out.size)⟩

set_option maxRecDepth 100000 in
set_option maxHeartbeats 1000000 in
theorem back_no (l : List Int) (h : Lng l) (ht : tableV l = false) (less : Int) (sp : Option Addr) (m d : Nat) (hm : m ≤ 60) (w : World) :
    Calls Try.prog 4 #[.agg (lg l), .slice sp m d, .int .i64 less] w fun e w' => e = .returned (.bool true) ∧ Below w.heap.size w w' := by
  have hwk := Lib.hid wakes_call
  have hoc := fun W => of_call l h W
  have hR0 : ofR l = [] := by unfold ofR; rw [ht]; rfl
  have hE0 : ofE l = 2 := by unfold ofE; rw [ht]; rfl
  rw [hR0, hE0] at hoc
  have HOC := Lib.hid hoc
  have hrt := fun W => rtable_call l h W
  rw [ht] at hrt
  have HRT := Lib.hid hrt
  clear hoc hrt hR0 hE0 ht
  have hg := heap_alloc_last w (.cells (lg l) 23)
  have HB := Lib.hid ((Below.refl w.heap.size w).alloc (Nat.le_refl _) (.cells (lg l) 23))
  have d0 : decide ((60 : Int) < (m : Int)) = false := decide_eq_false (by omega)
  have d0n : decide (60 < m) = false := decide_eq_false (by omega)
  go_enter Try.func4, Try.ntmps4
  go_upto_region 1 with fail
  generalize w.alloc (.cells (lg l) 23) = w1 at hg HB ⊢
  go_upto_region 4 with (first
    | (refine wpList_load_row rfl 23 _ rfl w.heap.size rfl 23 (lg l) (0, 0) _ hg Try.underlying23 rfl (lngIk h) ?_)
    | (with_reducible refine (HOC.out _).mono ?_
       rintro e w2 ⟨A, c, rfl, hs2⟩
       have HB2 := Lib.hid (HB.out.trans (hs2.bel.mono HB.out.size))
       have hg2 := heap_on hs2.bel hg
       clear hs2))
  go_wp2_with (first
    | (refine wpList_load_row_g 7 true rfl 38 rfl _ rfl rfl 23 _ rfl w.heap.size rfl 23 (lg l) (0, 0) _ hg2 Try.underlying23 rfl (lngIk h) ?_)
    | (with_reducible refine (HRT.out _).mono ?_
       rintro e w3 ⟨rfl, hb3⟩
       have HB3 := Lib.hid (HB2.out.trans (hb3.mono HB2.out.size)))
    | (with_reducible refine (hwk.out _).mono ?_
       rintro e w4 ⟨rfl, hb4⟩))
  go_ret
  exact ⟨rfl, HB3.out.trans (hb4.mono HB3.out.size)⟩

set_option maxRecDepth 100000 in
set_option maxHeartbeats 4000000 in
theorem back_yes (l : List Int) (h : Lng l) (ht : tableV l = true) (less : Int) (hless : -9223372036854775808 ≤ less ∧ less ≤ 9223372036854775807) (sp : Option Addr) (m d : Nat) (q : List Int) (hq : q.length = m) (hm : m ≤ 60) (w : World) (hs : Src w .i64 sp q) :
    Calls Try.prog 4 #[.agg (lg l), .slice sp m d, .int .i64 less] w fun e w' => e = .returned (.bool true) ∧ Below w.heap.size w w' := by
  have hwk := Lib.hid wakes_call
  have hwalk := walk_of l h ht
  have hoc := fun W => of_call l h W
  have hR0 : ofR l = ofV l := by unfold ofR; rw [ht]; rfl
  have hE0 : ofE l = 0 := by unfold ofE; rw [ht]; rfl
  rw [hR0, hE0] at hoc
  generalize ofV l = Q at hoc hwalk
  obtain ⟨n, hn⟩ : ∃ n, n = Q.length := ⟨_, rfl⟩
  rw [← hn] at hoc
  have HOC := Lib.hid hoc
  have HN := Lib.hid hn
  have HWK := Lib.hid hwalk
  have hn262 : 262 ≤ n ∧ n ≤ 8002 := by rw [hn]; exact hwalk.wide
  have HS := Lib.hid hs
  have HQ := Lib.hid hq
  clear hoc hR0 hE0 ht hwalk hn hs hq
  have hzL := lngZ
  have hzs := lg_size zL_lng
  have hg := heap_alloc_last w (.cells (lg l) 23)
  have HB := Lib.hid ((Below.refl w.heap.size w).alloc (Nat.le_refl _) (.cells (lg l) 23))
  have d0 : decide ((60 : Int) < (m : Int)) = false := decide_eq_false (by omega)
  have d0n : decide (60 < m) = false := decide_eq_false (by omega)
  go_enter Try.func4, Try.ntmps4
  go_upto_region 1 with fail
  generalize w.alloc (.cells (lg l) 23) = w1 at hg HB ⊢
  go_upto_region 6 with (first
    | (refine wpList_load_row rfl 23 _ rfl w.heap.size rfl 23 (lg l) (0, 0) _ hg Try.underlying23 rfl (lngIk h) ?_)
    | (with_reducible refine (HOC.out _).mono ?_
       rintro e w2 ⟨A, c, rfl, hs2⟩))
  have HB2 := Lib.hid (HB.out.trans (hs2.bel.mono HB.out.size))
  have hg2 := heap_on hs2.bel hg
  have HO2 := Lib.hid hs2
  have hlt2 : w.heap.size < w2.heap.size := (Array.getElem?_eq_some_iff.1 hg2).1
  clear hs2 hg
  go_upto_region 7 with (first
    | (at_builtin; refine wpList_appendI rfl _ _ 26 rfl 3 .i64 8 intsT intI (some w2.heap.size) 0 [] 0 rfl rfl (OwnS.empty (heap_alloc_last w2 _)) (ad0 A) n c rfl Q HN.out.symm (HO2.out.alloc _).own.src (by unfold maxLen; omega) (by omega) ?_
       intro A4 c4 w4 h4 hg4 ha4
       have HN4 := Lib.hid (NewO.app (NewO.fresh HB2.out) h4 hg4 ha4)
       have HO4 := Lib.hid (HO2.out.past hg4)
       have HD4 := Lib.hid (HO2.out.apart ha4)
       have hg4x := (hg4.block w.heap.size (by simp; omega) (fun e => by injection e with e; omega)).trans ((Below.heap_alloc _ _ _ hlt2).trans hg2)
       have hge4 : w2.heap.size ≤ w4.heap.size := Nat.le_trans (by simp) hg4.size
       have HF4 := Lib.hid (show ∀ g, A4 = some g → w2.heap.size ≤ g from fun g e => by
         rcases ha4 with h1 | h1
         · rw [h1] at e; injection e with e; omega
         · rw [h1] at e; injection e with e; simp at e; omega)
       clear h4 hg4 ha4)
    | (at_builtin; refine wpList_appendI rfl _ _ 26 rfl 3 .i64 8 intsT intI A4 c4 ([] ++ Q) n (by simp [HN.out]) rfl HN4.out.own sp m d rfl q HQ.out (HS.out.below HN4.out.bel) (by unfold maxLen; omega) (by omega) ?_
       intro A5 c5 w5 h5 hg5 ha5
       have hs5 := h5.src
       have HO5 := Lib.hid (HO4.out.over0 HD4.out HN4.out hg5 (fun g e => Nat.le_trans HO2.out.bel.size (HF4.out g e)))
       have hg5x := (hg5.block w.heap.size (by omega) (fun e => by have := HF4.out _ e.symm; omega)).trans hg4x
       have HB5 := Lib.hid (HN4.out.bel.grown hg5 HN4.out.bel.size (fun g e => HN4.out.new g e))
       have HR5 := Lib.hid (show Calls Try.prog 17 #[.slice (ad0 A5) (n + m) c5] w5 fun e w' => e = .returned (.tuple #[.agg (lg l), .int .i64 n, .int .i64 0]) ∧ Below w5.heap.size w5 w' from by
         have h := read_call (ad0 A5) (n + m) c5 _ (by simp [HN.out, HQ.out]) (by omega) w5 hs5
         rw [List.nil_append, HWK.out.read q, ← HN.out] at h
         exact h)
       clear h5 hg5 ha5 hs5)
    | (with_reducible refine HR5.out.mono ?_
       rintro e w6 ⟨rfl, hb6⟩)
    | (refine wpList_store_row rfl 23 _ _ rfl w6.heap.size (lg l) rfl rfl 23 (lg zL) (heap_alloc_last w6 _) (lngIk h) (by rw [lg_size zL_lng, lg_size h]) (lg_all _) ?_))
  rw [World.setRow_alloc_new]
  try simp only [Act.put]
  have hby := hb6.alloc (o := .cells (lg l) 23) hb6.size
  have h9 := heap_alloc_last w6 (.cells (lg l) 23)
  have hg7 := heap_on hby hg5x
  have HO7 := Lib.hid (HO5.out.on hby)
  have HB7 := Lib.hid (HB5.out.trans (hby.mono HB5.out.size))
  obtain ⟨g9, hg9⟩ : ∃ g9, g9 = w6.heap.size := ⟨_, rfl⟩
  rw [← hg9] at h9 ⊢
  clear hg9 hby hb6 HB5 HO5 HN4 HO4 HD4 HF4 hg4x hg5x hg2 HB2 HO2 hlt2 hge4
  generalize w6.alloc (.cells (lg l) 23) = w7 at h9 hg7 HO7 HB7 ⊢
  have heq := fun W => run_eqi_lng W h h
  rw [decide_eq_true rfl] at heq
  have e1 : decide ((n : Int) < 262) = false := decide_eq_false (by omega)
  have e2 : decide ((8002 : Int) < (n : Int)) = false := decide_eq_false (by omega)
  have e1n : decide (n < 262) = false := decide_eq_false (by omega)
  have e2n : decide (8002 < n) = false := decide_eq_false (by omega)
  go_upto_region 9 with (first
    | (refine wpList_load_row_g 2 false rfl 58 rfl _ rfl rfl 23 _ rfl g9 rfl 23 (lg l) (0, 0) _ h9 Try.underlying23 rfl (lngIk h) ?_)
    | (refine wpList_load_row_g 2 false rfl 58 rfl _ rfl rfl 23 _ rfl w.heap.size rfl 23 (lg l) (0, 0) _ hg7 Try.underlying23 rfl (lngIk h) ?_))
  clear h9 heq e1 e2 e1n e2n
  have hn1 : IntKind.i64.wrap ((n : Int) - 1) = (n : Int) - 1 := by rw [IntKind.wrap_i64]; omega
  go_upto_region 10 with fail
  have hx2 : ∃ k : Nat, (if (n : Int) - 1 < (if less < 0 then 0 else less) then (n : Int) - 1 else if less < 0 then 0 else less) = k ∧ k < n := by
    refine ⟨(if (n : Int) - 1 < (if less < 0 then 0 else less) then (n : Int) - 1 else if less < 0 then 0 else less).toNat, ?_, ?_⟩
    · split
      · omega
      · split <;> omega
    · split
      · omega
      · split <;> omega
  obtain ⟨k, hk, hkn⟩ := hx2
  rw [hk]
  clear hk hn1
  generalize (if less < 0 then (0 : Int) else less) = mx
  obtain ⟨g, rfl⟩ := HO7.out.own.pos (by rw [← HN.out]; omega)
  obtain ⟨cur, hcur, hcn, hcm, hcs, hcc⟩ := HO7.out.own.row
  rw [ad0_some]
  rw [← HN.out] at hcn
  unfold maxLen at hcm
  have hkc : (k : Int) ≤ (c : Int) := by omega
  have hc0 : ¬ c = 0 := by omega
  have hc00 : ¬ (n : Int) = 0 := by omega
  have hR5 : Calls Try.prog 17 #[.slice (some ⟨g, 0, none⟩) k c] w7 fun e w' => e = .returned (.tuple #[.agg (lg zL), .int .i64 0, .int .i64 50]) ∧ Below w7.heap.size w7 w' := by
    have hp := Src.part (off := 0) (n := k) HO7.out.own.src (by rw [← HN.out]; omega)
    rw [List.drop_zero] at hp
    have h := read_call (some ⟨g, 0, none⟩) k c (Q.take k) (by rw [List.length_take, ← HN.out]; omega) (by omega) w7 hp
    rw [HWK.out.short k (by rw [← HN.out]; exact hkn)] at h
    exact h
  have HCUR := Lib.hid hcur
  have HCC := Lib.hid hcc
  have HG7 := Lib.hid hg7
  clear hcur hcs hcc hg7
  go_upto_region 11 with (first
    | (with_reducible refine hR5.mono ?_
       rintro e w8 ⟨rfl, hb8⟩)
    | (refine wpList_store_row rfl 23 _ _ rfl w8.heap.size (lg zL) rfl rfl 23 (lg zL) (heap_alloc_last w8 _) lngI rfl (lg_all _) ?_))
  rw [World.setRow_alloc_new]
  try simp only [Act.put]
  have hby := hb8.alloc (o := .cells (lg zL) 23) hb8.size
  replace HCUR := Lib.hid (heap_on hby HCUR.out)
  replace HG7 := Lib.hid (heap_on hby HG7.out)
  have HB8 := Lib.hid (HB7.out.trans (hby.mono HB7.out.size))
  clear hby hb8 HB7 HO7 hR5
  generalize w8.alloc (.cells (lg zL) 23) = w9 at HCUR HG7 HB8 ⊢
  have hzT := tstZ
  go_upto_region 15 with fail
  have h15 := heap_alloc_last w9 (.cells (tg z0) 25)
  have hal := below_al w9 (.cells (tg z0) 25)
  have hc10 := heap_on hal HCUR.out
  have hg10 := heap_on hal HG7.out
  have hb10 := HB8.out.trans (hal.mono HB8.out.size)
  have hlt : g < w9.heap.size ∧ w.heap.size < w9.heap.size := ⟨(Array.getElem?_eq_some_iff.1 HCUR.out).1, (Array.getElem?_eq_some_iff.1 HG7.out).1⟩
  obtain ⟨g15, hg15⟩ : ∃ g15, g15 = w9.heap.size := ⟨_, rfl⟩
  rw [← hg15] at h15 hlt ⊢
  clear hg15 hal HCUR HG7 HB8
  generalize w9.alloc (.cells (tg z0) 25) = w10 at h15 hc10 hg10 hb10 ⊢
  rw [← HWK.out.zero] at h15
  go_loopw [16] (fun s wr => ∃ i : Nat, i ≤ n ∧ s = .int .i64 i ∧ wr.heap[g15]? = some (.cells (tg (dsV Q i)) 25 (0, 0)) ∧ wr.heap[g]? = some (.cells cur 3 (0, 0)) ∧ wr.heap[w.heap.size]? = some (.cells (lg l) 23 (0, 0)) ∧ Below w.heap.size w wr) (fun s _ => n - (intOf s).toNat)
  case atStart => exact ⟨0, by omega, rfl, h15, hc10, hg10, hb10⟩
  case round =>
    obtain ⟨i, hi, rfl, hx, hc, hgl, hb⟩ := hrel
    clear h15 hc10 hg10 hb10
    by_cases hlti : i < n
    · have htI := HWK.out.tst i (by rw [← HN.out]; omega)
      have htJ := HWK.out.tst (i + 1) (by rw [← HN.out]; omega)
      have hstep := fun W => step_call (dsV Q i) htI (Q.getD i 0) W
      rw [HWK.out.step i (by rw [← HN.out]; exact hlti)] at hstep
      rw [← HN.out] at hstep
      have HCELL := Lib.hid (show ∀ W : World, W.heap[g]? = some (.cells cur 3 (0, 0)) → W.cell? ⟨g, i, none⟩ = some (.int .i64 (Q.getD i 0)) from fun W hW => by
        simp only [World.cell?, hW]
        exact HCC.out i (by rw [← HN.out]; exact hlti))
      have hcL := htI.lng.1
      have hDL := htJ.lng.1
      have hE : ((i : Int) == (n : Int) - 1) = decide (i + 1 = n) := by
        rw [Bool.eq_iff_iff, beq_iff_eq, decide_eq_true_iff]
        omega
      generalize Q.getD i 0 = x at hstep HCELL
      generalize dsV Q i = c at hstep hcL hx
      generalize hDD : dsV Q (i + 1) = D at hstep hDL
      have HDD := Lib.hid hDD
      generalize decide (i + 1 = n) = dn at hstep hE
      have HE := Lib.hid hE
      have HSTP := Lib.hid hstep
      have hbn : (dn != dn) = false := by cases dn <;> rfl
      have HX := Lib.hid hx
      have HC := Lib.hid hc
      have HGL := Lib.hid hgl
      have HBB := Lib.hid hb
      have hz15 : g15 < wr.heap.size := (Array.getElem?_eq_some_iff.1 hx).1
      have hn1 : IntKind.i64.wrap ((n : Int) - 1) = (n : Int) - 1 := by rw [IntKind.wrap_i64]; omega
      clear hstep hDD hE htI htJ hx hc hgl hb
      go_upto_region 17 with fail
      go_cut [17, 18, 19] (fun s17 s18 s19 wx => ∃ g17 : Nat, s17 = .pointer (some ⟨g17, 0, none⟩) ∧ s18 = .bool dn ∧ s19 = .int .i64 0 ∧ wx.heap[g17]? = some (.cells (tg D) 25 (0, 0)) ∧ g15 < g17 ∧ wx.heap[g15]? = some (.cells (tg c) 25 (0, 0)) ∧ wx.heap[g]? = some (.cells cur 3 (0, 0)) ∧ wx.heap[w.heap.size]? = some (.cells (lg l) 23 (0, 0)) ∧ Below w.heap.size w wx)
      case first =>
        refine wp_region_noPanic ?_
        refine wp_region_held_drew (S := fun W => W.heap[g15]? = some (.cells (tg c) 25 (0, 0)) ∧ W.heap[g]? = some (.cells cur 3 (0, 0)) ∧ W.heap[w.heap.size]? = some (.cells (lg l) 23 (0, 0)) ∧ Below w.heap.size w W) (by kernel_rfl) ⟨HX.out, HC.out, HGL.out, HBB.out.drew⟩ (fun hHeld => ?_)
        refine wpAnyH_take (i := 0) (v := .agg (tg c)) rfl (by kernel_rfl) (by kernel_rfl) (by kernel_rfl) (fun _ _ _ h => h) (yieldsIf_load_mid rfl 25 _ rfl g15 0 rfl (tgl c) _ (fun W hW => tg_whole hW.1) Try.underlying25 rfl (by rw [tgl_len hcL]; exact tstI)) (by assumption) ?_
        try simp only [Act.put, List.getElem_toArray, List.getElem_cons_succ, List.getElem_cons_zero, List.setIfInBounds_toArray, List.set_cons_zero, List.set_cons_succ]
        refine wpAnyH_take (i := 1) (v := ?_) rfl (by kernel_rfl) (by kernel_rfl) (by kernel_rfl) (fun _ _ _ h => h) (Or.inl ⟨by rfl, ?_⟩) (by assumption) ?_
        rotate_left
        · (intro W hSw; go_simp) <;> with_reducible rfl
        try simp only [Act.put, List.getElem_toArray, List.getElem_cons_succ, List.getElem_cons_zero, List.setIfInBounds_toArray, List.set_cons_zero, List.set_cons_succ]
        refine wpAnyH_take (i := 2) (v := ?_) rfl (by kernel_rfl) (by kernel_rfl) (by kernel_rfl) (fun _ _ _ h => h) (Or.inl ⟨by rfl, ?_⟩) (by assumption) ?_
        rotate_left
        · (intro W hSw; go_simp) <;> with_reducible rfl
        try simp only [Act.put, List.getElem_toArray, List.getElem_cons_succ, List.getElem_cons_zero, List.setIfInBounds_toArray, List.set_cons_zero, List.set_cons_succ]
        refine wpAnyH_take (i := 3) (v := ?_) rfl (by kernel_rfl) (by kernel_rfl) (by kernel_rfl) (fun _ _ _ h => h) (Or.inl ⟨by rfl, ?_⟩) (by assumption) ?_
        rotate_left
        · (intro W hSw; have hcW := HCELL.out W hSw.2.1; go_simp) <;> with_reducible rfl
        try simp only [Act.put, List.getElem_toArray, List.getElem_cons_succ, List.getElem_cons_zero, List.setIfInBounds_toArray, List.set_cons_zero, List.set_cons_succ]
        refine wpAnyH_take (i := 4) (v := ?_) rfl (by kernel_rfl) (by kernel_rfl) (by kernel_rfl) (fun _ _ _ h => h) (Or.inl ⟨by rfl, ?_⟩) (by assumption) ?_
        rotate_left
        · (intro W hSw; have hcW := HCELL.out W hSw.2.1; go_simp) <;> with_reducible rfl
        try simp only [Act.put, List.getElem_toArray, List.getElem_cons_succ, List.getElem_cons_zero, List.setIfInBounds_toArray, List.set_cons_zero, List.set_cons_succ]
        refine wpAnyH_ready (rs := [5, 10]) (by kernel_rfl) (by simp) ?_
        refine AllReadyH.cons (o := _) rfl (fun K hK => ?_) (AllReadyH.cons (o := _) rfl (fun K hK => ?_) (AllReadyH.nil))
        · go_simp
          go_at_call 8
          refine (HSTP.out _).mono ?_
          rintro e w5 ⟨rfl, hb5⟩
          have hle5 : wr.heap.size ≤ w5.heap.size := hb5.size
          refine hK.out _ _ ⟨heap_on hb5 hHeld.1, heap_on hb5 hHeld.2.1, heap_on hb5 hHeld.2.2.1, hHeld.2.2.2.trans (hb5.mono hHeld.2.2.2.size)⟩ (fun hHeldN => ?_)
          clear hK K hHeld
          have hHeld := hHeldN
          clear hHeldN
          try simp only [Act.put, List.getElem_toArray, List.getElem_cons_succ, List.getElem_cons_zero, List.setIfInBounds_toArray, List.set_cons_zero, List.set_cons_succ]
          refine wpAnyH_take (i := 6) (v := ?_) rfl (by kernel_rfl) (by kernel_rfl) (by kernel_rfl) (fun _ _ _ h => h) (Or.inl ⟨by rfl, ?_⟩) (by assumption) ?_
          rotate_left
          · (intro W hSw; go_simp) <;> with_reducible rfl
          try simp only [Act.put, List.getElem_toArray, List.getElem_cons_succ, List.getElem_cons_zero, List.setIfInBounds_toArray, List.set_cons_zero, List.set_cons_succ]
          refine wpAnyH_take (i := 7) (v := ?_) rfl (by kernel_rfl) (by kernel_rfl) (by kernel_rfl) (fun _ _ _ h => h) (Or.inl ⟨by rfl, ?_⟩) (by assumption) ?_
          rotate_left
          · (intro W hSw; go_simp) <;> with_reducible rfl
          try simp only [Act.put, List.getElem_toArray, List.getElem_cons_succ, List.getElem_cons_zero, List.setIfInBounds_toArray, List.set_cons_zero, List.set_cons_succ]
          refine wpAnyH_take (i := 8) (v := ?_) rfl (by kernel_rfl) (by kernel_rfl) (by kernel_rfl) (fun _ _ _ h => h) (Or.inl ⟨by rfl, ?_⟩) (by assumption) ?_
          rotate_left
          · (intro W hSw; go_simp) <;> with_reducible rfl
          try simp only [Act.put, List.getElem_toArray, List.getElem_cons_succ, List.getElem_cons_zero, List.setIfInBounds_toArray, List.set_cons_zero, List.set_cons_succ]
          refine wpAnyH_take (i := 9) (v := ?_) rfl (by kernel_rfl) (by kernel_rfl) (by kernel_rfl) (fun _ _ _ h => h) (Or.inl ⟨by rfl, ?_⟩) (by assumption) ?_
          rotate_left
          · (intro W hSw; go_simp) <;> with_reducible rfl
          try simp only [Act.put, List.getElem_toArray, List.getElem_cons_succ, List.getElem_cons_zero, List.setIfInBounds_toArray, List.set_cons_zero, List.set_cons_succ]
          refine wpAnyH_ready (rs := [10]) (by kernel_rfl) (by simp) ?_
          refine AllReadyH.cons (o := _) rfl (fun K hK => ?_) (AllReadyH.nil)
          go_simp
          have hr7 := heap_alloc_last w5 (.cells (tg z0) 25)
          refine hK.out _ _ ⟨heap_on (below_al w5 _) hHeld.1, heap_on (below_al w5 _) hHeld.2.1, heap_on (below_al w5 _) hHeld.2.2.1, hHeld.2.2.2.alloc hHeld.2.2.2.size _⟩ (fun hHeldN => ?_)
          clear K hK hHeld
          have hHeld := hHeldN
          clear hHeldN
          try simp only [Act.put, List.getElem_toArray, List.getElem_cons_succ, List.getElem_cons_zero, List.setIfInBounds_toArray, List.set_cons_zero, List.set_cons_succ]
          refine wpAnyH_ready (rs := [11]) (by kernel_rfl) (by simp) ?_
          refine AllReadyH.cons (o := _) rfl (fun K hK => ?_) (AllReadyH.nil)
          rw [if_pos (by rfl)]
          refine wp_store_row 25 _ _ rfl w5.heap.size (tg D) rfl rfl 25 (tg z0) hr7 (tstIk hDL) (by rw [tg_size z0_len, tg_size hDL]) (tg_all _) ?_
          refine hK.out _ _ ⟨(setRow_other _ _ _ _ (by omega)).trans hHeld.1, (setRow_other _ _ _ _ (by omega)).trans hHeld.2.1, (setRow_other _ _ _ _ (by omega)).trans hHeld.2.2.1, hHeld.2.2.2.setRow (by omega) _⟩ (fun hHeldN => ?_)
          clear K hK hHeld
          have hHeld := hHeldN
          clear hHeldN
          try simp only [Act.put, List.getElem_toArray, List.getElem_cons_succ, List.getElem_cons_zero, List.setIfInBounds_toArray, List.set_cons_zero, List.set_cons_succ]
          refine wpAnyH_take (i := 12) (v := ?_) rfl (by kernel_rfl) (by kernel_rfl) (by kernel_rfl) (fun _ _ _ h => h) (Or.inl ⟨by rfl, ?_⟩) (by assumption) ?_
          rotate_left
          · (intro W hSw; go_simp) <;> with_reducible rfl
          try simp only [Act.put, List.getElem_toArray, List.getElem_cons_succ, List.getElem_cons_zero, List.setIfInBounds_toArray, List.set_cons_zero, List.set_cons_succ]
          refine wpAnyH_take (i := 13) (v := ?_) rfl (by kernel_rfl) (by kernel_rfl) (by kernel_rfl) (fun _ _ _ h => h) (Or.inl ⟨by rfl, ?_⟩) (by assumption) ?_
          rotate_left
          · (intro W hSw; go_simp) <;> with_reducible rfl
          try simp only [Act.put, List.getElem_toArray, List.getElem_cons_succ, List.getElem_cons_zero, List.setIfInBounds_toArray, List.set_cons_zero, List.set_cons_succ]
          refine wpAnyH_done (by kernel_rfl) ?_ _
          refine NoPanic.normal ?_
          have hrr := setRow_heap _ _ _ (tg D) _ _ hr7
          go_wp2
          go_meet
          exact ⟨w5.heap.size, rfl, rfl, rfl, hrr, by omega, hHeld.1, hHeld.2.1, hHeld.2.2.1, hHeld.2.2.2⟩
        · go_simp
          have hr70 := heap_alloc_last wr.drew (.cells (tg z0) 25)
          refine hK.out _ _ ⟨heap_on (below_al wr.drew _) hHeld.1, heap_on (below_al wr.drew _) hHeld.2.1, heap_on (below_al wr.drew _) hHeld.2.2.1, hHeld.2.2.2.alloc hHeld.2.2.2.size _⟩ (fun hHeldN => ?_)
          clear K hK hHeld
          have hHeld := hHeldN
          clear hHeldN
          try simp only [Act.put, List.getElem_toArray, List.getElem_cons_succ, List.getElem_cons_zero, List.setIfInBounds_toArray, List.set_cons_zero, List.set_cons_succ]
          refine wpAnyH_ready (rs := [5]) (by kernel_rfl) (by simp) ?_
          refine AllReadyH.cons (o := _) rfl (fun K hK => ?_) (AllReadyH.nil)
          go_simp
          go_at_call 8
          refine (HSTP.out _).mono ?_
          rintro e w5 ⟨rfl, hb5⟩
          have hr7 := heap_on hb5 hr70
          refine hK.out _ _ ⟨heap_on hb5 hHeld.1, heap_on hb5 hHeld.2.1, heap_on hb5 hHeld.2.2.1, hHeld.2.2.2.trans (hb5.mono hHeld.2.2.2.size)⟩ (fun hHeldN => ?_)
          clear hK K hHeld hr70
          have hHeld := hHeldN
          clear hHeldN
          try simp only [Act.put, List.getElem_toArray, List.getElem_cons_succ, List.getElem_cons_zero, List.setIfInBounds_toArray, List.set_cons_zero, List.set_cons_succ]
          refine wpAnyH_take (i := 6) (v := ?_) rfl (by kernel_rfl) (by kernel_rfl) (by kernel_rfl) (fun _ _ _ h => h) (Or.inl ⟨by rfl, ?_⟩) (by assumption) ?_
          rotate_left
          · (intro W hSw; go_simp) <;> with_reducible rfl
          try simp only [Act.put, List.getElem_toArray, List.getElem_cons_succ, List.getElem_cons_zero, List.setIfInBounds_toArray, List.set_cons_zero, List.set_cons_succ]
          refine wpAnyH_take (i := 7) (v := ?_) rfl (by kernel_rfl) (by kernel_rfl) (by kernel_rfl) (fun _ _ _ h => h) (Or.inl ⟨by rfl, ?_⟩) (by assumption) ?_
          rotate_left
          · (intro W hSw; go_simp) <;> with_reducible rfl
          try simp only [Act.put, List.getElem_toArray, List.getElem_cons_succ, List.getElem_cons_zero, List.setIfInBounds_toArray, List.set_cons_zero, List.set_cons_succ]
          refine wpAnyH_take (i := 8) (v := ?_) rfl (by kernel_rfl) (by kernel_rfl) (by kernel_rfl) (fun _ _ _ h => h) (Or.inl ⟨by rfl, ?_⟩) (by assumption) ?_
          rotate_left
          · (intro W hSw; go_simp) <;> with_reducible rfl
          try simp only [Act.put, List.getElem_toArray, List.getElem_cons_succ, List.getElem_cons_zero, List.setIfInBounds_toArray, List.set_cons_zero, List.set_cons_succ]
          refine wpAnyH_take (i := 9) (v := ?_) rfl (by kernel_rfl) (by kernel_rfl) (by kernel_rfl) (fun _ _ _ h => h) (Or.inl ⟨by rfl, ?_⟩) (by assumption) ?_
          rotate_left
          · (intro W hSw; go_simp) <;> with_reducible rfl
          try simp only [Act.put, List.getElem_toArray, List.getElem_cons_succ, List.getElem_cons_zero, List.setIfInBounds_toArray, List.set_cons_zero, List.set_cons_succ]
          refine wpAnyH_ready (rs := [11]) (by kernel_rfl) (by simp) ?_
          refine AllReadyH.cons (o := _) rfl (fun K hK => ?_) (AllReadyH.nil)
          rw [if_pos (by rfl)]
          refine wp_store_row 25 _ _ rfl wr.heap.size (tg D) rfl rfl 25 (tg z0) hr7 (tstIk hDL) (by rw [tg_size z0_len, tg_size hDL]) (tg_all _) ?_
          refine hK.out _ _ ⟨(setRow_other _ _ _ _ (by omega)).trans hHeld.1, (setRow_other _ _ _ _ (by omega)).trans hHeld.2.1, (setRow_other _ _ _ _ (by omega)).trans hHeld.2.2.1, hHeld.2.2.2.setRow (by omega) _⟩ (fun hHeldN => ?_)
          clear K hK hHeld
          have hHeld := hHeldN
          clear hHeldN
          try simp only [Act.put, List.getElem_toArray, List.getElem_cons_succ, List.getElem_cons_zero, List.setIfInBounds_toArray, List.set_cons_zero, List.set_cons_succ]
          refine wpAnyH_take (i := 12) (v := ?_) rfl (by kernel_rfl) (by kernel_rfl) (by kernel_rfl) (fun _ _ _ h => h) (Or.inl ⟨by rfl, ?_⟩) (by assumption) ?_
          rotate_left
          · (intro W hSw; go_simp) <;> with_reducible rfl
          try simp only [Act.put, List.getElem_toArray, List.getElem_cons_succ, List.getElem_cons_zero, List.setIfInBounds_toArray, List.set_cons_zero, List.set_cons_succ]
          refine wpAnyH_take (i := 13) (v := ?_) rfl (by kernel_rfl) (by kernel_rfl) (by kernel_rfl) (fun _ _ _ h => h) (Or.inl ⟨by rfl, ?_⟩) (by assumption) ?_
          rotate_left
          · (intro W hSw; go_simp) <;> with_reducible rfl
          try simp only [Act.put, List.getElem_toArray, List.getElem_cons_succ, List.getElem_cons_zero, List.setIfInBounds_toArray, List.set_cons_zero, List.set_cons_succ]
          refine wpAnyH_done (by kernel_rfl) ?_ _
          refine NoPanic.normal ?_
          have hrr := setRow_heap _ _ _ (tg D) _ _ hr7
          go_wp2
          go_meet
          exact ⟨wr.heap.size, rfl, rfl, rfl, hrr, by omega, hHeld.1, hHeld.2.1, hHeld.2.2.1, hHeld.2.2.2⟩
      case rest =>
        obtain ⟨g17, rfl, rfl, rfl, h17, h1715, h15, hcc2, hgl2, hbb2⟩ := hcut
        have HGL2 := Lib.hid hgl2
        have HCC2 := Lib.hid hcc2
        have HBB2 := Lib.hid hbb2
        clear hgl2 hcc2 hbb2 HX HC HGL HBB HCELL HSTP
        have hE := HE.out
        go_upto_region 16 with (first
          | (refine wpList_load_row rfl 25 _ rfl g17 rfl 25 (tg D) (0, 0) _ h17 Try.underlying25 rfl (tstIk hDL) ?_)
          | (refine wpList_store_row rfl 25 _ _ rfl g15 (tg D) rfl rfl 25 (tg c) h15 (tstIk hDL) (by rw [tg_size hcL, tg_size hDL]) (tg_all _) ?_))
        try simp only [Act.put]
        have hx2 := setRow_heap _ _ _ (tg D) _ _ h15
        have HX2 := Lib.hid hx2
        have HC3 := Lib.hid ((setRow_other _ _ _ (tg D) (by omega : g ≠ g15)).trans HCC2.out)
        have HG3 := Lib.hid ((setRow_other _ _ _ (tg D) (by omega : w.heap.size ≠ g15)).trans HGL2.out)
        have HB3 := Lib.hid (HBB2.out.setRow (g := g15) (by omega) (tg D))
        clear hx2 h15 h17 hE
        go_wp2_with fail
        exact ⟨⟨i + 1, by omega, by go_num, by rw [HDD.out]; exact HX2.out, HC3.out, HG3.out, HB3.out⟩, by simp [intOf]; omega⟩
    · obtain rfl : i = n := by omega
      have hval := HWK.out.valid
      have hlast := HWK.out.last
      have htI := HWK.out.tst i (by rw [HN.out]; exact Nat.le_refl _)
      rw [← HN.out] at hval hlast
      have hvc := fun W => valid_call (dsV Q i) htI W
      rw [hval] at hvc
      generalize dsV Q i = D at hvc hlast htI hx
      have HVC := Lib.hid hvc
      have hDL := htI.lng.1
      have hrg := tg_range hx hDL
      have heq := fun W => run_eqi_lng W htI.lng h
      rw [decide_eq_true hlast] at heq
      have HB9 := Lib.hid hb
      clear hval hlast hvc hb
      go_wp2_with (first
        | (refine wpList_load_mid rfl 23 _ rfl g15 0 rfl (lg D.L).toList _ hrg Try.underlying23 rfl (by rw [Array.length_toList]; exact lngIk htI.lng) ?_)
        | (refine wpList_load_row rfl 23 _ rfl w.heap.size rfl 23 (lg l) (0, 0) _ hgl Try.underlying23 rfl (lngIk h) ?_)
        | (refine wpList_load_row_g 4 true rfl 125 rfl _ rfl rfl 25 _ rfl g15 rfl 25 (tg D) (0, 0) _ hx Try.underlying25 rfl (tstIk hDL) ?_)
        | (with_reducible refine (HVC.out _).mono ?_
           rintro e z ⟨rfl, hbz⟩
           have HBZ := Lib.hid (HB9.out.trans (hbz.mono HB9.out.size)))
        | (with_reducible refine (hwk.out _).mono ?_
           rintro e z2 ⟨rfl, hbz2⟩))
      go_ret
      exact ⟨rfl, HBZ.out.trans (hbz2.mono HBZ.out.size)⟩

theorem back_call (l : List Int) (h : Lng l) (less : Int) (hless : -9223372036854775808 ≤ less ∧ less ≤ 9223372036854775807) (sp : Option Addr) (m d : Nat) (q : List Int) (w : World) (hr : IsRow .i64 w sp m d q) :
    Calls Try.prog 4 #[.agg (lg l), .slice sp m d, .int .i64 less] w fun e w' => e = .returned (.bool true) ∧ Below w.heap.size w w' := by
  obtain ⟨hl, hs, hwf, h63, _⟩ := hr.src
  by_cases hm : 60 < m
  · exact back_long l less sp m d h63 hm w
  · cases ht : tableV l with
    | true => exact back_yes l h ht less hless sp m d _ hl (by omega) w hs
    | false => exact back_no l h ht less sp m d (by omega) w
end Go.Proofs.Ytckopdifjhjppaa
