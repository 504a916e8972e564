/- Package lengthtable: Put. -/
import Derived.Test.YtckopdifjhjppaaLdO
import Derived.Test.YtckopdifjhjppaaBvP
set_option linter.unusedVariables false
set_option linter.unusedSimpArgs false
namespace Go.Proofs.Ytckopdifjhjppaa
open Go.RowKit Go.Shelf
attribute [local go_sem] Oper.semAt_some

theorem wpListIn_load_row_g {F : Fence} {n : Nat} {P : Program} {ops : Array Oper} {rest : List Oper} {o : Oper} {a : Act} {w : World} {Q : Exit → Act → World → Prop} (j : Nat) (want : Bool) (hgd : o.guard = some (j, want)) (s : Nat) (hs : (ops[j]?).bind (·.dst) = some s) (v : Bool) (hv : a.tmps[s]? = some (.bool v)) (hvw : v = want)
    (ty : TypeId) (x : Operand) (ho : o.op = .load ty x)
    (g : Nat) (hx : a.eval x = .pointer (some ⟨g, 0, none⟩)) (t : TypeId) (cs : Array Value) (fr : Nat × Nat) (d : TypeDesc) (hg : w.heap[g]? = some (.cells cs t fr))
    (hu : P.underlying ty = some d) (hd : (match d with | .struct _ | .array _ _ => true | _ => false) = true) (hi : (P.info? ty).map (·.size) = some cs.size)
    (h : wpListIn F n P ops Q rest (a.put o.dst (.agg cs)) w) : wpListIn F n P ops Q (o :: rest) a w := by
  subst hvw
  refine BigFrame.wpListIn_want ?_ (fun K hK => ?_)
  · unfold Region.wanted
    rw [hgd]
    simp [yielded, hs, hv]
  · unfold Oper.wpIn
    refine ⟨by simp [Oper.about, ho], ?_⟩
    rw [Oper.semAt_plain F _ _ (by rw [ho]; intro c hc; cases hc)]
    simp only [execOp, ho, hx, Instr.loadAt, Instr.sureAddr, Sem.run_bind, Sem.run_pure, Result.andThen_ok, run_loadVar_row w g t ty cs fr d hg hu hd hi]
    exact hK _ _ h

/-- What the loop that writes bits keeps. -/
def Wlt (p bw : Nat) (S : Nat → Prop) (pre : List Int) (W : World) : Prop := ∃ (A : Option Nat) (c : Nat), (∀ j, S j ↔ Fp p A j ∨ j = bw) ∧ Wr W p A c pre ∧ W.heap[bw]? = some (.cells #[.pointer (some ⟨p, 0, none⟩)] 35 (0, 0)) ∧ ¬ Fp p A bw
theorem Wlt.keeper (p bw : Nat) : Keeper (Wlt p bw) := by
  constructor
  · rintro S pre W ⟨A, c, hS, hw, hb, hn⟩ k hk
    rcases (hS k).1 hk with h | rfl
    · exact hw.fpLt h
    · exact (Array.getElem?_eq_some_iff.1 hb).1
  · rintro S T pre W W' ⟨A, c, hS, hw, hb, hn⟩ hc hT
    exact ⟨A, c, hS, hw.ch hc (fun k hk e => hT k e ((hS k).2 (.inl hk))), hc.heap hb (fun e => hT _ e ((hS bw).2 (.inr rfl))), hn⟩
theorem of_bit {l : List Int} {pre : List Int} {x : Int} (h : pre ++ [x] <+: ofV l) : x = 0 ∨ x = 1 := encV_bit (gl l 0) l 258 x (h.subset (by simp))
theorem bitsV_one (x : Int) (h : x = 0 ∨ x = 1) : bitsV x 1 = [x] := by rcases h with rfl | rfl <;> rfl

set_option maxRecDepth 100000 in
set_option maxHeartbeats 4000000 in
theorem lput_yes (l : List Int) (h : Lng l) (ht : tableV l = true) {w : World} {p : Nat} {A : Option Nat} {c : Nat} (hw : Wr w p A c []) :
    Calls Try.prog 16 #[.pointer (some ⟨p, 0, none⟩), .agg (lg l)] w fun e w' => e = .returned (.int .i64 0) ∧ ∃ A' c', Wr w' p A' c' (ofV l) ∧ Ch (Fp p A) w w' ∧ (∀ g, A' = some g → A = some g ∨ w.heap.size ≤ g) := by
  have htc := table_call l h
  rw [ht] at htc
  have HT := Lib.hid (fun W => callsIn_wide (n := 8 - 1).2 (htc W))
  clear htc
  have HSQ := Lib.hid (of_seq l h ht)
  have HBT := Lib.hid (fun pre x e => of_bit (l := l) (pre := pre) (x := x) e)
  have HMO := Lib.hid (of_most h ht)
  have HBO := Lib.hid (fun W => callsIn_wide (n := 8 - 1).2 (bitsOf_call l W))
  generalize ofV l = Q at HSQ HBT HMO ⊢
  have hplt : ∀ {k : Nat}, Fp p A k → k < w.heap.size := hw.fpLt
  have HPL := Lib.hid (fun k (e : Fp p A k) => hw.fpLt e)
  have hb0 := heap_alloc2_old w (.cells #[.pointer (some ⟨p, 0, none⟩)] 35) (.cells (lg l) 23)
  have hl0 := heap_alloc2_new w (.cells #[.pointer (some ⟨p, 0, none⟩)] 35) (.cells (lg l) 23)
  have HC0 := Lib.hid (((Ch.refl (fun _ => False) w).alloc (.cells #[.pointer (some ⟨p, 0, none⟩)] 35)).alloc (.cells (lg l) 23))
  have HW0 := Lib.hid ((hw.alloc (.cells #[.pointer (some ⟨p, 0, none⟩)] 35)).alloc (.cells (lg l) 23))
  have hs0 : ((w.alloc (.cells #[.pointer (some ⟨p, 0, none⟩)] 35)).alloc (.cells (lg l) 23)).heap.size = w.heap.size + 2 := by simp
  clear hw hplt ht
  refine (callsIn_wide (n := 8)).1 ?_
  refine callsIn_of_wp_marks Try.func16 rfl trivial ?_ rfl
  simp only [Try.ntmps16, List.size_toArray, List.length_cons, List.length_nil, Nat.reduceAdd, Nat.reduceSub, Array.replicate_succ, Array.replicate_zero, List.push_toArray, List.append_toArray, List.nil_append, List.cons_append]
  gi_upto_region 1 with fail
  generalize (w.alloc (.cells #[.pointer (some ⟨p, 0, none⟩)] 35)).alloc (.cells (lg l) 23) = w1 at hb0 hl0 HC0 HW0 hs0 ⊢
  have hcb0 := Boxed.cell hb0
  gi_upto_region 3 with (first
    | (refine wpListIn_load_row_g 2 false rfl 8 rfl _ rfl rfl 23 _ rfl (w.heap.size + 1) rfl 23 (lg l) (0, 0) _ hl0 Try.underlying23 rfl (lngIk h) ?_)
    | (refine ⟨trivial, ?_⟩; gi_at_call 28; go_must (refine (HT.out _).mono ?_; rintro e w2 ⟨rfl, hb2⟩)))
  have HC2 := Lib.hid (HC0.out.trans (Ch.of_below (S := fun _ => False) hb2) (fun _ _ e => e))
  have HW2 := Lib.hid (HW0.out.below hb2)
  have hb2x := heap_on hb2 hb0
  have hl2 := heap_on hb2 hl0
  have hsz2 : w.heap.size + 2 ≤ w2.heap.size := by have := hb2.size; omega
  clear hb2 hb0 hl0 HC0 HW0 hs0 hcb0
  gi_wp2_with (first
    | (refine wpListIn_load_row rfl 23 _ rfl (w.heap.size + 1) rfl 23 (lg l) (0, 0) _ hl2 Try.underlying23 rfl (lngIk h) ?_)
    | (refine ⟨trivial, ?_⟩; gi_at_call 30; go_must (refine (HBO.out _).mono ?_; rintro e w3 ⟨rfl, rfl⟩)))
  have hl3 := heap_alloc_last w2 (.cells (lg l) 23)
  have HC3 := Lib.hid (HC2.out.alloc (.cells (lg l) 23))
  have HW3 := HW2.out.alloc (.cells (lg l) 23)
  have hb3 : (w2.alloc (.cells (lg l) 23)).heap[w.heap.size]? = some (.cells #[.pointer (some ⟨p, 0, none⟩)] 35 (0, 0)) := by rw [Below.heap_alloc _ _ _ (by omega)]; exact hb2x
  have hs3 : (w2.alloc (.cells (lg l) 23)).heap.size = w2.heap.size + 1 := by simp
  generalize w2.alloc (.cells (lg l) 23) = w3 at hl3 HC3 HW3 hb3 hs3 ⊢
  have hnb : ¬ Fp p A w.heap.size := fun e => by have := HPL.out _ e; omega
  refine range_all (n := 8) (by omega) (gf := 42) (lb := #[.pointer (some ⟨w2.heap.size, 0, none⟩)]) rfl (enters_of Try.func42 (by kernel_rfl) rfl) (HSQ.out w2.heap.size) rfl
    (Wlt p w.heap.size) (Wlt.keeper _ _) (fun j => Fp p A j ∨ j = w.heap.size) ⟨A, c, fun _ => Iff.rfl, HW3, hb3, hnb⟩ (fun X hX => hX.heap hl3 (fun e => e)) (fun k hk => ⟨fun e => ?_, by rw [hk]; omega⟩) (fun x => _) (fun l' x X K hK => by gi_wp2; exact hK) ?body ?done
  · rcases e with e | e
    · have := HPL.out _ e; omega
    · omega
  case body =>
    rintro l' S pre x X ⟨A1, c1, hS, hw1, hb1, hn1⟩ hpre
    have hx := HBT.out pre x hpre
    have hpl := pre_len hpre
    have hcb := Boxed.cell hb1
    have HX := Lib.hid hx
    have hx0 : 0 ≤ x := by omega
    have hx1 : x ≤ 1 := by omega
    have HW1 := Lib.hid hw1
    have HH := Lib.hid (show (∀ j, S j ↔ Fp p A1 j ∨ j = w.heap.size) ∧ X.heap[w.heap.size]? = some (.cells #[.pointer (some ⟨p, 0, none⟩)] 35 (0, 0)) ∧ ¬ Fp p A1 w.heap.size from ⟨hS, hb1, hn1⟩)
    have hm := HMO.out
    have dx1 : decide (x < 0) = false := by simpa using hx0
    have dx2 : decide (1 < x) = false := by simpa using hx1
    have hwr : IntKind.u32.wrap x = x := by rcases hx with rfl | rfl <;> rfl
    clear hx hS hb1 hn1 hw1 hl3 HC3 HW3 hb3 hpre HBT HSQ
    gi_wp2_with (refine ⟨trivial, ?_⟩; gi_at_call 36; go_must (refine (CallsIn.inRound l' (callsIn_wide.2 (put_yes HW1.out x hx0 (by omega) 1 (by omega) (by simp; omega) (by omega)))).mono ?_; rintro e X1 ⟨rfl, A2, c2, hw2, hc2, ha2⟩))
    obtain ⟨hS, hb1, hn1⟩ := HH.out
    rw [bitsV_one x HX.out] at hw2
    have hwX : w.heap.size < X.heap.size := (Array.getElem?_eq_some_iff.1 hb1).1
    refine ⟨fun j => Fp p A2 j ∨ j = w.heap.size, ⟨A2, c2, fun _ => Iff.rfl, hw2, hc2.heap hb1 hn1, fun e => ?_⟩, hc2.mono (fun i _ e => (hS i).2 (.inl e)), fun k hk => ?_⟩
    · rcases e with e | e
      · exact hn1 (.inl e)
      · rcases ha2 _ e with e | e
        · exact hn1 (.inr e)
        · omega
    · rcases hk with (e | e) | e
      · exact .inl ((hS k).2 (.inl (.inl e)))
      · rcases ha2 _ e with e | e
        · exact .inl ((hS k).2 (.inl (.inr e)))
        · exact .inr e
      · exact .inl ((hS k).2 (.inr e))
  case done =>
    rintro D S X hD ⟨A1, c1, hS, hw1, hb1, hn1⟩ hDd hnD hc hs
    have HH := Lib.hid (show (∀ j, S j ↔ Fp p A1 j ∨ j = w.heap.size) ∧ Wr X p A1 c1 Q ∧ Ch (fun j => Fp p A j ∨ j = w.heap.size) w3 X ∧ (∀ k, S k → (Fp p A k ∨ k = w.heap.size) ∨ w3.heap.size ≤ k) ∧ ¬ Fp p A1 w.heap.size from ⟨hS, hw1, hc, hs, hn1⟩)
    clear hS hw1 hb1 hn1 hc hs hl3 hb3 HW3
    gi_wp2
    refine leaves_marks [D] 0 X ⟨by simp, fun E hE => by rw [List.mem_singleton] at hE; omega, fun E hE => by rw [List.mem_singleton] at hE; rw [hE]; exact hDd⟩ (fun w' hc' => ?_)
    obtain ⟨hS, hw1, hc, hs, hn1⟩ := HH.out
    refine ⟨_, results_tmp rfl _ _ _, rfl, A1, c1, hw1.ch hc' (fun k hk e => ?_), ?_, fun g hg => ?_⟩
    · rw [List.mem_singleton] at e
      exact hnD ((hS D).2 (.inl (by rw [← e]; exact hk)))
    · have h1 : Ch (Fp p A) w X := (HC3.out.mono (S' := Fp p A) (fun _ _ e => e.elim)).trans hc (fun i hi e => by
        rcases e with e | e
        · exact e
        · omega)
      exact h1.trans hc' (fun i hi e => by rw [List.mem_singleton] at e; omega)
    · rcases hs g ((hS g).2 (.inl (.inr hg))) with (e | e) | e
      · rcases e with e | e
        · exact absurd e (hw1.ne hg)
        · exact .inl e
      · exact absurd (.inr (by rw [← e]; exact hg)) hn1
      · exact .inr (by omega)

set_option maxRecDepth 100000 in
set_option maxHeartbeats 1000000 in
theorem lput_no (l : List Int) (h : Lng l) (ht : tableV l = false) (p : Nat) (w : World) :
    Calls Try.prog 16 #[.pointer (some ⟨p, 0, none⟩), .agg (lg l)] w fun e w' => e = .returned (.int .i64 2) ∧ Below w.heap.size w w' := by
  have htc := table_call l h
  rw [ht] at htc
  have HT := Lib.hid htc
  clear htc
  have hl0 := heap_alloc2_new w (.cells #[.pointer (some ⟨p, 0, none⟩)] 35) (.cells (lg l) 23)
  have hb0 := heap_alloc2_old w (.cells #[.pointer (some ⟨p, 0, none⟩)] 35) (.cells (lg l) 23)
  have HB := Lib.hid (show Below w.heap.size w ((w.alloc (.cells #[.pointer (some ⟨p, 0, none⟩)] 35)).alloc (.cells (lg l) 23)) from ((Below.refl _ _).alloc (Nat.le_refl _) _).alloc (by simp) _)
  go_enter Try.func16, Try.ntmps16
  go_upto_region 1 with fail
  generalize (w.alloc (.cells #[.pointer (some ⟨p, 0, none⟩)] 35)).alloc (.cells (lg l) 23) = w1 at hl0 hb0 HB ⊢
  have hcb0 := Boxed.cell hb0
  go_wp2_with (first
    | (refine wpList_load_row_g 2 false rfl 8 rfl _ rfl rfl 23 _ rfl (w.heap.size + 1) rfl 23 (lg l) (0, 0) _ hl0 Try.underlying23 rfl (lngIk h) ?_)
    | (with_reducible refine (HT.out _).mono ?_; rintro e w2 ⟨rfl, hb2⟩))
  go_ret
  exact ⟨rfl, HB.out.trans (hb2.mono HB.out.size)⟩
set_option maxRecDepth 100000 in
theorem lput_nil (l : List Int) (w : World) :
    Calls Try.prog 16 #[.pointer none, .agg (lg l)] w fun e w' => e = .returned (.int .i64 2) ∧ Below w.heap.size w w' := by
  go_enter Try.func16, Try.ntmps16
  go_wp2_with fail
  go_ret
  exact ⟨rfl, ((Below.refl _ _).alloc (Nat.le_refl _) _).alloc (by simp) _⟩
end Go.Proofs.Ytckopdifjhjppaa
