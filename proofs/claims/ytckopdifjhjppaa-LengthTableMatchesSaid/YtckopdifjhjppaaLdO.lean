/- Package lengthtable: bitsOf, slices.Collect over it, Of. -/
import Derived.Test.YtckopdifjhjppaaLdJ
import Derived.Test.YtckopdifjhjppaaLdX
set_option linter.unusedVariables false
set_option linter.unusedSimpArgs false
namespace Go.Proofs.Ytckopdifjhjppaa
open Go.RowKit Go.Shelf
attribute [local go_sem] Oper.semAt_some

theorem wpListIn_appendI {F : Fence} {nn : Nat} {P : Program} {ops : Array Oper} {rest : List Oper} {o : Oper} {a : Act} {w : World} {Q : Exit → Act → World → Prop} (hgd : o.guard = none) (s x : Operand) (t : TypeId)
    (ho : o.op = .call { callee := .builtin .append, args := #[s, x], argTypes := #[t, t] })
    (E : TypeId) (k : IntKind) (b : Nat) (ht : P.underlying t = some (.slice E)) (hI : (P.info? E).map (fun i => (i.zero, i.size, i.bytes)) = some (some (.int k 0), 1, b))
    (A : Option Nat) (c : Nat) (l : List Int) (n : Nat) (hn : l.length = n) (hs : a.eval s = .slice (ad0 A) n c) (hown : OwnS w k E A c l) (sp : Option Addr) (m c2 : Nat) (hx : a.eval x = .slice sp m c2) (l2 : List Int) (hl2 : l2.length = m) (hsrc : Src w k sp l2)
    (h63 : n + m ≤ maxLen) (hby : (n + m) * b ≤ 140737488355328)
    (h : ∀ A' c' w', OwnS w' k E A' c' (l ++ l2) → w.grownBy w' A → (A' = A ∨ A' = some w.heap.size) → wpListIn F nn P ops Q rest (a.put o.dst (.slice (ad0 A') (n + m) c')) w') : wpListIn F nn P ops Q (o :: rest) a w := by
  obtain ⟨A', c', w', h1, h2, h3, h4⟩ := run_appendI (P := P) w t o.type E k b ht hI A c l n hn hown sp m c2 l2 hl2 hsrc h63 hby
  refine wpListIn_plain hgd fun K hK => ?_
  unfold Oper.wpIn
  refine ⟨by simp [Oper.about, ho, resolve, Target.leads, Sem.run_pure], ?_⟩
  rw [Oper.semAt_plain F _ _ (by rw [ho]; intro c hc; cases hc)]
  simp [execOp, ho, resolve, invoke, builtin, hs, hx, h1, Result.andThen]
  exact hK _ _ (h A' c' w' h2 h3 h4)

/-- What a loop that collects integers keeps. -/
def Clt (Bs : Nat) (S : Nat → Prop) (pre : List Int) (W : World) : Prop := ∃ (A : Option Nat) (c : Nat), (∀ j, S j ↔ j = Bs ∨ A = some j) ∧ W.heap[Bs]? = some (.cells #[.slice (ad0 A) pre.length c] 26 (0, 0)) ∧ OwnS W .i64 3 A c pre ∧ A ≠ some Bs
theorem Clt.keeper (Bs : Nat) : Keeper (Clt Bs) := by
  constructor
  · rintro S pre W ⟨A, c, hS, hb, ho, hn⟩ k hk
    rcases (hS k).1 hk with rfl | h
    · exact (Array.getElem?_eq_some_iff.1 hb).1
    · exact ho.lt h
  · rintro S T pre W W' ⟨A, c, hS, hb, ho, hn⟩ hc hT
    exact ⟨A, c, hS, hc.heap hb (fun e => hT _ e ((hS Bs).2 (.inl rfl))), ho.ch hc (fun g hg e => hT g e ((hS g).2 (.inr hg))), hn⟩
theorem intsNeInt : 26 ≠ 3 := by decide
theorem pre_len {pre ys : List Int} {x : Int} (h : pre ++ [x] <+: ys) : pre.length + 1 ≤ ys.length := by
  have := h.length_le
  simpa using this

set_option maxRecDepth 100000 in
set_option maxHeartbeats 2000000 in
theorem appendSeq_call (gf : Nat) (lb : Array Value) (ys : List Int) (G : World → Prop) (foot : Nat → Prop) (hseq : SeqC 7 Try.prog gf lb (.int .i64) ys G foot) (eg : ∀ args w, (callFunc gf args).run Try.prog w = .ok (.enter gf args) w) (hlen : ys.length ≤ 1000000)
    (w : World) (hG : ∀ W, Ch (fun _ => False) w W → G W) (hfoot : ∀ k, foot k → k < w.heap.size) :
    Calls Try.prog 41 #[.slice none 0 0, .func (.func gf) #[] lb] w fun e w' => ∃ A c, e = .returned (.slice (ad0 A) ys.length c) ∧ NewO w w' A c ys := by
  refine (callsIn_wide (n := 8)).1 ?_
  refine callsIn_of_wp_marks Try.func41 rfl trivial ?_ rfl
  simp only [Try.ntmps41, List.size_toArray, List.length_cons, List.length_nil, Nat.reduceAdd, Nat.reduceSub, Array.replicate_succ, Array.replicate_zero, List.push_toArray, List.append_toArray, List.nil_append, List.cons_append]
  gi_wp2
  have hb0 := heap_alloc_last w (.cells #[.slice none 0 0] 26)
  have HC0 := Lib.hid ((Ch.refl (fun _ => False) w).alloc (.cells #[.slice none 0 0] 26))
  have hs0 : (w.alloc (.cells #[.slice none 0 0] 26)).heap.size = w.heap.size + 1 := by simp
  generalize w.alloc (.cells #[.slice none 0 0] 26) = w1 at hb0 HC0 hs0 ⊢
  have hI0 : Clt w.heap.size (fun j => j = w.heap.size) [] w1 := ⟨none, 0, fun j => by simp, hb0, OwnS.nil _ _ _, by simp⟩
  refine range_all (n := 8) (by omega) (gf := gf) (lb := lb) rfl eg hseq rfl (Clt w.heap.size) (Clt.keeper _) _ hI0 (fun W hW => hG W (HC0.out.trans hW (fun _ _ e => e))) (fun k hk => ⟨fun e => by have := hfoot k hk; omega, by have := hfoot k hk; omega⟩) (fun x => _) (fun l' x X K hK => by gi_wp2; exact hK) ?body ?done
  case body =>
    rintro l' S pre x X ⟨A, c, hS, hb, ho, hn⟩ hpre
    have hpl := pre_len hpre
    have hcb := Boxed.cell hb
    have hfb := Boxed.frozen hb
    have hbX : w.heap.size < X.heap.size := (Array.getElem?_eq_some_iff.1 hb).1
    have HO := Lib.hid ho
    have HS := Lib.hid hS
    have HB := Lib.hid hb
    have HN := Lib.hid hn
    obtain ⟨n, hnn⟩ : ∃ n, n = pre.length := ⟨_, rfl⟩
    rw [← hnn] at hcb hpl
    have HNN := Lib.hid hnn
    clear hS hb ho hn hnn hpre hseq hG hfoot
    gi_wp2_with (gi_at_builtin; go_must (
      refine wpListIn_appendI rfl _ _ 26 rfl 3 .i64 8 intsT intI A c pre n HNN.out.symm rfl (HO.out.alloc _) (some ⟨X.heap.size, 0, none⟩) 1 1 rfl [x] rfl (Src.one (Boxed.new X 3 (.int .i64 x)).cell) (by unfold maxLen; omega) (by omega) ?_
      intro A' c' X1 hown hgr halt
      have hb1 : X1.heap[w.heap.size]? = some (.cells #[.slice (ad0 A) n c] 26 (0, 0)) := (hgr.block _ (by simp; omega) (fun e => HN.out e.symm)).trans ((Below.heap_alloc _ _ _ hbX).trans (by rw [HNN.out]; exact HB.out))
      have hcb1 := Boxed.cell hb1
      have hfb1 := Boxed.frozen hb1
      obtain ⟨g', rfl⟩ := hown.pos (by simp)
      rw [ad0_some]
      have HO1 := Lib.hid hown
      have HG1 := Lib.hid hgr
      have HA1 := Lib.hid halt
      have HB1 := Lib.hid hb1
      clear hown hgr halt hb1 hcb hfb))
    have hne : g' ≠ w.heap.size := fun e => by
      obtain ⟨cur, e1, _⟩ := HO1.out.row
      have e2 := HB1.out
      rw [← e, e1] at e2
      injection e2 with e2
      injection e2 with _ e2
      exact intsNeInt e2.symm
    have hsz1 : X.heap.size < X1.heap.size := by
      have := HG1.out.size
      simp at this
      omega
    refine ⟨fun j => j = w.heap.size ∨ (some g' : Option Nat) = some j, ⟨some g', c', fun j => Iff.rfl, ?_, (HO1.out.ch ((Ch.refl (fun k => k = w.heap.size) X1).setCell ⟨w.heap.size, 0, none⟩ _ (.inl rfl)) (fun g hg e => hne (by injection hg with hg; rw [hg]; exact e))), fun e => hne (by injection e)⟩, ?_, fun k hk => ?_⟩
    · have := Boxed.set (.slice (some ⟨g', 0, none⟩) (n + 1) c') HB1.out
      have e : (pre ++ [x]).length = n + 1 := by rw [List.length_append, HNN.out]; rfl
      rw [e]
      exact this
    · have h1 : Ch S X X1 := ((Ch.refl S X).alloc _).grown HG1.out (fun g hg => .inl ((HS.out g).2 (.inr hg)))
      exact h1.setCell _ _ (.inl ((HS.out _).2 (.inl rfl)))
    · rcases hk with rfl | hk
      · exact .inl ((HS.out _).2 (.inl rfl))
      · injection hk with hk
        subst hk
        rcases HA1.out with e | e
        · exact .inl ((HS.out _).2 (.inr e.symm))
        · injection e with e
          exact .inr (by simp at e; omega)
  case done =>
    rintro D S X hD ⟨A, c, hS, hb, ho, hn⟩ hDd hnD hc hs
    have hcb := Boxed.cell hb
    have HH := Lib.hid (show _ ∧ _ ∧ _ ∧ _ ∧ _ from ⟨hS, ho, hc, hs, hn⟩)
    clear hseq hG hfoot hS ho hc hs hn hb
    gi_wp2
    refine leaves_marks [D] 0 X ⟨by simp, fun E hE => by rw [List.mem_singleton] at hE; omega, fun E hE => by rw [List.mem_singleton] at hE; rw [hE]; exact hDd⟩ (fun w' hc' => ?_)
    obtain ⟨hS, ho, hc, hs, hn⟩ := HH.out
    refine ⟨_, results_tmp rfl _ _ _, A, c, rfl, ho.ch hc' (fun g hg e => ?_), fun g hg => ?_, ?_⟩
    · rw [List.mem_singleton] at e
      exact hnD ((hS D).2 (.inr (by rw [hg, e])))
    · rcases hs g ((hS g).2 (.inr hg)) with e | e
      · rw [e] at hg; exact absurd hg hn
      · omega
    · have h1 : Ch (fun j => w.heap.size ≤ j) w X := (HC0.out.mono (S' := fun j => w.heap.size ≤ j) (fun _ _ e => e.elim)).trans hc (fun i _ e => by rw [e]; exact Nat.le_refl _)
      have h2 : Ch (fun j => w.heap.size ≤ j) w w' := h1.trans hc' (fun i _ e => by rw [List.mem_singleton] at e; omega)
      exact h2.below (Nat.le_refl _) (fun k e => e)

set_option maxHeartbeats 1000000 in
theorem collect_call (gf : Nat) (lb : Array Value) (ys : List Int) (G : World → Prop) (foot : Nat → Prop) (hseq : SeqC 7 Try.prog gf lb (.int .i64) ys G foot) (eg : ∀ args w, (callFunc gf args).run Try.prog w = .ok (.enter gf args) w) (hlen : ys.length ≤ 1000000)
    (w : World) (hG : ∀ W, Ch (fun _ => False) w W → G W) (hfoot : ∀ k, foot k → k < w.heap.size) :
    Calls Try.prog 29 #[.func (.func gf) #[] lb] w fun e w' => ∃ A c, e = .returned (.slice (ad0 A) ys.length c) ∧ NewO w w' A c ys := by
  have HA := Lib.hid (appendSeq_call gf lb ys G foot hseq eg hlen w hG hfoot)
  clear hseq hG
  generalize ys.length = n at HA ⊢
  go_enter Try.func29, Try.ntmps29
  go_wp2_with (with_reducible refine HA.out.mono ?_
               rintro e w2 ⟨A, c, rfl, hs⟩
               have HS := Lib.hid hs
               clear hs)
  go_ret
  exact ⟨A, c, rfl, HS.out⟩

set_option maxHeartbeats 1000000 in
theorem bitsOf_call (L : List Int) (w : World) :
    Calls Try.prog 30 #[.agg (lg L)] w fun e w' => e = .returned (.func (.func 42) #[] #[.pointer (some ⟨w.heap.size, 0, none⟩)]) ∧ w' = w.alloc (.cells (lg L) 23) := by
  go_enter Try.func30, Try.ntmps30
  go_wp2_with fail
  go_ret
  exact ⟨rfl, rfl⟩

/-- The bits of a table, given by an iterator. -/
theorem of_seq (l : List Int) (h : Lng l) (ht : tableV l = true) (g : Nat) : SeqC 7 Try.prog 42 #[.pointer (some ⟨g, 0, none⟩)] (.int .i64) (ofV l) (fun W => W.heap[g]? = some (.cells (lg l) 23 (0, 0))) (fun k => k = g) := by
  unfold ofV
  exact bitsOf1_in l h (table_small h ht) g 7
theorem of_most {l : List Int} (h : Lng l) (ht : tableV l = true) : (ofV l).length ≤ 8002 := (of_len l (table_small h ht)).2
theorem collect_of (l : List Int) (h : Lng l) (ht : tableV l = true) (W : World) : Calls Try.prog 29 #[.func (.func 42) #[] #[.pointer (some ⟨W.heap.size, 0, none⟩)]] (W.alloc (.cells (lg l) 23)) fun e w' => ∃ A c, e = .returned (.slice (ad0 A) (ofV l).length c) ∧ NewO (W.alloc (.cells (lg l) 23)) w' A c (ofV l) := by
  have hs := of_seq l h ht W.heap.size
  have hm := of_most h ht
  generalize ofV l = Q at hs hm ⊢
  exact collect_call _ _ Q _ _ hs (enters_of Try.func42 (by kernel_rfl) rfl) (by omega) _ (fun X hX => hX.heap (heap_alloc_last W _) (fun e => e)) (fun k hk => by rw [hk]; simp)

set_option maxRecDepth 100000 in
set_option maxHeartbeats 1000000 in
theorem of_call (l : List Int) (h : Lng l) (w : World) :
    Calls Try.prog 10 #[.agg (lg l)] w fun e w' => ∃ A c, e = .returned (.tuple #[.slice (ad0 A) (ofR l).length c, .int .i64 (ofE l)]) ∧ NewO w w' A c (ofR l) := by
  have HT0 := Lib.hid (fun W => table_call l h W)
  have HR := Lib.hid (show ofR l = if tableV l then ofV l else [] from rfl)
  have HE := Lib.hid (show ofE l = if tableV l then 0 else 2 from rfl)
  have HSM := Lib.hid (table_small h)
  have HCC : Unit → tableV l = true → ∀ W : World, Calls Try.prog 29 #[.func (.func 42) #[] #[.pointer (some ⟨W.heap.size, 0, none⟩)]] (W.alloc (.cells (lg l) 23)) fun e w' => ∃ A c, e = .returned (.slice (ad0 A) (ofV l).length c) ∧ NewO (W.alloc (.cells (lg l) 23)) w' A c (ofV l) := fun _ ht W => collect_of l h ht W
  generalize ofV l = Q at HR HCC
  go_enter Try.func10, Try.ntmps10
  go_upto_region 1 with fail
  have hg := heap_alloc_last w (.cells (lg l) 23)
  have HB := Lib.hid ((Below.refl w.heap.size w).alloc (Nat.le_refl _) (.cells (lg l) 23))
  generalize w.alloc (.cells (lg l) 23) = w1 at hg HB ⊢
  cases ht : tableV l with
  | true =>
    have HC := Lib.hid (HCC () ht)
    rw [ht] at HT0 HR HE
    clear HCC HSM ht
    go_upto_region 3 with (first
      | (refine wpList_load_row rfl 23 _ rfl w.heap.size rfl 23 (lg l) (0, 0) _ hg Try.underlying23 rfl (lngIk h) ?_)
      | (with_reducible refine (HT0.out _).mono ?_
         rintro e w2 ⟨rfl, hb2⟩))
    have hg2 := heap_on hb2 hg
    have HB2 := Lib.hid (HB.out.trans (hb2.mono HB.out.size))
    clear hb2 hg HB HT0
    go_wp2_with (first
      | (refine wpList_load_row rfl 23 _ rfl w.heap.size rfl 23 (lg l) (0, 0) _ hg2 Try.underlying23 rfl (lngIk h) ?_)
      | (go_at_call 30
         with_reducible refine (bitsOf_call l _).mono ?_
         rintro e w3 ⟨rfl, rfl⟩)
      | (go_at_call 29
         with_reducible refine (HC.out _).mono ?_
         rintro e w4 ⟨A, c, rfl, hs⟩
         have HS := Lib.hid hs
         clear hs))
    go_returns
    exact ⟨A, c, by rw [HR.out, HE.out]; rfl, by rw [HR.out]; exact ⟨HS.out.own, fun g e => by have := HS.out.new g e; have := HB2.out.size; simp at *; omega, (HB2.out.alloc HB2.out.size _).trans (HS.out.bel.mono (by have := HB2.out.size; simp; omega))⟩⟩
  | false =>
    rw [ht] at HT0 HR HE
    clear ht HCC HSM
    go_wp2_with (first
      | (refine wpList_load_row rfl 23 _ rfl w.heap.size rfl 23 (lg l) (0, 0) _ hg Try.underlying23 rfl (lngIk h) ?_)
      | (with_reducible refine (HT0.out _).mono ?_; rintro e w2 ⟨rfl, hb2⟩))
    go_returns
    exact ⟨none, 0, by rw [HR.out, HE.out]; rfl, by rw [HR.out]; exact ⟨OwnS.nil _ _ _, (fun g e => by cases e), HB.out.trans (hb2.mono HB.out.size)⟩⟩
end Go.Proofs.Ytckopdifjhjppaa
