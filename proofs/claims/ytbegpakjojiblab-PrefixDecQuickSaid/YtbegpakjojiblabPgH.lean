/- What All's rounds keep. -/
import Derived.Test.YtbegpakjojiblabPgG
import Derived.Test.YtbegpakjojiblabPgC
set_option linter.unusedVariables false
set_option linter.unusedSimpArgs false
namespace Go.Proofs.Ytbegpakjojiblab
open Go.RowKit Go.Shelf
attribute [local go_sem] Oper.semAt_some

theorem wpListIn_load_row {F : Fence} {n : Nat} {P : Program} {ops : Array Oper} {rest : List Oper} {o : Oper} {a : Act} {w : World} {Q : Exit → Act → World → Prop} (hgd : o.guard = none) (ty : TypeId) (x : Operand) (ho : o.op = .load ty x)
    (g : Nat) (hx : a.eval x = .pointer (some ⟨g, 0, none⟩)) (t : TypeId) (cs : Array Value) (fr : Nat × Nat) (d : TypeDesc) (hg : w.heap[g]? = some (.cells cs t fr))
    (hu : P.underlying ty = some d) (hd : (match d with | .struct _ | .array _ _ => true | _ => false) = true) (hi : (P.info? ty).map (·.size) = some cs.size)
    (h : wpListIn F n P ops Q rest (a.put o.dst (.agg cs)) w) : wpListIn F n P ops Q (o :: rest) a w := by
  refine wpListIn_plain hgd fun K hK => ?_
  unfold Oper.wpIn
  refine ⟨by simp [Oper.about, ho], ?_⟩
  rw [Oper.semAt_plain F _ _ (by rw [ho]; intro c hc; cases hc)]
  simp only [execOp, ho, hx, Instr.loadAt, Instr.sureAddr, Sem.run_bind, Sem.run_pure, Result.andThen_ok, run_loadVar_row w g t ty cs fr d hg hu hd hi]
  exact hK _ _ h
theorem wpListIn_store_row {F : Fence} {n : Nat} {P : Program} {ops : Array Oper} {rest : List Oper} {o : Oper} {a : Act} {w : World} {Q : Exit → Act → World → Prop} (hgd : o.guard = none) (ty : TypeId) (x y : Operand) (ho : o.op = .store ty x y)
    (g : Nat) (cells : Array Value) (hx : a.eval x = .pointer (some ⟨g, 0, none⟩)) (hy : a.eval y = .agg cells)
    (t : TypeId) (old : Array Value) (hg : w.heap[g]? = some (.cells old t (0, 0))) (hi : (P.info? ty).map (·.size) = some cells.size)
    (hold : old.size = cells.size) (h1 : cells.all (·.oneCell') = true)
    (h : wpListIn F n P ops Q rest (a.put o.dst undef) (w.setRow g cells)) : wpListIn F n P ops Q (o :: rest) a w := by
  refine wpListIn_plain hgd fun K hK => ?_
  unfold Oper.wpIn
  refine ⟨by simp [Oper.about, ho], ?_⟩
  rw [Oper.semAt_plain F _ _ (by rw [ho]; intro c hc; cases hc)]
  simp only [execOp, ho, hx, hy, Instr.storeAt, Instr.sureAddr, Sem.run_bind, Sem.run_pure, Result.andThen_ok, run_storeVar_row w g t ty old cells hg hi hold h1]
  exact hK _ _ h
theorem wpListIn_appendI {F : Fence} {nn : Nat} {P : Program} {ops : Array Oper} {rest : List Oper} {o : Oper} {a : Act} {w : World} {Q : Exit → Act → World → Prop} (hgd : o.guard = none) (s x : Operand) (t : TypeId)
    (ho : o.op = .call { callee := .builtin .append, args := #[s, x], argTypes := #[t, t] })
    (E : TypeId) (k : IntKind) (b : Nat) (ht : P.underlying t = some (.slice E)) (hI : (P.info? E).map (fun i => (i.zero, i.size, i.bytes)) = some (some (.int k 0), 1, b))
    (A : Option Nat) (c : Nat) (l : List Int) (n : Nat) (hn : l.length = n) (hs : a.eval s = .slice (ad0 A) n c) (hown : OwnS w k E A c l) (sp : Option Addr) (m c2 : Nat) (hx : a.eval x = .slice sp m c2) (l2 : List Int) (hl2 : l2.length = m) (hsrc : Src w k sp l2)
    (h63 : n + m ≤ maxLen) (hby : (n + m) * b ≤ 140737488355328)
    (h : ∀ A' c' w', OwnS w' k E A' c' (l ++ l2) → w.grownBy w' A → (A' = A ∨ A' = some w.heap.size) → wpListIn F nn P ops Q rest (a.put o.dst (.slice (ad0 A') (n + m) c')) w') : wpListIn F nn P ops Q (o :: rest) a w := by
  obtain ⟨A', c', w', h1, h2, h3, h4⟩ := run_appendI (P := P) w t o.type E k b ht hI A c l n hn hown sp m c2 l2 hl2 hsrc h63 hby
  refine wpListIn_plain hgd fun K hK => ?_
  unfold Oper.wpIn
  refine ⟨by simp [Oper.about, ho, resolve, Target.leads, Sem.run_pure], ?_⟩
  rw [Oper.semAt_plain F _ _ (by rw [ho]; intro c hc; cases hc)]
  simp [execOp, ho, resolve, invoke, builtin, hs, hx, h1, Result.andThen]
  exact hK _ _ (h A' c' w' h2 h3 h4)
theorem intsT12 : Try.prog.underlying 42 = some (.slice 3) := Try.underlying42
theorem intI12 : (Try.prog.info? 3).map (fun i => (i.zero, i.size, i.bytes)) = some (some (.int .i64 0), 1, 8) := by kernel_rfl
theorem notCells {w : World} {k : Nat} {cs : Array Value} {t : TypeId} {f : Nat × Nat} (h : w.heap[k]? = some (.cells cs t f)) {row : Option Nat} (hr : ∀ r, row = some r → ∃ o : Obj, w.heap[r]? = some o ∧ o.isCells = false) : some k ≠ row := by
  intro e
  obtain ⟨o, ho, hc⟩ := hr k e.symm
  rw [h] at ho
  cases ho
  cases hc

/-- The blocks of All, in their order. -/
structure Od (n0 g4 g6 g7 g8 g9 g10 gb : Nat) : Prop where
  h4 : n0 ≤ g4
  h6 : g4 < g6
  h7 : g6 < g7
  h8 : g7 < g8
  h9 : g8 < g9
  h10 : g9 < g10
  hb : g10 < gb
/-- What lies in them. -/
structure AR (g4 g6 g7 g8 g9 g10 gb : Nat) (M : Nat) (v6 v7 v8 : Value) (s9 : Array Value) (ct : List Int) (A : Option Nat) (cp : Nat) (out : List Int) (W : World) : Prop where
  many : Boxed W g4 3 (.int .i64 M)
  sym : Boxed W g6 42 v6
  cnt : Boxed W g7 3 v7
  err : Boxed W g8 30 v8
  sta : W.heap[g9]? = some (.cells s9 34 (0, 0))
  cts : W.heap[g10]? = some (.cells (xl ct) 53 (0, 0))
  own : OwnS W .i64 3 A cp out
  new : ∀ g, A = some g → gb < g
section
variable {n0 g4 g6 g7 g8 g9 g10 gb M : Nat} {v6 v7 v8 : Value} {s9 : Array Value} {ct : List Int} {A : Option Nat} {cp : Nat} {out : List Int} {W W' : World}
theorem AR.ch {S : Nat → Prop} (h : AR g4 g6 g7 g8 g9 g10 gb M v6 v7 v8 s9 ct A cp out W) (hc : Ch S W W') (h4 : ¬ S g4) (h6 : ¬ S g6) (h7 : ¬ S g7) (h8 : ¬ S g8) (h9 : ¬ S g9) (h10 : ¬ S g10) (hA : ∀ g, A = some g → ¬ S g) : AR g4 g6 g7 g8 g9 g10 gb M v6 v7 v8 s9 ct A cp out W' :=
  ⟨hc.heap h.many h4, hc.heap h.sym h6, hc.heap h.cnt h7, hc.heap h.err h8, hc.heap h.sta h9, hc.heap h.cts h10, h.own.ch hc hA, h.new⟩
theorem AR.below (h : AR g4 g6 g7 g8 g9 g10 gb M v6 v7 v8 s9 ct A cp out W) (hb : Below W.heap.size W W') : AR g4 g6 g7 g8 g9 g10 gb M v6 v7 v8 s9 ct A cp out W' :=
  h.ch (Ch.of_below (S := fun _ => False) hb) (fun e => e) (fun e => e) (fun e => e) (fun e => e) (fun e => e) (fun e => e) (fun _ _ e => e)
theorem AR.turn (h : AR g4 g6 g7 g8 g9 g10 gb M v6 v7 v8 s9 ct A cp out W) {row : Option Nat} (hg : W.grownBy W' row) (hr : ∀ r, row = some r → ∃ o : Obj, W.heap[r]? = some o ∧ o.isCells = false) : AR g4 g6 g7 g8 g9 g10 gb M v6 v7 v8 s9 ct A cp out W' :=
  h.ch (Ch.of_grown (S := fun k => row = some k) hg (fun k e => e)) (fun e => notCells h.many hr e.symm) (fun e => notCells h.sym hr e.symm) (fun e => notCells h.cnt hr e.symm) (fun e => notCells h.err hr e.symm) (fun e => notCells h.sta hr e.symm) (fun e => notCells h.cts hr e.symm) (fun g hg e => by
    subst hg
    obtain ⟨cur, h1, _⟩ := h.own.row
    exact notCells h1 hr e.symm)
theorem AR.set6 (o : Od n0 g4 g6 g7 g8 g9 g10 gb) (h : AR g4 g6 g7 g8 g9 g10 gb M v6 v7 v8 s9 ct A cp out W) (v : Value) : AR g4 g6 g7 g8 g9 g10 gb M v v7 v8 s9 ct A cp out (W.setCell ⟨g6, 0, none⟩ v) := by
  have h0 := h.sym.set v
  obtain ⟨o1, o2, o3, o4, o5, o6, o7⟩ := o
  have hc : Ch (fun k => k = g6) W (W.setCell ⟨g6, 0, none⟩ v) := (Ch.refl _ W).setCell _ _ (.inl rfl)
  exact ⟨hc.heap h.many (by omega), h0, hc.heap h.cnt (by omega), hc.heap h.err (by omega), hc.heap h.sta (by omega), hc.heap h.cts (by omega), h.own.ch hc (fun g e => by have := h.new g e; omega), h.new⟩
theorem AR.set7 (o : Od n0 g4 g6 g7 g8 g9 g10 gb) (h : AR g4 g6 g7 g8 g9 g10 gb M v6 v7 v8 s9 ct A cp out W) (v : Value) : AR g4 g6 g7 g8 g9 g10 gb M v6 v v8 s9 ct A cp out (W.setCell ⟨g7, 0, none⟩ v) := by
  have h0 := h.cnt.set v
  obtain ⟨o1, o2, o3, o4, o5, o6, o7⟩ := o
  have hc : Ch (fun k => k = g7) W (W.setCell ⟨g7, 0, none⟩ v) := (Ch.refl _ W).setCell _ _ (.inl rfl)
  exact ⟨hc.heap h.many (by omega), hc.heap h.sym (by omega), h0, hc.heap h.err (by omega), hc.heap h.sta (by omega), hc.heap h.cts (by omega), h.own.ch hc (fun g e => by have := h.new g e; omega), h.new⟩
theorem AR.set8 (o : Od n0 g4 g6 g7 g8 g9 g10 gb) (h : AR g4 g6 g7 g8 g9 g10 gb M v6 v7 v8 s9 ct A cp out W) (v : Value) : AR g4 g6 g7 g8 g9 g10 gb M v6 v7 v s9 ct A cp out (W.setCell ⟨g8, 0, none⟩ v) := by
  have h0 := h.err.set v
  obtain ⟨o1, o2, o3, o4, o5, o6, o7⟩ := o
  have hc : Ch (fun k => k = g8) W (W.setCell ⟨g8, 0, none⟩ v) := (Ch.refl _ W).setCell _ _ (.inl rfl)
  exact ⟨hc.heap h.many (by omega), hc.heap h.sym (by omega), hc.heap h.cnt (by omega), h0, hc.heap h.sta (by omega), hc.heap h.cts (by omega), h.own.ch hc (fun g e => by have := h.new g e; omega), h.new⟩
theorem ch_setRow {S : Nat → Prop} (W : World) (g : Nat) (cs : Array Value) (hg : S g) : Ch S W (W.setRow g cs) := ⟨rfl, rfl, rfl, by simp [World.setRow], fun k _ hn => setRow_other _ _ _ _ (fun e => hn (by rw [e]; exact hg))⟩
theorem AR.row9 (o : Od n0 g4 g6 g7 g8 g9 g10 gb) (h : AR g4 g6 g7 g8 g9 g10 gb M v6 v7 v8 s9 ct A cp out W) (s : Array Value) : AR g4 g6 g7 g8 g9 g10 gb M v6 v7 v8 s ct A cp out (W.setRow g9 s) := by
  have h0 := setRow_heap _ _ _ s _ _ h.sta
  obtain ⟨o1, o2, o3, o4, o5, o6, o7⟩ := o
  have hc : Ch (fun k => k = g9) W (W.setRow g9 s) := ch_setRow W g9 s rfl
  exact ⟨hc.heap h.many (by omega), hc.heap h.sym (by omega), hc.heap h.cnt (by omega), hc.heap h.err (by omega), h0, hc.heap h.cts (by omega), h.own.ch hc (fun g e => by have := h.new g e; omega), h.new⟩
/-- A symbol more in the row. -/
theorem AR.more (o : Od n0 g4 g6 g7 g8 g9 g10 gb) (h : AR g4 g6 g7 g8 g9 g10 gb M v6 v7 v8 s9 ct A cp out W) {A2 : Option Nat} {c2 : Nat} {out2 : List Int} (ho : OwnS W' .i64 3 A2 c2 out2) (hg : W.grownBy W' A) (ha : A2 = A ∨ A2 = some W.heap.size) (hgb : gb < W.heap.size) : AR g4 g6 g7 g8 g9 g10 gb M v6 v7 v8 s9 ct A2 c2 out2 W' := by
  obtain ⟨o1, o2, o3, o4, o5, o6, o7⟩ := o
  have hc : Ch (fun k => A = some k) W W' := Ch.of_grown hg (fun k e => e)
  have hn : ∀ k, k ≤ gb → ¬ A = some k := fun k hk e => by have := h.new k e; omega
  exact ⟨hc.heap h.many (hn _ (by omega)), hc.heap h.sym (hn _ (by omega)), hc.heap h.cnt (hn _ (by omega)), hc.heap h.err (hn _ (by omega)), hc.heap h.sta (hn _ (by omega)), hc.heap h.cts (hn _ (by omega)), ho, fun g e => by
    rcases ha with rfl | rfl
    · exact h.new g e
    · injection e with e
      omega⟩
end
/-- A step, as next tells it. -/
theorem stp_tell {l : List Int} (h : TL l) {c n : Nat} (hp : Pre l c n) {b : Int} (hb : b = 0 ∨ b = 1) (out : List Int) :
    (∃ s : Nat, stC l (c : Int) (n : Int) b = (0, 0, (s : Int), true) ∧ stp l ((c : Int), (n : Int), out) b = (0, 0, out ++ [(s : Int)]) ∧ s < 258) ∨
    (∃ c2 : Nat, stC l (c : Int) (n : Int) b = ((c2 : Int), ((n + 1 : Nat) : Int), 0, false) ∧ stp l ((c : Int), (n : Int), out) b = ((c2 : Int), ((n + 1 : Nat) : Int), out) ∧ Pre l c2 (n + 1)) := by
  have hv := hp.valid h
  rcases stC_tell h hp hb with ⟨s, h1, h2, h3, h4, h5⟩ | ⟨c2, h1, h2, h3⟩
  · left
    refine ⟨s, h1, ?_, h2⟩
    show (match fndL l (2 * (c : Int) + b) ((n : Int) + 1) 258 with | some s => (0, 0, out ++ [(s : Int)]) | none => (2 * (c : Int) + b, (n : Int) + 1, out)) = _
    rw [h4]
  · right
    refine ⟨c2, h1, ?_, h3⟩
    have hf : fndL l (2 * (c : Int) + b) ((n : Int) + 1) 258 = none := by
      cases hf : fndL l (2 * (c : Int) + b) ((n : Int) + 1) 258 with
      | none => rfl
      | some s =>
        rw [stC_some hv hb hf] at h1
        injection h1 with _ h1
        injection h1 with _ h1
        injection h1 with _ h1
        cases h1
    show (match fndL l (2 * (c : Int) + b) ((n : Int) + 1) 258 with | some s => (0, 0, out ++ [(s : Int)]) | none => (2 * (c : Int) + b, (n : Int) + 1, out)) = _
    rw [hf, ← h2]
    rfl
end Go.Proofs.Ytbegpakjojiblab
