/- A range over a function whose rounds all go on: the caller names its own blocks, all others stay as they were. Over any program. -/
import Derived.RangeFuncNested
import Derived.RangeFuncBound
import Derived.RangeFuncLeaves
import Derived.RangeFuncBox
import Derived.Test.YtckopdifjhjppaaCh
set_option linter.unusedVariables false
set_option linter.unusedSimpArgs false
namespace Go.Proofs.Ytckopdifjhjppaa
open Go.RowKit

/-- What a caller keeps between rounds speaks of its own blocks S alone. -/
structure Keeper (J : (Nat → Prop) → List Int → World → Prop) : Prop where
  lt : ∀ S pre W, J S pre W → ∀ k, S k → k < W.heap.size
  on : ∀ S T pre W W', J S pre W → Ch T W W' → (∀ k, T k → ¬ S k) → J S pre W'
/-- What a round does. -/
def Rnd (J : (Nat → Prop) → List Int → World → Prop) (S : Nat → Prop) (pre : List Int) (W W' : World) : Prop := ∃ S', J S' pre W' ∧ Ch S W W' ∧ ∀ k, S' k → S k ∨ W.heap.size ≤ k
/-- An iterator that gives ys, each in turn. -/
def SeqC (n : Nat) (P : Program) (gf : Nat) (lb : Array Value) (enc : Int → Value) (ys : List Int) (G : World → Prop) (foot : Nat → Prop) : Prop :=
  ∀ (l : Nat) (J : (Nat → Prop) → List Int → World → Prop) (S : Nat → Prop) (W : World), Keeper J →
    (∀ S pre x W1, J S pre W1 → pre ++ [x] <+: ys → YieldAt Fence.wide (n - 1) P l #[enc x] W1 fun e W' => e = .returned (.bool true) ∧ Rnd J S (pre ++ [x]) W1 W') →
    J S [] W → G W → (∀ k, foot k → ¬ S k) →
    CallsIn Fence.wide n P gf (#[.func (.yield l) #[] #[]] ++ lb) W fun e W' => (∃ v, e = .returned v) ∧ Rnd J S ys W W'
theorem Rnd.trans {J : (Nat → Prop) → List Int → World → Prop} {S S1 : Nat → Prop} {q : List Int} {A B C : World} (hS : Ch S A B) (h1 : ∀ k, S1 k → S k ∨ A.heap.size ≤ k) (h2 : Rnd J S1 q B C) : Rnd J S q A C := by
  obtain ⟨S2, j, c, s⟩ := h2
  refine ⟨S2, j, hS.trans c (fun i hi h => ?_), fun k hk => ?_⟩
  · rcases h1 i h with h | h
    · exact h
    · omega
  · rcases s k hk with h | h
    · exact h1 k h
    · exact .inr (Nat.le_trans hS.size h)
theorem ch_putObj (W : World) (l : Nat) (o : Obj) : Ch (fun k => k = l) W (W.putObj l o) := Ch.of_grown (grownBy_putObj' W l o) (fun k e => by injection e with e; exact e.symm)
theorem roundIn_any {m m' : Nat} {P : Program} {l l' : Nat} {f : FuncId} {tmps : Array Value} {assign body : Code} {w : World} {R : Ending → World → Prop} (h : RoundIn Fence.wide m P l f tmps assign body w R) : RoundIn (Fence.wide.inRound l') m' P l f tmps assign body w R := ⟨h.1, fun c cs _ => h.2 c cs (room_wide _)⟩
theorem roundIn_wide {m m' : Nat} {P : Program} {l : Nat} {f : FuncId} {tmps : Array Value} {assign body : Code} {w : World} {R : Ending → World → Prop} (h : RoundIn Fence.wide m P l f tmps assign body w R) : RoundIn Fence.wide m' P l f tmps assign body w R := ⟨h.1, fun c cs _ => h.2 c cs (room_wide _)⟩

theorem range_all {P : Program} {n : Nat} {g : Operand} {ps : Array Tmp} {assign body : Code} {Q : Exit → Act → World → Prop} {a : Act} {w : World} (h1 : 1 ≤ n) {gf : Nat} {lb : Array Value} (hg : a.eval g = .func (.func gf) #[] lb)
    (eg : ∀ args w, (callFunc gf args).run P w = .ok (.enter gf args) w) {enc : Int → Value} {ys : List Int} {G : World → Prop} {foot : Nat → Prop} (hseq : SeqC (n - 1) P gf lb enc ys G foot) (hps : ps.size = 1)
    (I : (Nat → Prop) → List Int → World → Prop) (hI : Keeper I) (S0 : Nat → Prop) (h0 : I S0 [] w) (hG : ∀ W, Ch (fun _ => False) w W → G W) (hfoot : ∀ k, foot k → ¬ S0 k ∧ k < w.heap.size)
    (a₁ : Int → Act)
    (hassign : ∀ (l : Nat) (x : Int) (W : World) (K : Act → World → Prop), K (a₁ x) W → assign.wpIn (Fence.wide.inRound l) (n - 1 - 1) P (Exit.then K (fun _ _ _ => False)) { tmps := (ps.zip #[enc x]).foldl (fun t (p, v) => t.setIfInBounds p v) a.tmps, defers := [] } W)
    (hbody : ∀ (l : Nat) (S : Nat → Prop) (pre : List Int) (x : Int) (W : World), I S pre W → pre ++ [x] <+: ys → body.wpIn (Fence.wide.inRound l) (n - 1 - 1) P (fun e _ W' => e = .normal ∧ Rnd I S (pre ++ [x]) W W') (a₁ x) W)
    (hdone : ∀ (D : Nat) (S : Nat → Prop) (W : World), w.heap.size ≤ D → I S ys W → W.heap[D]? = some (.deferred (some [])) → ¬ S D → Ch S0 w W → (∀ k, S k → S0 k ∨ w.heap.size ≤ k) → Q .normal { a with defers := { target := .collected D, args := #[] } :: a.defers } W) :
    (Code.rangeFunc g ps assign body).wpIn Fence.wide n P Q a w := by
  refine wpIn_rangeFunc ?_
  intro fn hfn
  let rec_ : LoopState → Loop := fun st => { state := st, pending := none, fn, tmps := a.tmps, params := ps, assign, body, defers := w.heap.size }
  let D := w.heap.size
  let l := w.heap.size + 1
  obtain ⟨W1, hW1⟩ : ∃ W1, (w.alloc (.deferred (some []))).alloc (.loop (rec_ .ready)) = W1 := ⟨_, rfl⟩
  have hL : W1.heap[l]? = some (.loop (rec_ .ready)) := by rw [← hW1]; exact heap_alloc2_new _ _ _
  have hD : W1.heap[D]? = some (.deferred (some [])) := by rw [← hW1]; exact heap_alloc2_old _ _ _
  have hc1 : Ch (fun _ => False) w W1 := by rw [← hW1]; exact ((Ch.refl _ _).alloc _).alloc _
  have hs1 : W1.heap.size = w.heap.size + 2 := by rw [← hW1]; simp
  have hlt0 := hI.lt S0 [] w h0
  have hI1 : I S0 [] W1 := hI.on _ _ _ _ _ h0 hc1 (fun _ e => e.elim)
  -- the iterator's caller keeps I and the loop's record
  let J : (Nat → Prop) → List Int → World → Prop := fun S pre W => ∃ S1, (∀ k, S k ↔ S1 k ∨ k = l) ∧ I S1 pre W ∧ (∀ k, S1 k → S0 k ∨ W1.heap.size ≤ k) ∧ W.heap[l]? = some (.loop (rec_ .ready)) ∧ W1.heap.size ≤ W.heap.size
  have hnot : ∀ {S1 : Nat → Prop}, (∀ k, S1 k → S0 k ∨ W1.heap.size ≤ k) → ¬ S1 l ∧ ¬ S1 D := fun h => by
    constructor
    · intro e
      rcases h _ e with e | e
      · have := hlt0 _ e; omega
      · omega
    · intro e
      rcases h _ e with e | e
      · have := hlt0 _ e; omega
      · omega
  have hJ : Keeper J := by
    constructor
    · rintro S pre W ⟨S1, hS, hi, _, hl, _⟩ k hk
      rcases (hS k).1 hk with h | rfl
      · exact hI.lt _ _ _ hi k h
      · exact (Array.getElem?_eq_some_iff.1 hl).1
    · rintro S T pre W W' ⟨S1, hS, hi, hb, hl, hz⟩ hc hT
      exact ⟨S1, hS, hI.on _ _ _ _ _ hi hc (fun k hk e => hT k hk ((hS k).2 (.inl e))), hb, hc.heap hl (fun e => hT _ e ((hS l).2 (.inr rfl))), Nat.le_trans hz hc.size⟩
  have hJ1 : J (fun k => S0 k ∨ k = l) [] W1 := ⟨S0, fun _ => Iff.rfl, hI1, fun _ h => .inl h, hL, Nat.le_refl _⟩
  refine ⟨l, [{ target := .collected D, args := #[] }], W1, { target := .fn (.func gf) lb, args := #[.func (.yield l) #[] #[]] }, W1, gf, #[.func (.yield l) #[] #[]] ++ lb, W1, ?_, ?_, ?_, ?_, fun _ => h1, ?_⟩
  · rw [← hW1]; exact run_enterLoop_outer _ _ _ _ _
  · simp only [resolve, hg]
    simp [go_sem]
  · intro f' hf'; simp [Target.leads] at hf'; subst hf'; trivial
  · simp [invoke, go_sem, eg]
  · refine (hseq l J (fun k => S0 k ∨ k = l) W1 hJ ?_ hJ1 (hG _ hc1) (fun k hk e => ?_)).mono ?_
    · rintro S pre x W ⟨S1, hS, hi, hb, hl, hz⟩ hpre
      have hlt : l < W.heap.size := (Array.getElem?_eq_some_iff.1 hl).1
      obtain ⟨n1, n2⟩ := hnot hb
      refine ⟨fn, _, assign, body, run_yield (P := P) (args := #[enc x]) hl (by show 1 = ps.size; rw [hps]), roundIn_of_wpIn hfn (hassign l x W _ ⟨_, run_beginRound hl rfl, ?_⟩)⟩
      have hl2 : (W.putObj l (.loop { rec_ .ready with state := .busy })).heap[l]? = some (.loop { rec_ .ready with state := .busy }) := World.putObj_heap_same hlt
      have hcb := ch_putObj W l (.loop { rec_ .ready with state := .busy })
      have hib : I S1 pre (W.putObj l (.loop { rec_ .ready with state := .busy })) := hI.on _ _ _ _ _ hi hcb (fun k hk e => n1 (by rw [← hk]; exact e))
      refine wpIn_mono (hbody l S1 pre x _ hib hpre) ?_
      rintro e a3 W3 ⟨rfl, S2, hi3, hc3, hb3⟩
      have hl3 := hc3.heap hl2 n1
      have he := run_endRound (P := P) none hl3
      have hlt3 : l < W3.heap.size := (Array.getElem?_eq_some_iff.1 hl3).1
      have hb2 : ∀ k, S2 k → S0 k ∨ W1.heap.size ≤ k := fun k hk => by
        rcases hb3 k hk with h | h
        · exact hb k h
        · exact .inr (Nat.le_trans hz (Nat.le_trans hcb.size h))
      have hc4 := ch_putObj W3 l (.loop (rec_ .ready))
      refine ⟨_, _, he, rfl, fun k => S2 k ∨ k = l, ⟨S2, fun _ => Iff.rfl, hI.on _ _ _ _ _ hi3 hc4 (fun k hk e => (hnot hb2).1 (by rw [← hk]; exact e)), hb2, World.putObj_heap_same hlt3, ?_⟩, ?_, ?_⟩
      · exact Nat.le_trans hz (Nat.le_trans hcb.size (Nat.le_trans hc3.size hc4.size))
      · exact ((hcb.mono (S' := S) (fun i _ e => (hS i).2 (.inr e))).trans hc3 (fun i _ e => (hS i).2 (.inl e))).trans hc4 (fun i _ e => (hS i).2 (.inr e))
      · intro k hk
        rcases hk with hk | rfl
        · rcases hb3 k hk with h | h
          · exact .inl ((hS k).2 (.inl h))
          · exact .inr (Nat.le_trans hcb.size h)
        · exact .inl ((hS l).2 (.inr rfl))
    · rcases e with e | rfl
      · exact (hfoot k hk).1 e
      · have := (hfoot _ hk).2; omega
    · rintro e W2 ⟨⟨v, rfl⟩, S, ⟨S1, hS, hi, hb, hl, hz⟩, hc, hsub⟩
      obtain ⟨n1, n2⟩ := hnot hb
      have hend := run_endLoop (P := P) hl (by simp [rec_])
      have hc5 := ch_putObj W2 l (.loop { rec_ .ready with state := .exhausted })
      have hD2 : W2.heap[D]? = some (.deferred (some [])) := hc.heap hD (fun e => by
        rcases e with e | e
        · have := hlt0 _ e; omega
        · omega)
      refine ⟨none, _, hend, hdone D S1 _ (Nat.le_refl _) (hI.on _ _ _ _ _ hi hc5 (fun k hk e => n1 (by rw [← hk]; exact e))) (hc5.heap hD2 (fun e => by omega)) n2 ?_ (fun k hk => ?_)⟩
      · refine (hc1.mono (S' := S0) (fun _ _ e => e.elim)).trans ((hc.trans hc5 (S := fun k => S0 k ∨ k = l) (fun i _ e => .inr e))) (fun i hi e => ?_)
        rcases e with e | e
        · exact e
        · omega
      · rcases hb k hk with h | h
        · exact .inl h
        · exact .inr (by omega)
end Go.Proofs.Ytckopdifjhjppaa
