/- A region that draws its order, walked operation by operation whatever the order: what each operation yields is said once, from what the operations that it waits for have yielded. Over any program. -/
import Derived.Test.YtaemmeofchonaaaLib
import Derived.Deep.RegionHeld3
set_option linter.unusedVariables false
set_option linter.unusedSimpArgs false
namespace Go.Proofs.Ytaemmeofchonaaa
open Go.RowKit

section
variable {P : Program} {ops : Array Oper} {Q : Exit → Act → World → Prop}

/-- The frame at hand: its size, no deferred call, slots that the region does not write. -/
structure Base (B : List (Nat × Value)) (N : Nat) (w0 : World) (a : Act) (w : World) : Prop where
  size : a.tmps.size = N
  defers : a.defers = []
  slot : ∀ p ∈ B, a.tmps[p.1]? = some p.2
  bel : Below w0.heap.size w0 w
theorem Base.at {B : List (Nat × Value)} {N : Nat} {w0 : World} {a : Act} {w : World} (h : Base B N w0 a w) (k s : Nat) (v : Value) (hk : B[k]? = some (s, v)) : a.tmps[s]? = some v := h.slot (s, v) (List.mem_of_getElem? hk)
/-- What operation i has yielded. -/
def Has (J : Nat → Value → World → Prop) (ds : List Nat) (a : Act) (w : World) (i : Nat) : Prop := ∃ v, a.tmps[ds.getD i 0]? = some v ∧ J i v w
/-- What an operation must do. -/
def OpOk (P : Program) (ops : Array Oper) (Q : Exit → Act → World → Prop) (J : Nat → Value → World → Prop) (ds : List Nat) (B : List (Nat × Value)) (N : Nat) (w0 : World) (i : Nat) (o : Oper) : Prop :=
  ∀ a w, Base B N w0 a w → (∀ j, (o.after.any fun e => e.on == j && Region.binds .any e) = true → Has J ds a w j) → ∀ K : Act → World → Prop, (∀ v w', J i v w' → Below w.heap.size w w' → K (a.put o.dst v) w') →
    if Region.wanted o (yielded ops a.tmps) = true then Oper.wp P o a w K Q else K (a.put o.dst undef) w
theorem nodup_inj {α : Type} {l : List α} (h : l.Nodup) {i j : Nat} (hi : i < l.length) (hj : j < l.length) (e : l[i] = l[j]) : i = j := by
  have hp := List.pairwise_iff_getElem.1 h
  rcases Nat.lt_trichotomy i j with h1 | h1 | h1
  · exact absurd e (hp i j hi hj h1)
  · exact h1
  · exact absurd e.symm (hp j i hj hi h1)
/-- All operations from number i on. -/
def OpsOk (P : Program) (ops : Array Oper) (Q : Exit → Act → World → Prop) (J : Nat → Value → World → Prop) (ds : List Nat) (B : List (Nat × Value)) (N : Nat) (w0 : World) : Nat → List Oper → Prop
  | _, [] => True
  | i, o :: os => OpOk P ops Q J ds B N w0 i o ∧ OpsOk P ops Q J ds B N w0 (i + 1) os
theorem OpsOk.at {J : Nat → Value → World → Prop} {ds : List Nat} {B : List (Nat × Value)} {N : Nat} {w0 : World} : ∀ {l : List Oper} {k : Nat}, OpsOk P ops Q J ds B N w0 k l → ∀ i o, l[i]? = some o → OpOk P ops Q J ds B N w0 (k + i) o
  | [], _, _, i, o, h => by simp at h
  | x :: l, k, hk, 0, o, h => by
    simp at h
    subst h
    exact hk.1
  | x :: l, k, hk, i + 1, o, h => by
    simp at h
    have := OpsOk.at hk.2 i o h
    rwa [show k + 1 + i = k + (i + 1) by omega] at this

/-- The plain facts about a region: every operation writes a slot of its own, waits for earlier ones alone. -/
def plainB (ops : Array Oper) (ds : List Nat) (N : Nat) (bs : List Nat) : Bool :=
  decide (ops.toList.map (·.dst) = ds.map some) && decide ds.Nodup && ds.all (fun d => decide (d < N)) && bs.all (fun b => !ds.contains b) &&
    (List.range ops.size).all fun i => (ops[i]?).all fun o => o.after.all fun e => !Region.binds .any e || decide (e.on < i)

theorem wpAny_inv {J : Nat → Value → World → Prop} {ds : List Nat} {B : List (Nat × Value)} {N : Nat} {w0 : World}
    (hp : plainB ops ds N (B.map (·.1)) = true)
    (hmono : ∀ i v w w', J i v w → Below w.heap.size w w' → J i v w')
    (hop : OpsOk P ops Q J ds B N w0 0 ops.toList)
    (hend : ∀ a w, Base B N w0 a w → (∀ i, i < ops.size → Has J ds a w i) → Q .normal a w) :
    ∀ (fuel : Nat) (listed : Array Bool) (a : Act) (w : World), listed.size = ops.size → (listed.toList.filter (fun b => !b)).length = fuel → Base B N w0 a w → (∀ i, listed.getD i false = true → Has J ds a w i) →
      wpAny P .any ops Q fuel listed a w := by
  simp only [plainB, Bool.and_eq_true, decide_eq_true_eq, List.all_eq_true, Bool.not_eq_true', List.mem_range] at hp
  obtain ⟨⟨⟨⟨hds, hnd⟩, hlt⟩, hbs⟩, haf⟩ := hp
  have hlen : ds.length = ops.size := by
    have := congrArg List.length hds
    simpa using this.symm
  have hdst : ∀ i o, ops[i]? = some o → o.dst = some (ds.getD i 0) := fun i o ho => by
    have h1 := congrArg (fun l => l[i]?) hds
    simp only [List.getElem?_map, Array.getElem?_toList, ho, Option.map_some] at h1
    have hi : i < ds.length := by rw [hlen]; exact (Array.getElem?_eq_some_iff.1 ho).1
    rw [List.getElem?_eq_getElem hi] at h1
    simp only [Option.map_some, Option.some.injEq] at h1
    rw [h1]
    simp [List.getD_eq_getElem?_getD, hi]
  have hne : ∀ i j, i < ops.size → j < ops.size → i ≠ j → ds.getD i 0 ≠ ds.getD j 0 := fun i j hi hj hij e => by
    rw [List.getD_eq_getElem?_getD, List.getD_eq_getElem?_getD, List.getElem?_eq_getElem (by omega), List.getElem?_eq_getElem (by omega)] at e
    simp only [Option.getD_some] at e
    exact hij (nodup_inj hnd (by omega) (by omega) e)
  have hall : ∀ (listed : Array Bool) (a : Act) (w : World), listed.size = ops.size → Base B N w0 a w → (∀ i, listed.getD i false = true → Has J ds a w i) → Region.ready .any ops listed = [] → Q .normal a w := by
    intro listed a w hls hb hl hr
    have key : ∀ i, i < ops.size → listed.getD i false = true := by
      intro i
      induction i using Nat.strongRecOn with
      | ind i ih =>
        intro hi
        by_cases h : listed.getD i false = true
        · exact h
        · have : i ∈ Region.ready .any ops listed := mem_ready.2 ⟨by
              have h2 : listed[i]? = some listed[i] := Array.getElem?_eq_getElem (by omega)
              simp only [Array.getD_eq_getD_getElem?, h2, Option.getD_some, Bool.not_eq_true] at h ⊢
              exact h, ops[i], Array.getElem?_eq_getElem hi, fun e he hbd => by
              have h3 := haf i hi
              rw [Array.getElem?_eq_getElem hi] at h3
              simp only [Option.all_some, Array.all_eq_true'] at h3
              have h4 := h3 e he
              rw [hbd] at h4
              simp only [Bool.not_true, Bool.false_or, decide_eq_true_eq] at h4
              exact ih e.on h4 (by omega)⟩
          rw [hr] at this
          cases this
    exact hend a w hb (fun i hi => hl i (key i hi))
  intro fuel
  induction fuel with
  | zero =>
    intro listed a w hls hf hb hl
    have hr : Region.ready .any ops listed = [] := by
      apply List.eq_nil_iff_forall_not_mem.2
      intro j hj
      obtain ⟨h1, o, ho, _⟩ := mem_ready.1 hj
      have hjs := (Array.getElem?_eq_some_iff.1 ho).1
      have h2 : listed[j]? = some listed[j] := Array.getElem?_eq_getElem (by omega)
      simp only [Array.getD_eq_getD_getElem?, h2, Option.getD_some] at h1
      have h3 : listed[j] ∈ listed.toList.filter (fun b => !b) := by
        rw [List.mem_filter]
        exact ⟨by simp, by rw [h1]; rfl⟩
      rw [List.eq_nil_of_length_eq_zero hf] at h3
      cases h3
    exact ⟨hr, hall listed a w hls hb hl hr⟩
  | succ fuel ih =>
    intro listed a w hls hf hb hl
    refine ⟨hall listed a w hls hb hl, fun i hi => ?_⟩
    obtain ⟨h1, o, ho, hwait⟩ := mem_ready.1 hi
    have his := (Array.getElem?_eq_some_iff.1 ho).1
    have hstep := OpsOk.at hop i o (by rw [Array.getElem?_toList]; exact ho)
    rw [Nat.zero_add] at hstep
    have hgo : ∀ v w', J i v w' → Below w.heap.size w w' → wpAny P .any ops Q fuel (listed.setIfInBounds i true) (a.put o.dst v) w' := by
      intro v w' hv hbel
      have hput : ∀ d, (a.put o.dst v).tmps[d]? = if ds.getD i 0 = d then (if d < a.tmps.size then some v else none) else a.tmps[d]? := fun d => by
        rw [hdst i o ho]
        simp only [Act.put, Array.getElem?_setIfInBounds]
        by_cases e : ds.getD i 0 = d
        · rw [if_pos e, if_pos e, e]
        · rw [if_neg e, if_neg e]
      have hmem : ∀ j, j < ops.size → ds.getD j 0 < N := fun j hj => hlt _ (by
        rw [List.getD_eq_getElem?_getD, List.getElem?_eq_getElem (by omega)]
        exact List.getElem_mem _)
      refine ih _ _ _ (by simpa using hls) ?_ ⟨by rw [hdst i o ho]; simp only [Act.put, Array.size_setIfInBounds]; exact hb.size, by rw [hdst i o ho]; exact hb.defers, ?_, hb.bel.trans (hbel.mono hb.bel.size)⟩ ?_
      · have h2 : listed[i]? = some listed[i] := Array.getElem?_eq_getElem (by omega)
        simp only [Array.getD_eq_getD_getElem?, h2, Option.getD_some] at h1
        have h5 : i < listed.toList.length := by simp; omega
        have h3 : listed.toList = listed.toList.take i ++ false :: listed.toList.drop (i + 1) := by
          have h4 := List.take_append_drop i listed.toList
          rw [List.drop_eq_getElem_cons h5] at h4
          have h6 : listed.toList[i] = false := by simpa using h1
          rw [h6] at h4
          exact h4.symm
        have h7 : (listed.setIfInBounds i true).toList = listed.toList.take i ++ true :: listed.toList.drop (i + 1) := by
          rw [Array.toList_setIfInBounds, List.set_eq_take_append_cons_drop, if_pos h5]
        rw [h3, List.filter_append, List.length_append] at hf
        rw [h7, List.filter_append, List.length_append]
        simp at hf ⊢
        omega
      · intro p hpB
        rw [hput, if_neg]
        · exact hb.slot p hpB
        · intro e
          have h2 := hbs p.1 (List.mem_map_of_mem hpB)
          have h3 : ds.getD i 0 ∈ ds := by
            rw [List.getD_eq_getElem?_getD, List.getElem?_eq_getElem (by omega)]
            exact List.getElem_mem _
          rw [e] at h3
          rw [List.contains_iff_mem.2 h3] at h2
          cases h2
      · intro j hj
        by_cases hij : i = j
        · subst hij
          exact ⟨v, by rw [hput, if_pos rfl, if_pos (by rw [hb.size]; exact hmem i his)], hv⟩
        · have hjl : listed.getD j false = true := by
            simp only [Array.getD_eq_getD_getElem?, Array.getElem?_setIfInBounds, hij, if_false] at hj ⊢
            exact hj
          have hjs : j < ops.size := by
            rcases Nat.lt_or_ge j listed.size with h2 | h2
            · omega
            · simp [Array.getD_eq_getD_getElem?, Array.getElem?_eq_none h2] at hjl
          obtain ⟨u, hu, hJ⟩ := hl j hjl
          exact ⟨u, by rw [hput, if_neg (hne i j his hjs hij)]; exact hu, hmono _ _ _ _ hJ hbel⟩
    have hw := hstep a w hb (fun j hj => by
      obtain ⟨q, hq, he⟩ := Array.any_eq_true.1 hj
      simp only [Bool.and_eq_true, beq_iff_eq] at he
      have := hl _ (hwait o.after[q] (Array.getElem_mem hq) he.2)
      rwa [he.1] at this) _ hgo
    unfold wpOp
    simp only [ho]
    split
    · rename_i h2
      rw [if_pos h2] at hw
      exact .inl hw
    · rename_i h2
      rw [if_neg h2] at hw
      exact hw

/-- The region. -/
theorem wp_region_inv {id : Nat} {a : Act} {w : World} {J : Nat → Value → World → Prop} {ds : List Nat} {B : List (Nat × Value)} {N : Nat} (hm : P.follows .mixedOrders = true)
    (hp : plainB ops ds N (B.map (·.1)) = true)
    (hmono : ∀ i v w w', J i v w → Below w.heap.size w w' → J i v w')
    (hs : a.tmps.size = N) (hd : a.defers = []) (hB : ∀ p ∈ B, a.tmps[p.1]? = some p.2)
    (hop : OpsOk P ops Q J ds B N w 0 ops.toList)
    (hend : ∀ a w', Base B N w a w' → (∀ i, i < ops.size → Has J ds a w' i) → Q .normal a w') : (Code.region id ops true).wp P Q a w := by
  refine wp_region_any hm (wpAny_inv hp hmono hop hend _ _ _ _ (by simp) ?_ ⟨hs, hd, hB, ⟨rfl, rfl, rfl, Nat.le_refl _, fun _ _ => rfl⟩⟩ ?_)
  · simp
  · intro i hi
    simp only [Array.getD_eq_getD_getElem?, Array.getElem?_replicate] at hi
    split at hi <;> simp at hi
/-- What the operations yield, as a list. -/
def Js (L : List (Value → World → Prop)) (i : Nat) (v : Value) (w : World) : Prop := (L.getD i fun _ _ => True) v w
def MonoV (f : Value → World → Prop) : Prop := ∀ v w w', f v w → Below w.heap.size w w' → f v w'
def MonoAll : List (Value → World → Prop) → Prop
  | [] => True
  | f :: l => MonoV f ∧ MonoAll l
theorem Js_mono {L : List (Value → World → Prop)} (h : MonoAll L) (i : Nat) (v : Value) (w w' : World) (hj : Js L i v w) (hb : Below w.heap.size w w') : Js L i v w' := by
  induction L generalizing i with
  | nil => simp [Js]
  | cons f l ih =>
    cases i with
    | zero => exact h.1 v w w' hj hb
    | succ i => exact ih h.2 i hj
/-- This very value. -/
def eqv (x : Value) (v : Value) (_ : World) : Prop := v = x
theorem eqv_mono (x : Value) : MonoV (eqv x) := fun _ _ _ h _ => h
end
end Go.Proofs.Ytaemmeofchonaaa
