/- A region that draws its order, as XAny's wp_region_inv, but its end is met in a frame that is written out: the slots that the region does not write are as they were. Over any program. -/
import Derived.Test.YtaemmeofchonaaaAny
set_option linter.unusedVariables false
set_option linter.unusedSimpArgs false
namespace Go.Proofs.Ytaemmeofchonaaa
open Go.RowKit

section
variable {P : Program} {ops : Array Oper} {Q : Exit → Act → World → Prop}
/-- Slots, each with its value. -/
def putAll : Array Value → List Nat → List Value → Array Value
  | t, d :: ds, v :: vs => putAll (t.setIfInBounds d v) ds vs
  | t, _, _ => t
theorem putAll_size : ∀ (t : Array Value) (ds : List Nat) (vs : List Value), (putAll t ds vs).size = t.size
  | t, [], _ => by simp [putAll]
  | t, _ :: _, [] => by simp [putAll]
  | t, d :: ds, v :: vs => by rw [putAll, putAll_size]; simp
theorem putAll_out : ∀ (t : Array Value) (ds : List Nat) (vs : List Value) (j : Nat), j ∉ ds → (putAll t ds vs)[j]? = t[j]?
  | t, [], _, j, _ => by simp [putAll]
  | t, _ :: _, [], j, _ => by simp [putAll]
  | t, d :: ds, v :: vs, j, h => by
    rw [putAll, putAll_out _ ds vs j (fun hm => h (List.mem_cons_of_mem _ hm)), Array.getElem?_setIfInBounds_ne (fun e => h (by rw [e]; exact List.mem_cons_self))]
theorem putAll_in : ∀ (t : Array Value) (ds : List Nat) (vs : List Value) (i : Nat), ds.Nodup → (∀ d ∈ ds, d < t.size) → i < ds.length → i < vs.length → (putAll t ds vs)[ds.getD i 0]? = some (vs.getD i undef)
  | t, [], _, i, _, _, hi, _ => by simp at hi
  | t, _ :: _, [], i, _, _, _, hi => by simp at hi
  | t, d :: ds, v :: vs, 0, hn, hd, _, _ => by
    rw [putAll]
    simp only [List.getD_cons_zero]
    rw [putAll_out _ _ _ _ (List.nodup_cons.1 hn).1, Array.getElem?_setIfInBounds_self_of_lt (hd d List.mem_cons_self)]
  | t, d :: ds, v :: vs, i + 1, hn, hd, hi, hv => by
    rw [putAll]
    simp only [List.getD_cons_succ]
    exact putAll_in _ ds vs i (List.nodup_cons.1 hn).2 (fun x hx => by rw [Array.size_setIfInBounds]; exact hd x (List.mem_cons_of_mem _ hx)) (by simpa using hi) (by simpa using hv)

theorem wp_region_frame {id : Nat} {a : Act} {w : World} {J : Nat → Value → World → Prop} {ds : List Nat} {B : List (Nat × Value)} {N : Nat} (hm : P.follows .mixedOrders = true)
    (hp : plainB ops ds N (B.map (·.1)) = true)
    (hmono : ∀ i v w w', J i v w → Below w.heap.size w w' → J i v w')
    (hs : a.tmps.size = N) (hd : a.defers = []) (hB : ∀ p ∈ B, a.tmps[p.1]? = some p.2)
    (hop : OpsOk P ops Q J ds B N w 0 ops.toList)
    (hend : ∀ (vs : List Value) w', vs.length = ds.length → (∀ i, i < ds.length → J i (vs.getD i undef) w') → Below w.heap.size w w' → Q .normal { tmps := putAll a.tmps ds vs, defers := [] } w') : (Code.region id ops true).wp P Q a w := by
  have hp0 := hp
  simp only [plainB, Bool.and_eq_true, decide_eq_true_eq, List.all_eq_true, Bool.not_eq_true', List.mem_range] at hp
  obtain ⟨⟨⟨⟨hds, hnd⟩, hlt⟩, hbs⟩, haf⟩ := hp
  have hlen : ds.length = ops.size := by
    have := congrArg List.length hds
    simpa using this.symm
  let F : List (Nat × Value) := ((List.range N).filter (fun i => !ds.contains i)).map (fun i => (i, a.tmps.getD i undef))
  have hF : ∀ p ∈ F, a.tmps[p.1]? = some p.2 ∧ ds.contains p.1 = false := fun p hp => by
    simp only [F, List.mem_map, List.mem_filter, List.mem_range, Bool.not_eq_true'] at hp
    obtain ⟨i, ⟨h1, h2⟩, rfl⟩ := hp
    refine ⟨?_, h2⟩
    rw [Array.getElem?_eq_getElem (by omega)]
    simp [show i < a.tmps.size by omega]
  have hpF : plainB ops ds N (F.map (·.1)) = true := by
    simp only [plainB, Bool.and_eq_true, decide_eq_true_eq, List.all_eq_true, Bool.not_eq_true', List.mem_range]
    refine ⟨⟨⟨⟨hds, hnd⟩, hlt⟩, fun b hb => ?_⟩, haf⟩
    rw [List.mem_map] at hb
    obtain ⟨p, hp, rfl⟩ := hb
    exact (hF p hp).2
  have hBF : ∀ p ∈ B, p ∈ F := fun p hp => by
    simp only [F, List.mem_map, List.mem_filter, List.mem_range, Bool.not_eq_true']
    have h1 := hB p hp
    have h2 := hbs p.1 (List.mem_map_of_mem hp)
    have h3 := (Array.getElem?_eq_some_iff.1 h1).1
    refine ⟨p.1, ⟨by omega, h2⟩, ?_⟩
    have h4 : a.tmps.getD p.1 undef = p.2 := by
      rw [Array.getD_eq_getD_getElem?, h1]
      rfl
    rw [h4]
  have hb' : ∀ {a' : Act} {w' : World}, Base F N w a' w' → Base B N w a' w' := fun h => ⟨h.size, h.defers, fun p hp => h.slot p (hBF p hp), h.bel⟩
  have hopF : ∀ (l : List Oper) (k : Nat), OpsOk P ops Q J ds B N w k l → OpsOk P ops Q J ds F N w k l := by
    intro l
    induction l with
    | nil => intro k h; trivial
    | cons o l ih =>
      intro k h
      exact ⟨fun a' w' hb => h.1 a' w' (hb' hb), ih _ h.2⟩
  refine wp_region_inv (J := J) (ds := ds) (N := N) (B := F) hm hpF hmono hs hd (fun p hp => (hF p hp).1) (hopF _ _ hop) ?_
  intro a' w' hb hall
  have hc : ∀ i : Nat, ∃ v, i < ds.length → a'.tmps[ds.getD i 0]? = some v ∧ J i v w' := fun i => by
    by_cases hi : i < ds.length
    · obtain ⟨v, h1, h2⟩ := hall i (by omega)
      exact ⟨v, fun _ => ⟨h1, h2⟩⟩
    · exact ⟨undef, fun h => absurd h hi⟩
  let vs : List Value := (List.range ds.length).map fun i => Classical.choose (hc i)
  have hvl : vs.length = ds.length := by simp [vs]
  have hvg : ∀ i, i < ds.length → a'.tmps[ds.getD i 0]? = some (vs.getD i undef) ∧ J i (vs.getD i undef) w' := fun i hi => by
    have e : vs.getD i undef = Classical.choose (hc i) := by
      simp only [vs, List.getD_eq_getElem?_getD, List.getElem?_map, List.getElem?_range hi, Option.map_some, Option.getD_some]
    rw [e]
    exact Classical.choose_spec (hc i) hi
  have ha : a' = { tmps := putAll a.tmps ds vs, defers := [] } := by
    have h1 : a'.tmps = putAll a.tmps ds vs := by
      apply Array.ext_getElem?
      intro j
      by_cases hj : j ∈ ds
      · obtain ⟨i, hi, rfl⟩ := List.getElem_of_mem hj
        have e : ds[i] = ds.getD i 0 := by simp [List.getD_eq_getElem?_getD, hi]
        rw [e, (hvg i hi).1, putAll_in _ _ _ _ hnd (fun d hd => by rw [hs]; exact hlt d hd) hi (by omega)]
      · rw [putAll_out _ _ _ _ hj]
        by_cases hjn : j < N
        · have hm : (j, a.tmps.getD j undef) ∈ F := by
            simp only [F, List.mem_map, List.mem_filter, List.mem_range, Bool.not_eq_true']
            exact ⟨j, ⟨hjn, by simpa using hj⟩, rfl⟩
          rw [hb.slot _ hm, (hF _ hm).1]
        · rw [Array.getElem?_eq_none (by rw [hb.size]; omega), Array.getElem?_eq_none (by omega)]
    cases a'
    simp only at h1
    have h2 := hb.defers
    simp only at h2
    rw [h1, h2]
  rw [ha]
  exact hend vs w' hvl (fun i hi => (hvg i hi).2) hb.bel
end
end Go.Proofs.Ytaemmeofchonaaa
