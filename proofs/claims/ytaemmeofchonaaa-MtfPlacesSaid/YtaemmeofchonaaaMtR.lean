/- winepressref13: New, Take. -/
import Derived.Test.YtaemmeofchonaaaMtA
import Derived.Test.YtaemmeofchonaaaMtM
import Derived.Test.YtaemmeofchonaaaCh
import Derived.RegionTactic
import Derived.Deep.RegionHeld3
import Derived.Deep.DeepMust
import Derived.Deep.CutBlock
import Derived.Deep.DeepCutAuto
set_option linter.unusedVariables false
set_option linter.unusedSimpArgs false
namespace Go.Proofs.Ytaemmeofchonaaa
open Go.RowKit

/-- 256 numbers by a function. -/
def r256 (f : Nat → Int) : List Int := (List.range 256).map f
theorem r256_len (f : Nat → Int) : (r256 f).length = 256 := by simp [r256]
theorem r256_get (f : Nat → Int) (i : Nat) (hi : i < 256) : (r256 f).getD i 0 = f i := by
  simp [r256, List.getD_eq_getElem?_getD, List.getElem?_map, List.getElem?_range hi]
theorem ext256 {a b : List Int} (ha : a.length = 256) (hb : b.length = 256) (h : ∀ i, i < 256 → a.getD i 0 = b.getD i 0) : a = b := by
  apply List.ext_getElem?
  intro i
  by_cases hi : i < 256
  · have := h i hi
    rw [List.getD_eq_getElem?_getD, List.getD_eq_getElem?_getD, List.getElem?_eq_getElem (by omega), List.getElem?_eq_getElem (by omega)] at this
    rw [List.getElem?_eq_getElem (by omega), List.getElem?_eq_getElem (by omega)]
    simpa using this
  · rw [List.getElem?_eq_none (by omega), List.getElem?_eq_none (by omega)]
theorem set_getD (a : List Int) (i j : Nat) (z : Int) (hi : i < a.length) : (a.set i z).getD j 0 = if j = i then z else a.getD j 0 := by
  rw [List.getD_eq_getElem?_getD, List.getElem?_set]
  by_cases e : i = j
  · subst e
    simp [hi]
  · rw [if_neg e, if_neg (fun h => e h.symm), List.getD_eq_getElem?_getD]
/-- The list while its elements are shifted: those behind i, up to p. -/
def shL (l : List Int) (p i : Nat) : List Int := r256 fun j => if i < j ∧ j ≤ p then l.getD (j - 1) 0 else l.getD j 0
theorem shL_start {l : List Int} (h : Lst l) (p : Nat) : shL l p p = l := ext256 (r256_len _) h.1 fun i hi => by rw [shL, r256_get _ i hi, if_neg (by omega)]
theorem shL_get (l : List Int) (p i j : Nat) (hj : j < 256) (h : j ≤ i) : (shL l p i).getD j 0 = l.getD j 0 := by rw [shL, r256_get _ j hj, if_neg (by omega)]
theorem shL_step (l : List Int) (p i : Nat) (hp : p < 256) (hi : i + 1 ≤ p) : (shL l p (i + 1)).set (i + 1) (l.getD i 0) = shL l p i := by
  refine ext256 (by rw [List.length_set]; exact r256_len _) (r256_len _) fun j hj => ?_
  rw [set_getD _ _ _ _ (by show _ < (r256 _).length; rw [r256_len]; omega), shL, shL, r256_get _ j hj, r256_get _ j hj]
  by_cases e : j = i + 1
  · subst e
    rw [if_pos rfl, if_pos (by omega)]
    rfl
  · rw [if_neg e]
    by_cases h : i < j ∧ j ≤ p
    · rw [if_pos (by omega), if_pos h]
    · rw [if_neg (by omega), if_neg h]
theorem shL_end {l : List Int} (h : Lst l) (p : Nat) (hp : p < 256) : (shL l p 0).set 0 (l.getD p 0) = tkV l p := by
  have hl : p < l.length := by rw [h.1]; exact hp
  refine ext256 (by rw [List.length_set]; exact r256_len _) (by rw [tkV_len hl]; exact h.1) fun j hj => ?_
  rw [set_getD _ _ _ _ (by show _ < (r256 _).length; rw [r256_len]; omega), shL, r256_get _ j hj]
  cases j with
  | zero => rw [if_pos rfl, tkV_front]
  | succ j =>
    rw [if_neg (by omega)]
    by_cases hjp : j + 1 ≤ p
    · rw [if_pos (by omega), tkV_low l hl (by omega)]
      rfl
    · rw [if_neg (by omega), tkV_high l hl (by omega)]
theorem Lst.of {f : Nat → Int} (h : ∀ i, i < 256 → (Lit.int .u8 (f i)).wf = true) : Lst (r256 f) := ⟨r256_len f, fun z hz => by
  obtain ⟨i, hi, rfl⟩ := List.mem_map.1 hz
  exact h i (List.mem_range.1 hi)⟩
theorem shL_lst {l : List Int} (h : Lst l) (p i : Nat) : Lst (shL l p i) := Lst.of fun j hj => by split <;> exact h.get _
theorem tkV_lst {l : List Int} (h : Lst l) {p : Nat} (hp : p < 256) : Lst (tkV l p) := by rw [← shL_end h p hp]; exact (shL_lst h p 0).set 0 _ (h.get p)
/-- What Take gives. -/
def tkR (l : List Int) (p : Int) : List Int × Int × Bool := if 0 ≤ p ∧ p ≤ 255 then (tkV l p.toNat, l.getD p.toNat 0, true) else (l, 0, false)
theorem results_cell_tmp2 {P : Program} {fn : Func} {p q r : Tmp} {ty : TypeId} (h : fn.results = #[.cell p ty, .tmp q, .tmp r]) (tmps : Array Value) (w : World) (g : Nat) (t : TypeId) (cs : Array Value) (fr : Nat × Nat) (d : TypeDesc) (v u : Value)
    (hp : tmps.getD p undef = .pointer (some ⟨g, 0, none⟩)) (hq : tmps.getD q undef = v) (hr : tmps.getD r undef = u) (hg : w.heap[g]? = some (.cells cs t fr))
    (hu : P.underlying ty = some d) (hd : (match d with | .struct _ | .array _ _ => true | _ => false) = true) (hi : (P.info? ty).map (·.size) = some cs.size) :
    (results fn tmps).run P w = .ok (.tuple #[.agg cs, v, u]) w := by
  have hp' : tmps[p]?.getD undef = .pointer (some ⟨g, 0, none⟩) := by simpa using hp
  have hq' : tmps[q]?.getD undef = v := by simpa using hq
  have hr' : tmps[r]?.getD undef = u := by simpa using hr
  simp [results, h, hp', hq', hr', asAddr, run_loadVar_row w g t ty cs fr d hg hu hd hi]

set_option maxRecDepth 100000 in
set_option maxHeartbeats 1000000 in
theorem rtake_no (l : List Int) (h : Lst l) (p : Int) (hp : ¬ (0 ≤ p ∧ p ≤ 255)) (w : World) :
    Calls Try.prog 12 #[.agg (ll l), .int .i64 p] w fun e w' => e = .returned (.tuple #[.agg (ll l), .int .u8 0, .bool false]) ∧ Below w.heap.size w w' := by
  have hz := lstZ
  have hg := heap_alloc2_old w (.cells (ll l) 23) (.cells (ll zS) 23)
  have hr := heap_alloc2_new w (.cells (ll l) 23) (.cells (ll zS) 23)
  have HB := Lib.hid (show Below w.heap.size w ((w.alloc (.cells (ll l) 23)).alloc (.cells (ll zS) 23)) from ((Below.refl _ _).alloc (Nat.le_refl _) _).alloc (by simp) _)
  go_enter Try.func12, Try.ntmps12
  go_upto_region 1 with fail
  clear hz
  generalize (w.alloc (.cells (ll l) 23)).alloc (.cells (ll zS) 23) = w1 at HB hg hr ⊢
  by_cases h0 : p < 0
  · have d0 : decide (p < 0) = true := decide_eq_true h0
    go_wp2_with (first
      | (refine wpList_load_row rfl 23 _ rfl w.heap.size rfl 23 (ll l) (0, 0) _ hg Try.underlying23 rfl (lstIk h) ?_)
      | (refine wpList_store_row rfl 23 _ _ rfl (w.heap.size + 1) (ll l) rfl rfl 23 (ll zS) hr (lstIk h) (by rw [ll_size zS_lst, ll_size h]) (ll_all _) ?_))
    refine bodyPost_ret (v := .tuple #[.agg (ll l), .int .u8 0, .bool false]) ?_ rfl ⟨rfl, HB.out.setRow (by omega) _⟩
    exact results_cell_tmp2 Try.results12 _ _ (w.heap.size + 1) 23 (ll l) (0, 0) _ _ _ rfl rfl rfl (setRow_heap _ _ _ _ _ _ hr) Try.underlying23 rfl (lstIk h)
  · have d0 : decide (p < 0) = false := decide_eq_false h0
    have d1 : decide ((255 : Int) < p) = true := decide_eq_true (by omega)
    go_wp2_with (first
      | (refine wpList_load_row rfl 23 _ rfl w.heap.size rfl 23 (ll l) (0, 0) _ hg Try.underlying23 rfl (lstIk h) ?_)
      | (refine wpList_store_row rfl 23 _ _ rfl (w.heap.size + 1) (ll l) rfl rfl 23 (ll zS) hr (lstIk h) (by rw [ll_size zS_lst, ll_size h]) (ll_all _) ?_))
    refine bodyPost_ret (v := .tuple #[.agg (ll l), .int .u8 0, .bool false]) ?_ rfl ⟨rfl, HB.out.setRow (by omega) _⟩
    exact results_cell_tmp2 Try.results12 _ _ (w.heap.size + 1) 23 (ll l) (0, 0) _ _ _ rfl rfl rfl (setRow_heap _ _ _ _ _ _ hr) Try.underlying23 rfl (lstIk h)
end Go.Proofs.Ytaemmeofchonaaa
