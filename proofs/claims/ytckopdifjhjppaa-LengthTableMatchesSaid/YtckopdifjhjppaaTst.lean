/- Lengths and states by value: in memory, when two are equal. -/
import Derived.Test.YtckopdifjhjppaaGen
import Derived.Test.YtckopdifjhjppaaProg
import Derived.Test.YtckopdifjhjppaaLtV
import Derived.DeepKeys5
import Derived.Deep.WholeRow
import Derived.Deep.MidRow
import Derived.Laws.StructEq
set_option linter.unusedVariables false
set_option linter.unusedSimpArgs false
namespace Go.Proofs.Ytckopdifjhjppaa
open Go.RowKit

theorem intU : Try.prog.underlying 3 = some (.int .i64) := Try.underlying3
theorem mapM_some {α β : Type} {f : α → Option β} {g : α → β} : ∀ (is : List α), (∀ i ∈ is, f i = some (g i)) → is.mapM f = some (is.map g)
  | [], _ => rfl
  | i :: is, h => by
    rw [List.mapM_cons, h i (by simp), mapM_some is (fun j hj => h j (by simp [hj]))]
    rfl
/-- The numbers are a tally. -/
def Lng (l : List Int) : Prop := l.length = 258 ∧ ∀ z ∈ l, (Lit.int .u8 z).wf = true
/-- A tally's cells. -/
def lg (l : List Int) : Array Value := icells .u8 l
theorem lg_size {l : List Int} (h : Lng l) : (lg l).size = 258 := by rw [lg, icells_size, h.1]
theorem lg_inj {l m : List Int} (h : lg l = lg m) : l = m := by
  have h1 : l.map (Value.int .u8) = m.map (Value.int .u8) := by
    have := congrArg Array.toList h
    simpa [lg, icells] using this
  refine List.map_inj_right (f := Value.int .u8) ?_ |>.1 h1
  intro x y e
  injection e
theorem lg_get {l : List Int} (h : Lng l) (i : Nat) (hi : i < 258) : (lg l)[i]? = some (.int .u8 (l.getD i 0)) := by
  rw [lg, icells_get]
  simp [List.getD_eq_getElem?_getD, show i < l.length by rw [h.1]; exact hi]
theorem lg_set (l : List Int) (i : Nat) (z : Int) : (lg l).setIfInBounds i (.int .u8 z) = lg (l.set i z) := by
  apply Array.ext_getElem?
  intro j
  rw [Array.getElem?_setIfInBounds, lg, lg, icells_get, icells_get, icells_size, List.getElem?_set]
  by_cases e : i = j
  · subst e
    rw [if_pos rfl, if_pos rfl]
    by_cases hi : i < l.length
    · rw [if_pos hi, if_pos hi]; rfl
    · rw [if_neg hi, if_neg hi]; rfl
  · rw [if_neg e, if_neg e]
theorem lg_all (l : List Int) : (lg l).all (·.oneCell') = true := by
  rw [Array.all_eq_true_iff_forall_mem]
  intro v hv
  simp only [lg, icells, List.mem_toArray, List.mem_map] at hv
  obtain ⟨z, _, rfl⟩ := hv
  rfl
theorem Lng.get {l : List Int} (h : Lng l) (i : Nat) : (Lit.int .u8 (l.getD i 0)).wf = true := by
  by_cases hi : i < l.length
  · have := h.2 _ (List.getElem_mem hi)
    simpa [List.getD_eq_getElem?_getD, hi] using this
  · have e : l.getD i 0 = 0 := by simp [List.getD_eq_getElem?_getD, show l.length ≤ i by omega]
    rw [e]; decide
theorem Lng.bd {l : List Int} (h : Lng l) (i : Nat) : 0 ≤ l.getD i 0 ∧ l.getD i 0 ≤ 255 := bounds_u8 (h.get i)
theorem Lng.set {l : List Int} (h : Lng l) (i : Nat) (z : Int) (hz : (Lit.int .u8 z).wf = true) : Lng (l.set i z) := by
  refine ⟨by rw [List.length_set]; exact h.1, fun x hx => ?_⟩
  rcases List.mem_or_eq_of_mem_set hx with hx | rfl
  · exact h.2 x hx
  · exact hz
/-- The zero tally. -/
def zL : List Int := List.replicate 258 0
theorem zL_lng : Lng zL := ⟨List.length_replicate, fun z hz => by rw [List.eq_of_mem_replicate hz]; decide⟩
theorem zL_get (i : Nat) : zL.getD i 0 = 0 := by
  simp only [zL, List.getD_eq_getElem?_getD, List.getElem?_replicate]
  split <;> rfl

theorem lngI : (Try.prog.info? 23).map (·.size) = some 258 := by kernel_rfl
theorem lngIk {l : List Int} (h : Lng l) : (Try.prog.info? 23).map (·.size) = some (lg l).size := by rw [lg_size h]; exact lngI
theorem lngZ (w : World) : (zeroValue 23).run Try.prog w = .ok (.agg (lg zL)) w := by
  have h : (Try.prog.info? 23).map (fun i => (i.zero, i.size)) = some (some (.agg (lg zL)), 258) := by kernel_rfl
  exact (zero_of_info h).1 w
theorem u8U : Try.prog.underlying 5 = some (.int .u8) := Try.underlying5
theorem lngU : Try.prog.underlying 23 = some (.array 258 5) := Try.underlying23
theorem run_index_lng (w : World) {l : List Int} (h : Lng l) (i : Nat) (hi : i < 258) : (Instr.index 23 (.agg (lg l)) (.int .i64 i)).run Try.prog w = .ok (.int .u8 (l.getD i 0)) w := by
  have hs : (Try.prog.info? 5).map (·.size) = some 1 := by kernel_rfl
  cases hq : Try.prog.info? 5 with
  | none => simp [hq] at hs
  | some j =>
    have hj : j.size = 1 := by simpa [hq] using hs
    have hp := run_part_plain (P := Try.prog) w (e := 5) (by simp [Program.plainKey, u8U]) (lg_get h i hi)
    have hi' : (i : Int) < 258 := by omega
    simp [Instr.index, asIntOf, run_underlying lngU, sizeOf, typeInfo, hq, hj, hp, hi, show ¬ 258 ≤ i by omega]

/-! Equality. -/
theorem lng_key (l : List Int) (h : Lng l) : ∃ lx, keyOf Try.prog 23 (.agg (lg l)) = some lx := by
  have hk : Try.prog.keyType 23 = true := by kernel_rfl
  have hc : Try.prog.cellsOf 23 = 258 := by kernel_rfl
  have hi : Try.prog.cellsOf 5 = 1 := by kernel_rfl
  have ht : ∃ D, Try.prog.types.size + 1 = D + 2 := by
    have h1 : decide (1 < Try.prog.types.size) = true := by kernel_rfl
    have h2 := of_decide_eq_true h1
    exact ⟨Try.prog.types.size - 1, by omega⟩
  obtain ⟨D, hD⟩ := ht
  have hf : (Value.agg (lg l)).formed Try.prog 23 = true := by simp [Value.formed, lngU, hc, lg_size h]
  refine ⟨.string (keyBytes (((List.range 258).map fun i => [Lit.int .u8 (l.getD i 0)]).flatten)), ?_⟩
  unfold keyOf
  simp only [lngU, hk, hf, Bool.and_self, if_true]
  rw [hD]
  unfold Program.keyLits
  simp only [lngU, hc, Value.cells, hi]
  rw [if_pos (by rw [Array.length_toList, lg_size h])]
  rw [mapM_some (g := fun i => [Lit.int .u8 (l.getD i 0)]) _ (fun i hi => ?_)]
  · rfl
  · have hi' : i < 258 := List.mem_range.1 hi
    have e : ((lg l).toList.drop (i * 1)).take 1 = [.int .u8 (l.getD i 0)] := by
      have hg := lg_get h i hi'
      rw [← Array.getElem?_toList] at hg
      rw [Nat.mul_one]
      have hl : i < (lg l).toList.length := by rw [Array.length_toList, lg_size h]; exact hi'
      rw [List.drop_eq_getElem_cons hl]
      rw [List.getElem?_eq_getElem hl] at hg
      injection hg with hg
      rw [hg]
      rfl
    rw [e]
    unfold Program.keyLits
    have hw := h.get i
    rw [List.getD_eq_getElem?_getD] at hw
    simp [u8U, hw]
theorem lng_wide : (match Try.prog.underlying 23 with | some (.array _ _) | some (.struct _) => true | _ => false) = true := by rw [lngU]
theorem lng_keyAt : Try.prog.keyTypeAt 2 23 = true := by kernel_rfl
theorem lng_tiled : Try.prog.tiled 2 23 = true := by kernel_rfl
theorem lng_key_inj {l m : List Int} {lx : Lit} (h : keyOf Try.prog 23 (.agg (lg l)) = some lx) (k : keyOf Try.prog 23 (.agg (lg m)) = some lx) : l = m := by
  have := keyOf_inj_deep lng_tiled lng_wide h k
  injection this with this
  exact lg_inj this
theorem run_equal_lng (w : World) {l m : List Int} (h : Lng l) (k : Lng m) : (Op.equal 23 (.agg (lg l)) (.agg (lg m))).run Try.prog w = .ok (decide (l = m)) w := by
  obtain ⟨lx, hx⟩ := lng_key l h
  obtain ⟨ly, hy⟩ := lng_key m k
  obtain ⟨r, h1, h2⟩ := run_equal_deep w (m := 2) (by omega) lng_keyAt lng_wide hx hy
  rw [h1]
  congr 1
  rw [Bool.eq_iff_iff, h2, decide_eq_true_eq]
  constructor
  · rintro rfl
    exact lng_key_inj hx hy
  · rintro rfl
    rw [hx] at hy
    exact Option.some.inj hy
/-- In the form that the walk meets. -/
theorem run_eqi_lng (w : World) {l m : List Int} (h : Lng l) (k : Lng m) : (Op.equalIn 10000 23 (.agg (lg l)) (.agg (lg m))).run Try.prog w = .ok (decide (l = m)) w := run_equal_lng w h k
theorem run_eql_lng (w : World) {l m : List Int} (h : Lng l) (k : Lng m) : (binOp .eql 23 (.agg (lg l)) (.agg (lg m))).run Try.prog w = .ok (.bool (decide (l = m))) w := by
  simp [binOp, run_equal_lng w h k]
theorem run_neq_lng (w : World) {l m : List Int} (h : Lng l) (k : Lng m) : (binOp .neq 23 (.agg (lg l)) (.agg (lg m))).run Try.prog w = .ok (.bool (!decide (l = m))) w := by
  simp [binOp, run_equal_lng w h k]
theorem lg_cell {w : World} {g : Nat} {t : TypeId} {fr : Nat × Nat} {l : List Int} (hg : w.heap[g]? = some (.cells (lg l) t fr)) (h : Lng l) (i : Nat) (hi : i < 258) : w.cell? ⟨g, i, none⟩ = some (.int .u8 (l.getD i 0)) := by
  rw [cell_of_row w g i _ t fr hg, lg_get h i hi]

/-! States. -/
/-- The numbers are a state's. -/
structure Tst (c : TS) : Prop where
  lng : Lng c.L
  y : (Lit.int .i64 c.y).wf = true
  t : (Lit.int .i64 c.t).wf = true
  n : (Lit.int .i64 c.n).wf = true
  a : (Lit.int .i64 c.a).wf = true
/-- A state's cells. -/
def tgl (c : TS) : List Value := (c.L.map (Value.int .u8)) ++ [.int .i64 c.y, .int .i64 c.t, .int .i64 c.n, .int .i64 c.a]
def tg (c : TS) : Array Value := (tgl c).toArray
theorem tgl_len {c : TS} (h : c.L.length = 258) : (tgl c).length = 262 := by
  unfold tgl
  rw [List.length_append, List.length_map, h]
  rfl
theorem tg_size {c : TS} (h : c.L.length = 258) : (tg c).size = 262 := by
  show (tgl c).length = 262
  exact tgl_len h
theorem tg_at (c : TS) (i : Nat) : (tg c)[i]? = (tgl c)[i]? := by simp [tg]
theorem tg_len {c : TS} (h : c.L.length = 258) (i : Nat) (hi : i < 258) : (tg c)[i]? = some (.int .u8 (c.L.getD i 0)) := by
  rw [tg_at, tgl, List.getElem?_append_left (by rw [List.length_map]; omega), List.getElem?_map, List.getD_eq_getElem?_getD, List.getElem?_eq_getElem (by omega)]
  rfl
theorem tg_num {c : TS} (h : c.L.length = 258) (j : Nat) : (tg c)[258 + j]? = [Value.int .i64 c.y, .int .i64 c.t, .int .i64 c.n, .int .i64 c.a][j]? := by
  rw [tg_at, tgl, List.getElem?_append_right (by rw [List.length_map]; omega), List.length_map, h, show 258 + j - 258 = j by omega]
theorem tg_y {c : TS} (h : c.L.length = 258) : (tg c)[258]? = some (.int .i64 c.y) := tg_num h 0
theorem tg_t {c : TS} (h : c.L.length = 258) : (tg c)[259]? = some (.int .i64 c.t) := tg_num h 1
theorem tg_n {c : TS} (h : c.L.length = 258) : (tg c)[260]? = some (.int .i64 c.n) := tg_num h 2
theorem tg_a {c : TS} (h : c.L.length = 258) : (tg c)[261]? = some (.int .i64 c.a) := tg_num h 3
theorem tg_inj {c d : TS} (hc : c.L.length = 258) (hd : d.L.length = 258) (h : tg c = tg d) : c = d := by
  have hl : c.L = d.L := by
    apply List.ext_getElem?
    intro i
    by_cases hi : i < 258
    · have h1 := tg_len hc i hi
      rw [h, tg_len hd i hi] at h1
      injection h1 with h1
      injection h1 with _ h1
      rw [List.getD_eq_getElem?_getD, List.getD_eq_getElem?_getD, List.getElem?_eq_getElem (by omega), List.getElem?_eq_getElem (by omega)] at h1
      rw [List.getElem?_eq_getElem (by omega), List.getElem?_eq_getElem (by omega)]
      simp only [Option.getD_some] at h1
      rw [h1]
    · rw [List.getElem?_eq_none (by omega), List.getElem?_eq_none (by omega)]
  have e1 := tg_y hc
  have e2 := tg_t hc
  have e3 := tg_n hc
  have e4 := tg_a hc
  rw [h] at e1 e2 e3 e4
  rw [tg_y hd] at e1
  rw [tg_t hd] at e2
  rw [tg_n hd] at e3
  rw [tg_a hd] at e4
  injection e1 with e1
  injection e1 with _ e1
  injection e2 with e2
  injection e2 with _ e2
  injection e3 with e3
  injection e3 with _ e3
  injection e4 with e4
  injection e4 with _ e4
  exact TS.ext' hl e1.symm e2.symm e3.symm e4.symm
theorem tg_toList (c : TS) (i : Nat) (v : Value) : (tg c).setIfInBounds i v = ((tgl c).set i v).toArray := by
  unfold tg
  exact List.setIfInBounds_toArray _ _ _
theorem tg_setL {c : TS} (h : c.L.length = 258) (i : Nat) (hi : i < 258) (z : Int) : (tg c).setIfInBounds i (.int .u8 z) = tg { c with L := c.L.set i z } := by
  rw [tg_toList]
  unfold tg tgl
  congr 1
  rw [List.set_append_left _ _ (by rw [List.length_map]; omega), ← List.map_set]
theorem tg_setN {c : TS} (h : c.L.length = 258) (j : Nat) (v : Value) : (tg c).setIfInBounds (258 + j) v = ((c.L.map (Value.int .u8)) ++ [Value.int .i64 c.y, .int .i64 c.t, .int .i64 c.n, .int .i64 c.a].set j v).toArray := by
  rw [tg_toList]
  unfold tgl
  congr 1
  rw [List.set_append_right _ _ (by rw [List.length_map]; omega), List.length_map, h, show 258 + j - 258 = j by omega]
theorem tg_setY {c : TS} (h : c.L.length = 258) (z : Int) : (tg c).setIfInBounds 258 (.int .i64 z) = tg { c with y := z } := tg_setN h 0 _
theorem tg_setT {c : TS} (h : c.L.length = 258) (z : Int) : (tg c).setIfInBounds 259 (.int .i64 z) = tg { c with t := z } := tg_setN h 1 _
theorem tg_setNow {c : TS} (h : c.L.length = 258) (z : Int) : (tg c).setIfInBounds 260 (.int .i64 z) = tg { c with n := z } := tg_setN h 2 _
theorem tg_setA {c : TS} (h : c.L.length = 258) (z : Int) : (tg c).setIfInBounds 261 (.int .i64 z) = tg { c with a := z } := tg_setN h 3 _
theorem tg_all (c : TS) : (tg c).all (·.oneCell') = true := by
  rw [Array.all_eq_true_iff_forall_mem]
  intro v hv
  simp only [tg, tgl, List.mem_toArray, List.mem_append, List.mem_map] at hv
  rcases hv with ⟨z, _, rfl⟩ | hv
  · rfl
  · simp at hv
    rcases hv with rfl | rfl | rfl | rfl <;> rfl
theorem tstI : (Try.prog.info? 25).map (·.size) = some 262 := by kernel_rfl
theorem tstIk {c : TS} (h : c.L.length = 258) : (Try.prog.info? 25).map (·.size) = some (tg c).size := by rw [tg_size h]; exact tstI
theorem tstZ (w : World) : (zeroValue 25).run Try.prog w = .ok (.agg (tg z0)) w := by
  have h : (Try.prog.info? 25).map (fun i => (i.zero, i.size)) = some (some (.agg (tg z0)), 262) := by kernel_rfl
  exact (zero_of_info h).1 w
theorem z0_lng : Lng z0.L := zL_lng
theorem z0_len : z0.L.length = 258 := zL_lng.1
theorem z0_tst : Tst z0 := ⟨z0_lng, by decide, by decide, by decide, by decide⟩
/-- A state in a block of its own. -/
theorem tg_cells {w : World} {g : Nat} {t : TypeId} {fr : Nat × Nat} {c : TS} (hg : w.heap[g]? = some (.cells (tg c) t fr)) (h : c.L.length = 258) :
    w.cell? ⟨g, 258, none⟩ = some (.int .i64 c.y) ∧ w.cell? ⟨g, 259, none⟩ = some (.int .i64 c.t) ∧ w.cell? ⟨g, 260, none⟩ = some (.int .i64 c.n) ∧ w.cell? ⟨g, 261, none⟩ = some (.int .i64 c.a) := by
  refine ⟨?_, ?_, ?_, ?_⟩
  · rw [cell_of_row w g _ _ t fr hg, tg_y h]
  · rw [cell_of_row w g _ _ t fr hg, tg_t h]
  · rw [cell_of_row w g _ _ t fr hg, tg_n h]
  · rw [cell_of_row w g _ _ t fr hg, tg_a h]
theorem tg_lcell {w : World} {g : Nat} {t : TypeId} {fr : Nat × Nat} {c : TS} (hg : w.heap[g]? = some (.cells (tg c) t fr)) (h : c.L.length = 258) (i : Nat) (hi : i < 258) : w.cell? ⟨g, i, none⟩ = some (.int .u8 (c.L.getD i 0)) := by
  rw [cell_of_row w g _ _ t fr hg, tg_len h i hi]
theorem tg_range {w : World} {g : Nat} {t : TypeId} {fr : Nat × Nat} {c : TS} (hg : w.heap[g]? = some (.cells (tg c) t fr)) (h : c.L.length = 258) : w.rangeAt g 0 (lg c.L).toList := fun j v hv => by
  have hj : j < 258 := by
    have := (List.getElem?_eq_some_iff.1 hv).1
    rw [Array.length_toList] at this
    unfold lg at this
    rw [icells_size] at this
    omega
  rw [Nat.zero_add, tg_lcell hg h j hj]
  rw [Array.getElem?_toList] at hv
  unfold lg at hv
  rw [icells_get, List.getElem?_eq_getElem (by omega)] at hv
  rw [List.getD_eq_getElem?_getD, List.getElem?_eq_getElem (by omega)]
  exact hv
theorem tst_key (c : TS) (h : Tst c) : ∃ lx, keyOf Try.prog 25 (.agg (tg c)) = some lx := by
  have hk : Try.prog.keyType 25 = true := by kernel_rfl
  have hc : Try.prog.cellsOf 25 = 262 := by kernel_rfl
  have hcl : Try.prog.cellsOf 23 = 258 := by kernel_rfl
  have hi : Try.prog.cellsOf 3 = 1 := by kernel_rfl
  have h8 : Try.prog.cellsOf 5 = 1 := by kernel_rfl
  have ht : ∃ D, Try.prog.types.size + 1 = D + 3 := by
    have h1 : decide (2 < Try.prog.types.size) = true := by kernel_rfl
    have h2 := of_decide_eq_true h1
    exact ⟨Try.prog.types.size - 2, by omega⟩
  obtain ⟨D, hD⟩ := ht
  have hf : (Value.agg (tg c)).formed Try.prog 25 = true := by simp [Value.formed, Try.underlying25, hc, tg_size h.lng.1]
  have hint : ∀ (d : Nat) (z : Int), (Lit.int .i64 z).wf = true → Try.prog.keyLits (d + 1) 3 [.int .i64 z] = some [Lit.int .i64 z] := fun d z hz => by
    unfold Program.keyLits
    simp [intU, hz]
  have hlen : ∀ d : Nat, Try.prog.keyLits (d + 2) 23 (c.L.map (Value.int .u8)) = some ((List.range 258).map fun i => [Lit.int .u8 (c.L.getD i 0)]).flatten := fun d => by
    unfold Program.keyLits
    simp only [lngU, hcl, h8]
    rw [if_pos (by rw [List.length_map, h.lng.1])]
    rw [mapM_some (g := fun i => [Lit.int .u8 (c.L.getD i 0)]) _ (fun i hi => ?_)]
    · rfl
    · have hi' : i < 258 := List.mem_range.1 hi
      have e : ((c.L.map (Value.int .u8)).drop (i * 1)).take 1 = [.int .u8 (c.L.getD i 0)] := by
        have hl : i < (c.L.map (Value.int .u8)).length := by rw [List.length_map, h.lng.1]; exact hi'
        rw [Nat.mul_one, List.drop_eq_getElem_cons hl, List.getElem_map, List.getD_eq_getElem?_getD, List.getElem?_eq_getElem (by rw [h.lng.1]; exact hi')]
        rfl
      rw [e]
      unfold Program.keyLits
      have hw := h.lng.get i
      rw [List.getD_eq_getElem?_getD] at hw
      simp [u8U, hw]
  have d0 : ((tgl c).drop 0).take 258 = c.L.map (Value.int .u8) := by
    unfold tgl
    rw [List.drop_zero, List.take_append_of_le_length (by rw [List.length_map, h.lng.1]; exact Nat.le_refl _), List.take_of_length_le (by rw [List.length_map, h.lng.1]; exact Nat.le_refl _)]
  have dj : ∀ j : Nat, ((tgl c).drop (258 + j)).take 1 = ([Value.int .i64 c.y, .int .i64 c.t, .int .i64 c.n, .int .i64 c.a].drop j).take 1 := fun j => by
    unfold tgl
    rw [List.drop_append, List.length_map, h.lng.1, List.drop_of_length_le (by rw [List.length_map, h.lng.1]; omega), List.nil_append, show 258 + j - 258 = j by omega]
  refine ⟨.string (keyBytes ((((List.range 258).map fun i => [Lit.int .u8 (c.L.getD i 0)]).flatten) ++ [Lit.int .i64 c.y, .int .i64 c.t, .int .i64 c.n, .int .i64 c.a])), ?_⟩
  unfold keyOf
  simp only [Try.underlying25, hk, hf, Bool.and_self, if_true]
  rw [hD]
  unfold Program.keyLits
  simp only [Try.underlying25, Value.cells]
  rw [if_pos ⟨by rw [hc]; exact tgl_len h.lng.1, by simp⟩]
  show Option.map _ (Option.map _ (List.mapM _ [_, _, _, _, _])) = _
  simp only [List.mapM_cons, List.mapM_nil, hcl, hi]
  rw [show (tg c).toList = tgl c from rfl, d0, dj 0, dj 1, dj 2, dj 3]
  have q1 : Try.prog.keyLits (D + 2) 3 [Value.int .i64 c.y] = some [Lit.int .i64 c.y] := hint (D + 1) _ h.y
  have q2 : Try.prog.keyLits (D + 2) 3 [Value.int .i64 c.t] = some [Lit.int .i64 c.t] := hint (D + 1) _ h.t
  have q3 : Try.prog.keyLits (D + 2) 3 [Value.int .i64 c.n] = some [Lit.int .i64 c.n] := hint (D + 1) _ h.n
  have q4 : Try.prog.keyLits (D + 2) 3 [Value.int .i64 c.a] = some [Lit.int .i64 c.a] := hint (D + 1) _ h.a
  have q0 := hlen D
  generalize ((List.range 258).map fun i => [Lit.int .u8 (c.L.getD i 0)]).flatten = Q at q0 ⊢
  simp [q0, q1, q2, q3, q4]
theorem tst_wide : (match Try.prog.underlying 25 with | some (.array _ _) | some (.struct _) => true | _ => false) = true := by rw [Try.underlying25]
theorem tst_keyAt : Try.prog.keyTypeAt 3 25 = true := by kernel_rfl
theorem tst_tiled : Try.prog.tiled 3 25 = true := by kernel_rfl
theorem tst_key_inj {c d : TS} (hc : Tst c) (hd : Tst d) {lx : Lit} (h : keyOf Try.prog 25 (.agg (tg c)) = some lx) (k : keyOf Try.prog 25 (.agg (tg d)) = some lx) : c = d := by
  have := keyOf_inj_deep tst_tiled tst_wide h k
  injection this with this
  exact tg_inj hc.lng.1 hd.lng.1 this
theorem run_equal_tst (w : World) {c d : TS} (hc : Tst c) (hd : Tst d) : (Op.equal 25 (.agg (tg c)) (.agg (tg d))).run Try.prog w = .ok (decide (c = d)) w := by
  obtain ⟨lx, hx⟩ := tst_key c hc
  obtain ⟨ly, hy⟩ := tst_key d hd
  obtain ⟨r, h1, h2⟩ := run_equal_deep w (m := 3) (by omega) tst_keyAt tst_wide hx hy
  rw [h1]
  congr 1
  rw [Bool.eq_iff_iff, h2, decide_eq_true_eq]
  constructor
  · rintro rfl
    exact tst_key_inj hc hd hx hy
  · rintro rfl
    rw [hx] at hy
    exact Option.some.inj hy
/-- In the form that the walk meets. -/
theorem run_eqi_tst (w : World) {c d : TS} (hc : Tst c) (hd : Tst d) : (Op.equalIn 10000 25 (.agg (tg c)) (.agg (tg d))).run Try.prog w = .ok (decide (c = d)) w := run_equal_tst w hc hd
end Go.Proofs.Ytckopdifjhjppaa
