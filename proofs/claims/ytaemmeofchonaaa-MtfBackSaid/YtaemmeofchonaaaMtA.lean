/- Lists of 256 bytes by value: in memory, when two are equal (after XTst). -/
import Derived.Test.YtaemmeofchonaaaGen
import Derived.Test.YtaemmeofchonaaaProg
import Derived.DeepKeys5
import Derived.Deep.WholeRow
import Derived.Deep.MidRow
import Derived.Laws.StructEq
set_option linter.unusedVariables false
set_option linter.unusedSimpArgs false
namespace Go.Proofs.Ytaemmeofchonaaa
open Go.RowKit

theorem intU : Try.prog.underlying 3 = some (.int .i64) := Try.underlying3
theorem mapM_some {α β : Type} {f : α → Option β} {g : α → β} : ∀ (is : List α), (∀ i ∈ is, f i = some (g i)) → is.mapM f = some (is.map g)
  | [], _ => rfl
  | i :: is, h => by
    rw [List.mapM_cons, h i (by simp), mapM_some is (fun j hj => h j (by simp [hj]))]
    rfl
/-- The numbers are a list of 256 bytes. -/
def Lst (l : List Int) : Prop := l.length = 256 ∧ ∀ z ∈ l, (Lit.int .u8 z).wf = true
/-- A list of 256 bytes's cells. -/
def ll (l : List Int) : Array Value := icells .u8 l
theorem ll_size {l : List Int} (h : Lst l) : (ll l).size = 256 := by rw [ll, icells_size, h.1]
theorem ll_inj {l m : List Int} (h : ll l = ll m) : l = m := by
  have h1 : l.map (Value.int .u8) = m.map (Value.int .u8) := by
    have := congrArg Array.toList h
    simpa [ll, icells] using this
  refine List.map_inj_right (f := Value.int .u8) ?_ |>.1 h1
  intro x y e
  injection e
theorem ll_get {l : List Int} (h : Lst l) (i : Nat) (hi : i < 256) : (ll l)[i]? = some (.int .u8 (l.getD i 0)) := by
  rw [ll, icells_get]
  simp [List.getD_eq_getElem?_getD, show i < l.length by rw [h.1]; exact hi]
theorem ll_set (l : List Int) (i : Nat) (z : Int) : (ll l).setIfInBounds i (.int .u8 z) = ll (l.set i z) := by
  apply Array.ext_getElem?
  intro j
  rw [Array.getElem?_setIfInBounds, ll, ll, icells_get, icells_get, icells_size, List.getElem?_set]
  by_cases e : i = j
  · subst e
    rw [if_pos rfl, if_pos rfl]
    by_cases hi : i < l.length
    · rw [if_pos hi, if_pos hi]; rfl
    · rw [if_neg hi, if_neg hi]; rfl
  · rw [if_neg e, if_neg e]
theorem ll_all (l : List Int) : (ll l).all (·.oneCell') = true := by
  rw [Array.all_eq_true_iff_forall_mem]
  intro v hv
  simp only [ll, icells, List.mem_toArray, List.mem_map] at hv
  obtain ⟨z, _, rfl⟩ := hv
  rfl
theorem Lst.get {l : List Int} (h : Lst l) (i : Nat) : (Lit.int .u8 (l.getD i 0)).wf = true := by
  by_cases hi : i < l.length
  · have := h.2 _ (List.getElem_mem hi)
    simpa [List.getD_eq_getElem?_getD, hi] using this
  · have e : l.getD i 0 = 0 := by simp [List.getD_eq_getElem?_getD, show l.length ≤ i by omega]
    rw [e]; decide
theorem Lst.bd {l : List Int} (h : Lst l) (i : Nat) : 0 ≤ l.getD i 0 ∧ l.getD i 0 ≤ 255 := bounds_u8 (h.get i)
theorem Lst.set {l : List Int} (h : Lst l) (i : Nat) (z : Int) (hz : (Lit.int .u8 z).wf = true) : Lst (l.set i z) := by
  refine ⟨by rw [List.length_set]; exact h.1, fun x hx => ?_⟩
  rcases List.mem_or_eq_of_mem_set hx with hx | rfl
  · exact h.2 x hx
  · exact hz
/-- The zero list of 256 bytes. -/
def zS : List Int := List.replicate 256 0
theorem zS_lst : Lst zS := ⟨List.length_replicate, fun z hz => by rw [List.eq_of_mem_replicate hz]; decide⟩
theorem zS_get (i : Nat) : zS.getD i 0 = 0 := by
  simp only [zS, List.getD_eq_getElem?_getD, List.getElem?_replicate]
  split <;> rfl

theorem lstI : (Try.prog.info? 23).map (·.size) = some 256 := by kernel_rfl
theorem lstIk {l : List Int} (h : Lst l) : (Try.prog.info? 23).map (·.size) = some (ll l).size := by rw [ll_size h]; exact lstI
theorem lstZ (w : World) : (zeroValue 23).run Try.prog w = .ok (.agg (ll zS)) w := by
  have h : (Try.prog.info? 23).map (fun i => (i.zero, i.size)) = some (some (.agg (ll zS)), 256) := by kernel_rfl
  exact (zero_of_info h).1 w
theorem u8U : Try.prog.underlying 5 = some (.int .u8) := Try.underlying5
theorem lstU : Try.prog.underlying 23 = some (.array 256 5) := Try.underlying23
theorem run_index_lst (w : World) {l : List Int} (h : Lst l) (i : Nat) (hi : i < 256) : (Instr.index 23 (.agg (ll l)) (.int .i64 i)).run Try.prog w = .ok (.int .u8 (l.getD i 0)) w := by
  have hs : (Try.prog.info? 5).map (·.size) = some 1 := by kernel_rfl
  cases hq : Try.prog.info? 5 with
  | none => simp [hq] at hs
  | some j =>
    have hj : j.size = 1 := by simpa [hq] using hs
    have hp := run_part_plain (P := Try.prog) w (e := 5) (by simp [Program.plainKey, u8U]) (ll_get h i hi)
    have hi' : (i : Int) < 256 := by omega
    simp [Instr.index, asIntOf, run_underlying lstU, sizeOf, typeInfo, hq, hj, hp, hi, show ¬ 256 ≤ i by omega]

/-! Equality. -/
theorem lst_key (l : List Int) (h : Lst l) : ∃ lx, keyOf Try.prog 23 (.agg (ll l)) = some lx := by
  have hk : Try.prog.keyType 23 = true := by kernel_rfl
  have hc : Try.prog.cellsOf 23 = 256 := by kernel_rfl
  have hi : Try.prog.cellsOf 5 = 1 := by kernel_rfl
  have ht : ∃ D, Try.prog.types.size + 1 = D + 2 := by
    have h1 : decide (1 < Try.prog.types.size) = true := by kernel_rfl
    have h2 := of_decide_eq_true h1
    exact ⟨Try.prog.types.size - 1, by omega⟩
  obtain ⟨D, hD⟩ := ht
  have hf : (Value.agg (ll l)).formed Try.prog 23 = true := by simp [Value.formed, lstU, hc, ll_size h]
  refine ⟨.string (keyBytes (((List.range 256).map fun i => [Lit.int .u8 (l.getD i 0)]).flatten)), ?_⟩
  unfold keyOf
  simp only [lstU, hk, hf, Bool.and_self, if_true]
  rw [hD]
  unfold Program.keyLits
  simp only [lstU, hc, Value.cells, hi]
  rw [if_pos (by rw [Array.length_toList, ll_size h])]
  rw [mapM_some (g := fun i => [Lit.int .u8 (l.getD i 0)]) _ (fun i hi => ?_)]
  · rfl
  · have hi' : i < 256 := List.mem_range.1 hi
    have e : ((ll l).toList.drop (i * 1)).take 1 = [.int .u8 (l.getD i 0)] := by
      have hg := ll_get h i hi'
      rw [← Array.getElem?_toList] at hg
      rw [Nat.mul_one]
      have hl : i < (ll l).toList.length := by rw [Array.length_toList, ll_size h]; exact hi'
      rw [List.drop_eq_getElem_cons hl]
      rw [List.getElem?_eq_getElem hl] at hg
      injection hg with hg
      rw [hg]
      rfl
    rw [e]
    unfold Program.keyLits
    have hw := h.get i
    rw [List.getD_eq_getElem?_getD] at hw
    simp [u8U, hw]
theorem lst_wide : (match Try.prog.underlying 23 with | some (.array _ _) | some (.struct _) => true | _ => false) = true := by rw [lstU]
theorem lst_keyAt : Try.prog.keyTypeAt 2 23 = true := by kernel_rfl
theorem lst_tiled : Try.prog.tiled 2 23 = true := by kernel_rfl
theorem lst_key_inj {l m : List Int} {lx : Lit} (h : keyOf Try.prog 23 (.agg (ll l)) = some lx) (k : keyOf Try.prog 23 (.agg (ll m)) = some lx) : l = m := by
  have := keyOf_inj_deep lst_tiled lst_wide h k
  injection this with this
  exact ll_inj this
theorem run_equal_lst (w : World) {l m : List Int} (h : Lst l) (k : Lst m) : (Op.equal 23 (.agg (ll l)) (.agg (ll m))).run Try.prog w = .ok (decide (l = m)) w := by
  obtain ⟨lx, hx⟩ := lst_key l h
  obtain ⟨ly, hy⟩ := lst_key m k
  obtain ⟨r, h1, h2⟩ := run_equal_deep w (m := 2) (by omega) lst_keyAt lst_wide hx hy
  rw [h1]
  congr 1
  rw [Bool.eq_iff_iff, h2, decide_eq_true_eq]
  constructor
  · rintro rfl
    exact lst_key_inj hx hy
  · rintro rfl
    rw [hx] at hy
    exact Option.some.inj hy
/-- In the form that the walk meets. -/
theorem run_eqi_lst (w : World) {l m : List Int} (h : Lst l) (k : Lst m) : (Op.equalIn 10000 23 (.agg (ll l)) (.agg (ll m))).run Try.prog w = .ok (decide (l = m)) w := run_equal_lst w h k
theorem run_eql_lst (w : World) {l m : List Int} (h : Lst l) (k : Lst m) : (binOp .eql 23 (.agg (ll l)) (.agg (ll m))).run Try.prog w = .ok (.bool (decide (l = m))) w := by
  simp [binOp, run_equal_lst w h k]
theorem run_neq_lst (w : World) {l m : List Int} (h : Lst l) (k : Lst m) : (binOp .neq 23 (.agg (ll l)) (.agg (ll m))).run Try.prog w = .ok (.bool (!decide (l = m))) w := by
  simp [binOp, run_equal_lst w h k]
theorem ll_cell {w : World} {g : Nat} {t : TypeId} {fr : Nat × Nat} {l : List Int} (hg : w.heap[g]? = some (.cells (ll l) t fr)) (h : Lst l) (i : Nat) (hi : i < 256) : w.cell? ⟨g, i, none⟩ = some (.int .u8 (l.getD i 0)) := by
  rw [cell_of_row w g i _ t fr hg, ll_get h i hi]

end Go.Proofs.Ytaemmeofchonaaa
