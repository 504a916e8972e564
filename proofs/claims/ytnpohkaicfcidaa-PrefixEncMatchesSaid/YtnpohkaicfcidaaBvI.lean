/- Package bitwriter: the bits of a number, visited by a range over a function. -/
import Derived.RangeFuncNested
import Derived.RangeFuncBound
import Derived.RangeFuncCalls
import Derived.RangeFuncLeaves
import Derived.RangeFuncBox
import Derived.Shelf.Abstract
import Derived.Shelf.RegionOpen
import Derived.WalkKit
import Derived.OwnWalkIn
import Derived.TacticsInMore
import Derived.LoopNIn
import Derived.LoopIn
import Derived.Outline
import Derived.Test.YtnpohkaicfcidaaProg
import Derived.Test.YtnpohkaicfcidaaCh
import Derived.Test.YtnpohkaicfcidaaBits
set_option linter.unusedVariables false
set_option linter.unusedSimpArgs false
namespace Go.Proofs.Ytnpohkaicfcidaa
open Go.RowKit Go.Shelf
attribute [local go_sem] Oper.semAt_some

/-- A bit. -/
abbrev Bit := { x : Int // x = 0 ∨ x = 1 }
def mkBit (x : Int) : Bit := ⟨x % 2, by omega⟩
/-- What a round leaves: the old memory below n, and the blocks from a to b. -/
def KpB (n a b : Nat) (W W' : World) : Prop := Below n W W' ∧ ∀ k, a ≤ k → k < b → W'.heap[k]? = W.heap[k]?
theorem KpB.refl (n a b : Nat) (W : World) : KpB n a b W W := ⟨Below.refl _ _, fun _ _ _ => rfl⟩
theorem kpB_t {n a b : Nat} {A B C : World} (h : KpB n a b A B) (k : KpB n a b B C) : KpB n a b A C := ⟨h.1.trans k.1, fun i h1 h2 => (k.2 i h1 h2).trans (h.2 i h1 h2)⟩
theorem kpB_b {n a b : Nat} {w : World} (hn : n ≤ w.heap.size) (hb : b ≤ w.heap.size) (W : World) (l : Nat) (o o' : Obj) (hl : w.heap.size ≤ l) (h : W.heap[l]? = some o) (hc : o.isCells = false) (hw : o.isWalk = false) : KpB n a b W (W.putObj l o') :=
  ⟨belowK_b hn W l o o' hl h hc hw, fun k h1 h2 => World.putObj_heap_other (by omega)⟩
theorem KpB.cell {n a b : Nat} {W W' : World} (h : KpB n a b W W') {g o : Nat} (h1 : a ≤ g) (h2 : g < b) : W'.cell? ⟨g, o, none⟩ = W.cell? ⟨g, o, none⟩ := World.cell?_of_block (a := ⟨g, o, none⟩) (h.2 g h1 h2)

/-- The bits that have come. -/
def uptoV (v : Int) (n k : Nat) : List Bit := (List.range k).map (fun i => mkBit (v / ((2 ^ (n - 1 - i) : Nat) : Int)))
theorem uptoV_succ (v : Int) (n k : Nat) : uptoV v n (k + 1) = uptoV v n k ++ [mkBit (v / ((2 ^ (n - 1 - k) : Nat) : Int))] := by simp [uptoV, List.range_succ]
theorem uptoV_length (v : Int) (n k : Nat) : (uptoV v n k).length = k := by simp [uptoV]
theorem uptoV_all (v : Int) (n : Nat) : (uptoV v n n).map (·.1) = bitsV v n := by simp [uptoV, bitsV, mkBit]

theorem and1 (x : Int) (h0 : 0 ≤ x) (h1 : x ≤ 4294967295) : bits .and .u32 x 1 = x % 2 := by
  obtain ⟨X, rfl⟩ := Int.eq_ofNat_of_zero_le h0
  have := u32_and_nat X 1 (by omega) (by omega)
  rw [show ((1 : Nat) : Int) = 1 from rfl] at this
  rw [this, Nat.and_one_is_mod]
  omega
theorem mkBit_val (v : Int) (m : Nat) (h0 : 0 ≤ v) (h1 : v ≤ 4294967295) : (mkBit (v / ((2 ^ m : Nat) : Int))).1 = bits .and .u32 (v / 2 ^ m) 1 := by
  have e : ((2 ^ m : Nat) : Int) = 2 ^ m := by simp
  have h2 : 0 < ((2 ^ m : Nat) : Int) := by have := Nat.two_pow_pos m; omega
  have h3 : v / ((2 ^ m : Nat) : Int) ≤ v := Int.ediv_le_self _ h0
  rw [← e, and1 _ (Int.ediv_nonneg h0 (by omega)) (by omega)]
  rfl

set_option maxRecDepth 100000 in
set_option maxHeartbeats 2000000 in
theorem wbitsOf1_in (F : Fence) (n : Nat) (hf : F.fn 39) (hro : F.round = none) (hn : 1 ≤ n) (l bv bw a b : Nat) (v : Int) (hv : 0 ≤ v) (hv' : v ≤ 4294967295) (wd : Nat) (hw : wd ≤ 32) (hv1 : a ≤ bv) (hv2 : bv < b) (hw1 : a ≤ bw) (hw2 : bw < b)
    (J Jx : List Bit → World → Prop)
    (hY : ∀ pre x W, J pre W → pre.length < wd → YieldAt F (n - 1) Try.prog l #[.int .u32 x.1] W fun e W' =>
      (e = .returned (.bool true) ∧ J (pre ++ [x]) W' ∧ KpB 0 a b W W') ∨ (e = .returned (.bool false) ∧ Jx (pre ++ [x]) W'))
    (W : World) (hBv : W.cell? ⟨bv, 0, none⟩ = some (.int .u32 v)) (hBw : W.cell? ⟨bw, 0, none⟩ = some (.int .i64 wd)) (h0 : J [] W) :
    CallsIn F n Try.prog 39 #[.func (.yield l) #[] #[], .pointer (some ⟨bw, 0, none⟩), .pointer (some ⟨bv, 0, none⟩)] W fun e W' => (∃ v, e = .returned v) ∧
      ((∃ ys, ys = uptoV v wd wd ∧ J ys W') ∨ (∃ pre, (∃ k, k ≤ wd ∧ pre = uptoV v wd k) ∧ Jx pre W')) := by
  refine callsIn_of_wp Try.func39 rfl hf ?_ hro
  simp only [Try.ntmps39, List.size_toArray, List.length_cons, List.length_nil, Nat.reduceAdd, Nat.reduceSub, Array.replicate_succ, Array.replicate_zero, List.push_toArray, List.append_toArray, List.nil_append, List.cons_append]
  gi_wp2
  gi_loopw [4] (fun i wr => ∃ k : Nat, k ≤ wd ∧ i = .int .i64 ((wd : Int) - 1 - (k : Int)) ∧ J (uptoV v wd k) wr ∧ KpB 0 a b W wr)
    (fun i _ => (intOf i + 1).toNat)
  case atStart => exact ⟨0, Nat.zero_le _, by go_num, h0, KpB.refl _ _ _ _⟩
  case round =>
    obtain ⟨k, hk, rfl, hJs, hnx⟩ := hrel
    have hcv : wr.cell? ⟨bv, 0, none⟩ = some (.int .u32 v) := (hnx.cell hv1 hv2).trans hBv
    by_cases hlt : k < wd
    · obtain ⟨fn, tmps, assign, body, hy, hR⟩ := hY _ (mkBit (v / ((2 ^ (wd - 1 - k) : Nat) : Int))) wr hJs (by rw [uptoV_length]; exact hlt)
      obtain ⟨m, hm⟩ : ∃ m : Nat, (wd : Int) - 1 - (k : Int) = m := ⟨wd - 1 - k, by omega⟩
      rw [hm]
      have hm' : wd - 1 - k = m := by omega
      rw [hm', mkBit_val v m hv hv'] at hy
      have hm32 : m < 32 := by omega
      have HM := Lib.hid hm
      clear hm hm'
      gi_wp2
      refine hR.mono ?_
      rintro e W3 (⟨rfl, hJ3, hk3⟩ | ⟨rfl, hJx3⟩)
      · gi_wp2
        go_roundw
        case rel => exact ⟨k + 1, by omega, by have := HM.out; go_num, by rw [uptoV_succ]; exact hJ3, kpB_t hnx hk3⟩
        case measure => simp [intOf]
      · gi_wp2
        refine bodyPost_ret (results_none rfl _ _ _) rfl ?_
        exact ⟨⟨_, rfl⟩, .inr ⟨_, ⟨k + 1, by omega, (uptoV_succ _ _ _).symm⟩, hJx3⟩⟩
    · obtain rfl : k = wd := by omega
      gi_wp2
      go_end0
      exact ⟨⟨_, rfl⟩, .inl ⟨_, rfl, hJs⟩⟩

set_option maxHeartbeats 1000000 in
theorem wbitsOf_in (F : Fence) (n : Nat) (hf : F.fn 32) (hro : F.round = none) (v wd : Int) (w : World) :
    CallsIn F n Try.prog 32 #[.int .u32 v, .int .i64 wd] w fun e w' => e = .returned (.func (.func 39) #[] #[.pointer (some ⟨w.heap.size + 1, 0, none⟩), .pointer (some ⟨w.heap.size, 0, none⟩)]) ∧
      w' = (w.alloc (.cells #[.int .u32 v] 41)).alloc (.cells #[.int .i64 wd] 3) := by
  refine callsIn_of_wp Try.func32 rfl hf ?_ hro
  simp only [Try.ntmps32, List.size_toArray, List.length_cons, List.length_nil, Nat.reduceAdd, Nat.reduceSub, Array.replicate_succ, Array.replicate_zero, List.push_toArray, List.append_toArray, List.nil_append, List.cons_append]
  gi_wp2
  go_ret
  exact ⟨rfl, rfl⟩

theorem wbitsOf_stops (F : Fence) (n : Nat) (hf : F.fn 39) (hro : F.round = none) (hn : 1 ≤ n) (bv bw a b : Nat) (v : Int) (hv : 0 ≤ v) (hv' : v ≤ 4294967295) (wd : Nat) (hw : wd ≤ 32) (hv1 : a ≤ bv) (hv2 : bv < b) (hw1 : a ≤ bw) (hw2 : bw < b)
    (w : World) (hb : b ≤ w.heap.size) (hBv : w.cell? ⟨bv, 0, none⟩ = some (.int .u32 v)) (hBw : w.cell? ⟨bw, 0, none⟩ = some (.int .i64 wd)) :
    SeqStopsK F n Try.prog 39 #[.pointer (some ⟨bw, 0, none⟩), .pointer (some ⟨bv, 0, none⟩)] (fun x : Bit => #[Value.int .u32 x.1]) (KpB 0 a b) (fun ys => ys = uptoV v wd wd) (fun pre => ∃ k, k ≤ wd ∧ pre = uptoV v wd k) wd w := fun l J Jx W hW _ _ hY h0 =>
  wbitsOf1_in F n hf hro hn l bv bw a b v hv hv' wd hw hv1 hv2 hw1 hw2 J Jx hY W ((hW.cell (p := ⟨bv, 0, none⟩) (by simp; omega)).trans hBv) ((hW.cell (p := ⟨bw, 0, none⟩) (by simp; omega)).trans hBw) h0

end Go.Proofs.Ytnpohkaicfcidaa
