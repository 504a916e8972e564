/- Package bitwriter: the bits of a number and of a byte string, visited by a range over a function. -/
import Derived.RangeFuncNested
import Derived.RangeFuncBound
import Derived.RangeFuncCalls
import Derived.RangeFuncLeaves
import Derived.RangeFuncBox
import Derived.Shelf.Abstract
import Derived.Shelf.RegionOpen
import Derived.WalkKit
import Derived.OwnWalkIn
import Derived.TacticsInMore
import Derived.LoopNIn
import Derived.LoopIn
import Derived.Outline
import Derived.Test.YthofbdlnbfpfeaaProg
import Derived.Test.YthofbdlnbfpfeaaCh
import Derived.Test.YthofbdlnbfpfeaaBits
set_option linter.unusedVariables false
set_option linter.unusedSimpArgs false
namespace Go.Proofs.Ythofbdlnbfpfeaa
open Go.RowKit Go.Shelf
attribute [local go_sem] Oper.semAt_some

/-- A bit. -/
abbrev Bit := { x : Int // x = 0 ∨ x = 1 }
def mkBit (x : Int) : Bit := ⟨x % 2, by omega⟩
/-- What a round leaves: the old memory below n, and the blocks from a to b. -/
def KpB (n a b : Nat) (W W' : World) : Prop := Below n W W' ∧ ∀ k, a ≤ k → k < b → W'.heap[k]? = W.heap[k]?
theorem KpB.refl (n a b : Nat) (W : World) : KpB n a b W W := ⟨Below.refl _ _, fun _ _ _ => rfl⟩
theorem kpB_t {n a b : Nat} {A B C : World} (h : KpB n a b A B) (k : KpB n a b B C) : KpB n a b A C := ⟨h.1.trans k.1, fun i h1 h2 => (k.2 i h1 h2).trans (h.2 i h1 h2)⟩
theorem kpB_b {n a b : Nat} {w : World} (hn : n ≤ w.heap.size) (hb : b ≤ w.heap.size) (W : World) (l : Nat) (o o' : Obj) (hl : w.heap.size ≤ l) (h : W.heap[l]? = some o) (hc : o.isCells = false) (hw : o.isWalk = false) : KpB n a b W (W.putObj l o') :=
  ⟨belowK_b hn W l o o' hl h hc hw, fun k h1 h2 => World.putObj_heap_other (by omega)⟩
theorem KpB.cell {n a b : Nat} {W W' : World} (h : KpB n a b W W') {g o : Nat} (h1 : a ≤ g) (h2 : g < b) : W'.cell? ⟨g, o, none⟩ = W.cell? ⟨g, o, none⟩ := World.cell?_of_block (a := ⟨g, o, none⟩) (h.2 g h1 h2)

/-- The bits that have come. -/
def uptoV (v : Int) (n k : Nat) : List Bit := (List.range k).map (fun i => mkBit (v / ((2 ^ (n - 1 - i) : Nat) : Int)))
theorem uptoV_succ (v : Int) (n k : Nat) : uptoV v n (k + 1) = uptoV v n k ++ [mkBit (v / ((2 ^ (n - 1 - k) : Nat) : Int))] := by simp [uptoV, List.range_succ]
theorem uptoV_length (v : Int) (n k : Nat) : (uptoV v n k).length = k := by simp [uptoV]
theorem uptoV_all (v : Int) (n : Nat) : (uptoV v n n).map (·.1) = bitsV v n := by simp [uptoV, bitsV, mkBit]

theorem and1 (x : Int) (h0 : 0 ≤ x) (h1 : x ≤ 4294967295) : bits .and .u32 x 1 = x % 2 := by
  obtain ⟨X, rfl⟩ := Int.eq_ofNat_of_zero_le h0
  have := u32_and_nat X 1 (by omega) (by omega)
  rw [show ((1 : Nat) : Int) = 1 from rfl] at this
  rw [this, Nat.and_one_is_mod]
  omega
theorem mkBit_val (v : Int) (m : Nat) (h0 : 0 ≤ v) (h1 : v ≤ 4294967295) : (mkBit (v / ((2 ^ m : Nat) : Int))).1 = bits .and .u32 (v / 2 ^ m) 1 := by
  have e : ((2 ^ m : Nat) : Int) = 2 ^ m := by simp
  have h2 : 0 < ((2 ^ m : Nat) : Int) := by have := Nat.two_pow_pos m; omega
  have h3 : v / ((2 ^ m : Nat) : Int) ≤ v := Int.ediv_le_self _ h0
  rw [← e, and1 _ (Int.ediv_nonneg h0 (by omega)) (by omega)]
  rfl

set_option maxRecDepth 100000 in
set_option maxHeartbeats 2000000 in
theorem bitsOf1_in (F : Fence) (n : Nat) (hf : F.fn 28) (hro : F.round = none) (hn : 1 ≤ n) (l bv bw a b : Nat) (v : Int) (hv : 0 ≤ v) (hv' : v ≤ 4294967295) (wd : Nat) (hw : wd ≤ 32) (hv1 : a ≤ bv) (hv2 : bv < b) (hw1 : a ≤ bw) (hw2 : bw < b)
    (J Jx : List Bit → World → Prop)
    (hY : ∀ pre x W, J pre W → pre.length < wd → YieldAt F (n - 1) Try.prog l #[.int .u32 x.1] W fun e W' =>
      (e = .returned (.bool true) ∧ J (pre ++ [x]) W' ∧ KpB 0 a b W W') ∨ (e = .returned (.bool false) ∧ Jx (pre ++ [x]) W'))
    (W : World) (hBv : W.cell? ⟨bv, 0, none⟩ = some (.int .u32 v)) (hBw : W.cell? ⟨bw, 0, none⟩ = some (.int .i64 wd)) (h0 : J [] W) :
    CallsIn F n Try.prog 28 #[.func (.yield l) #[] #[], .pointer (some ⟨bw, 0, none⟩), .pointer (some ⟨bv, 0, none⟩)] W fun e W' => (∃ v, e = .returned v) ∧
      ((∃ ys, ys = uptoV v wd wd ∧ J ys W') ∨ (∃ pre, (∃ k, k ≤ wd ∧ pre = uptoV v wd k) ∧ Jx pre W')) := by
  refine callsIn_of_wp Try.func28 rfl hf ?_ hro
  simp only [Try.ntmps28, List.size_toArray, List.length_cons, List.length_nil, Nat.reduceAdd, Nat.reduceSub, Array.replicate_succ, Array.replicate_zero, List.push_toArray, List.append_toArray, List.nil_append, List.cons_append]
  gi_wp2
  gi_loopw [4] (fun i wr => ∃ k : Nat, k ≤ wd ∧ i = .int .i64 ((wd : Int) - 1 - (k : Int)) ∧ J (uptoV v wd k) wr ∧ KpB 0 a b W wr)
    (fun i _ => (intOf i + 1).toNat)
  case atStart => exact ⟨0, Nat.zero_le _, by go_num, h0, KpB.refl _ _ _ _⟩
  case round =>
    obtain ⟨k, hk, rfl, hJs, hnx⟩ := hrel
    have hcv : wr.cell? ⟨bv, 0, none⟩ = some (.int .u32 v) := (hnx.cell hv1 hv2).trans hBv
    by_cases hlt : k < wd
    · obtain ⟨fn, tmps, assign, body, hy, hR⟩ := hY _ (mkBit (v / ((2 ^ (wd - 1 - k) : Nat) : Int))) wr hJs (by rw [uptoV_length]; exact hlt)
      obtain ⟨m, hm⟩ : ∃ m : Nat, (wd : Int) - 1 - (k : Int) = m := ⟨wd - 1 - k, by omega⟩
      rw [hm]
      have hm' : wd - 1 - k = m := by omega
      rw [hm', mkBit_val v m hv hv'] at hy
      have hm32 : m < 32 := by omega
      have HM := Lib.hid hm
      clear hm hm'
      gi_wp2
      refine hR.mono ?_
      rintro e W3 (⟨rfl, hJ3, hk3⟩ | ⟨rfl, hJx3⟩)
      · gi_wp2
        go_roundw
        case rel => exact ⟨k + 1, by omega, by have := HM.out; go_num, by rw [uptoV_succ]; exact hJ3, kpB_t hnx hk3⟩
        case measure => simp [intOf]
      · gi_wp2
        refine bodyPost_ret (results_none rfl _ _ _) rfl ?_
        exact ⟨⟨_, rfl⟩, .inr ⟨_, ⟨k + 1, by omega, (uptoV_succ _ _ _).symm⟩, hJx3⟩⟩
    · obtain rfl : k = wd := by omega
      gi_wp2
      go_end0
      exact ⟨⟨_, rfl⟩, .inl ⟨_, rfl, hJs⟩⟩

set_option maxHeartbeats 1000000 in
theorem bitsOf_in (F : Fence) (n : Nat) (hf : F.fn 25) (hro : F.round = none) (v wd : Int) (w : World) :
    CallsIn F n Try.prog 25 #[.int .u32 v, .int .i64 wd] w fun e w' => e = .returned (.func (.func 28) #[] #[.pointer (some ⟨w.heap.size + 1, 0, none⟩), .pointer (some ⟨w.heap.size, 0, none⟩)]) ∧
      w' = (w.alloc (.cells #[.int .u32 v] 33)).alloc (.cells #[.int .i64 wd] 3) := by
  refine callsIn_of_wp Try.func25 rfl hf ?_ hro
  simp only [Try.ntmps25, List.size_toArray, List.length_cons, List.length_nil, Nat.reduceAdd, Nat.reduceSub, Array.replicate_succ, Array.replicate_zero, List.push_toArray, List.append_toArray, List.nil_append, List.cons_append]
  gi_wp2
  go_ret
  exact ⟨rfl, rfl⟩

theorem bitsOf_stops (F : Fence) (n : Nat) (hf : F.fn 28) (hro : F.round = none) (hn : 1 ≤ n) (bv bw a b : Nat) (v : Int) (hv : 0 ≤ v) (hv' : v ≤ 4294967295) (wd : Nat) (hw : wd ≤ 32) (hv1 : a ≤ bv) (hv2 : bv < b) (hw1 : a ≤ bw) (hw2 : bw < b)
    (w : World) (hb : b ≤ w.heap.size) (hBv : w.cell? ⟨bv, 0, none⟩ = some (.int .u32 v)) (hBw : w.cell? ⟨bw, 0, none⟩ = some (.int .i64 wd)) :
    SeqStopsK F n Try.prog 28 #[.pointer (some ⟨bw, 0, none⟩), .pointer (some ⟨bv, 0, none⟩)] (fun x : Bit => #[Value.int .u32 x.1]) (KpB 0 a b) (fun ys => ys = uptoV v wd wd) (fun pre => ∃ k, k ≤ wd ∧ pre = uptoV v wd k) wd w := fun l J Jx W hW _ _ hY h0 =>
  bitsOf1_in F n hf hro hn l bv bw a b v hv hv' wd hw hv1 hv2 hw1 hw2 J Jx hY W ((hW.cell (p := ⟨bv, 0, none⟩) (by simp; omega)).trans hBv) ((hW.cell (p := ⟨bw, 0, none⟩) (by simp; omega)).trans hBw) h0

/-- The bits of a byte string that have come. -/
def uptoB (l : List Int) (a k : Nat) : List Bit := (List.range k).map (fun i => mkBit (l.getD ((a + i) / 8) 0 / ((2 ^ (7 - (a + i) % 8) : Nat) : Int)))
theorem uptoB_succ (l : List Int) (a k : Nat) : uptoB l a (k + 1) = uptoB l a k ++ [mkBit (l.getD ((a + k) / 8) 0 / ((2 ^ (7 - (a + k) % 8) : Nat) : Int))] := by simp [uptoB, List.range_succ]
theorem uptoB_length (l : List Int) (a k : Nat) : (uptoB l a k).length = k := by simp [uptoB]
theorem uptoB_all (l : List Int) (a n : Nat) (h : a + n ≤ 8 * l.length) : (uptoB l a n).map (·.1) = ((bitsB l).drop a).take n := by
  apply List.ext_getElem
  · simp [uptoB, bitsB_length]; omega
  · intro i h1 h2
    have hi : i < n := by simpa [uptoB] using h1
    have e : (bitsB l)[a + i]'(by rw [bitsB_length]; omega) = (bitsB l).getD (a + i) 0 := (getD_in _ _ _).symm
    rw [List.getElem_take, List.getElem_drop, e, bitsB_getD _ _ (by omega)]
    simp [uptoB, mkBit]

set_option maxRecDepth 100000 in
set_option maxHeartbeats 2000000 in
theorem bitsIn1_in (F : Fence) (n : Nat) (hf : F.fn 27) (hro : F.round = none) (hn : 1 ≤ n) (l bb ba bm n0 a b : Nat) (sp : Option Addr) (len cap : Nat) (bs : List Int) (hl : bs.length = len) (hby : ∀ x ∈ bs, 0 ≤ x ∧ x ≤ 255) (hsp : 0 < len → ∀ x, sp = some x → x.block < n0)
    (at_ many : Nat) (ham : at_ + many ≤ 8 * len) (h63 : 8 * len ≤ 9223372036854775807) (hb1 : a ≤ bb) (hb2 : bb < b) (ha1 : a ≤ ba) (ha2 : ba < b) (hm1 : a ≤ bm) (hm2 : bm < b)
    (J Jx : List Bit → World → Prop)
    (hY : ∀ pre x W, J pre W → pre.length < many → YieldAt F (n - 1) Try.prog l #[.int .u32 x.1] W fun e W' =>
      (e = .returned (.bool true) ∧ J (pre ++ [x]) W' ∧ KpB n0 a b W W') ∨ (e = .returned (.bool false) ∧ Jx (pre ++ [x]) W'))
    (W : World) (hBb : W.cell? ⟨bb, 0, none⟩ = some (.slice sp len cap)) (hBa : W.cell? ⟨ba, 0, none⟩ = some (.int .i64 at_)) (hBm : W.cell? ⟨bm, 0, none⟩ = some (.int .i64 many)) (hS : Src W .u8 sp bs) (h0 : J [] W) :
    CallsIn F n Try.prog 27 #[.func (.yield l) #[] #[], .pointer (some ⟨ba, 0, none⟩), .pointer (some ⟨bm, 0, none⟩), .pointer (some ⟨bb, 0, none⟩)] W fun e W' => (∃ v, e = .returned v) ∧
      ((∃ ys, ys = uptoB bs at_ many ∧ J ys W') ∨ (∃ pre, (∃ k, k ≤ many ∧ pre = uptoB bs at_ k) ∧ Jx pre W')) := by
  refine callsIn_of_wp Try.func27 rfl hf ?_ hro
  simp only [Try.ntmps27, List.size_toArray, List.length_cons, List.length_nil, Nat.reduceAdd, Nat.reduceSub, Array.replicate_succ, Array.replicate_zero, List.push_toArray, List.append_toArray, List.nil_append, List.cons_append]
  have HL := Lib.hid hl
  have HS := Lib.hid hS
  have HY := Lib.hid hby
  clear hl hS hby
  gi_wp2
  gi_loopw [5, 6] (fun i _ wr => ∃ k : Nat, k ≤ many ∧ i = .int .i64 ((at_ + k : Nat) : Int) ∧ J (uptoB bs at_ k) wr ∧ KpB n0 a b W wr)
    (fun i _ _ => at_ + many - (intOf i).toNat)
  case atStart => exact ⟨0, Nat.zero_le _, by go_num, h0, KpB.refl _ _ _ _⟩
  case round =>
    obtain ⟨k, hk, rfl, hJs, hnx⟩ := hrel
    have hca : wr.cell? ⟨ba, 0, none⟩ = some (.int .i64 at_) := (hnx.cell ha1 ha2).trans hBa
    have hcm : wr.cell? ⟨bm, 0, none⟩ = some (.int .i64 many) := (hnx.cell hm1 hm2).trans hBm
    have hcb : wr.cell? ⟨bb, 0, none⟩ = some (.slice sp len cap) := (hnx.cell hb1 hb2).trans hBb
    by_cases hlt : k < many
    · obtain ⟨fn, tmps, assign, body, hy, hR⟩ := hY _ (mkBit (bs.getD ((at_ + k) / 8) 0 / ((2 ^ (7 - (at_ + k) % 8) : Nat) : Int))) wr hJs (by rw [uptoB_length]; exact hlt)
      rcases HS.out with rfl | ⟨g, o, rfl, hc⟩
      · have := HL.out
        simp at this
        omega
      have hc1 := hc ((at_ + k) / 8) (by rw [HL.out]; omega)
      have hc2 := (hnx.1.cell (p := ⟨g, o + (at_ + k) / 8, none⟩) (hsp (by omega) ⟨g, o, none⟩ rfl)).trans hc1
      have hbd : 0 ≤ bs.getD ((at_ + k) / 8) 0 ∧ bs.getD ((at_ + k) / 8) 0 ≤ 255 := by
        rw [getD_in _ _ (by rw [HL.out]; omega)]
        exact HY.out _ (List.getElem_mem _)
      obtain ⟨x, hx⟩ : ∃ x, x = bs.getD ((at_ + k) / 8) 0 := ⟨_, rfl⟩
      rw [← hx] at hc2 hbd hy
      have HX := Lib.hid hx
      obtain ⟨hbd1, hbd2⟩ := hbd
      clear hx hc hc1
      obtain ⟨i, hi⟩ : ∃ i, i = at_ + k := ⟨_, rfl⟩
      rw [← hi] at hc2 hy ⊢
      have hi1 : i < at_ + many := by omega
      have HI := Lib.hid hi
      rw [mkBit_val x _ hbd1 (by omega)] at hy
      clear hi
      gi_wp2
      refine hR.mono ?_
      rintro e W3 (⟨rfl, hJ3, hk3⟩ | ⟨rfl, hJx3⟩)
      · rw [← uptoB_succ] at hJ3
        gi_wp2
        go_roundw
        case rel => exact ⟨k + 1, by omega, by have := HI.out; go_num, hJ3, kpB_t hnx hk3⟩
        case measure => simp [intOf]; omega
      · rw [← uptoB_succ] at hJx3
        gi_wp2
        refine bodyPost_ret (results_none rfl _ _ _) rfl ?_
        exact ⟨⟨_, rfl⟩, .inr ⟨_, ⟨k + 1, by omega, rfl⟩, hJx3⟩⟩
    · obtain rfl : k = many := by omega
      gi_wp2
      go_end0
      exact ⟨⟨_, rfl⟩, .inl ⟨_, rfl, hJs⟩⟩

set_option maxHeartbeats 1000000 in
theorem bitsIn_in (F : Fence) (n : Nat) (hf : F.fn 24) (hro : F.round = none) (sp : Option Addr) (len cap : Nat) (at_ many : Int) (w : World) :
    CallsIn F n Try.prog 24 #[.slice sp len cap, .int .i64 at_, .int .i64 many] w fun e w' => e = .returned (.func (.func 27) #[] #[.pointer (some ⟨w.heap.size + 1, 0, none⟩), .pointer (some ⟨w.heap.size + 2, 0, none⟩), .pointer (some ⟨w.heap.size, 0, none⟩)]) ∧
      w' = ((w.alloc (.cells #[.slice sp len cap] 23)).alloc (.cells #[.int .i64 at_] 3)).alloc (.cells #[.int .i64 many] 3) := by
  refine callsIn_of_wp Try.func24 rfl hf ?_ hro
  simp only [Try.ntmps24, List.size_toArray, List.length_cons, List.length_nil, Nat.reduceAdd, Nat.reduceSub, Array.replicate_succ, Array.replicate_zero, List.push_toArray, List.append_toArray, List.nil_append, List.cons_append]
  gi_wp2
  go_ret
  exact ⟨rfl, rfl⟩

theorem bitsIn_stops (F : Fence) (n : Nat) (hf : F.fn 27) (hro : F.round = none) (hn : 1 ≤ n) (bb ba bm n0 a b : Nat) (sp : Option Addr) (len cap : Nat) (bs : List Int) (hl : bs.length = len) (hby : ∀ x ∈ bs, 0 ≤ x ∧ x ≤ 255) (hsp : 0 < len → ∀ x, sp = some x → x.block < n0)
    (at_ many : Nat) (ham : at_ + many ≤ 8 * len) (h63 : 8 * len ≤ 9223372036854775807) (hb1 : a ≤ bb) (hb2 : bb < b) (ha1 : a ≤ ba) (ha2 : ba < b) (hm1 : a ≤ bm) (hm2 : bm < b)
    (w : World) (hb : b ≤ w.heap.size) (hn0 : n0 ≤ w.heap.size) (hBb : w.cell? ⟨bb, 0, none⟩ = some (.slice sp len cap)) (hBa : w.cell? ⟨ba, 0, none⟩ = some (.int .i64 at_)) (hBm : w.cell? ⟨bm, 0, none⟩ = some (.int .i64 many)) (hS : Src w .u8 sp bs) :
    SeqStopsK F n Try.prog 27 #[.pointer (some ⟨ba, 0, none⟩), .pointer (some ⟨bm, 0, none⟩), .pointer (some ⟨bb, 0, none⟩)] (fun x : Bit => #[Value.int .u32 x.1]) (KpB n0 a b) (fun ys => ys = uptoB bs at_ many) (fun pre => ∃ k, k ≤ many ∧ pre = uptoB bs at_ k) many w := fun l J Jx W hW _ _ hY h0 =>
  bitsIn1_in F n hf hro hn l bb ba bm n0 a b sp len cap bs hl hby hsp at_ many ham h63 hb1 hb2 ha1 ha2 hm1 hm2 J Jx hY W ((hW.cell (p := ⟨bb, 0, none⟩) (by simp; omega)).trans hBb) ((hW.cell (p := ⟨ba, 0, none⟩) (by simp; omega)).trans hBa) ((hW.cell (p := ⟨bm, 0, none⟩) (by simp; omega)).trans hBm) (hS.below hW) h0
end Go.Proofs.Ythofbdlnbfpfeaa
