/- The developers' bitsOf: the bits, and in the end an error, visited by a range over a function. -/
import Derived.RangeFuncNested
import Derived.RangeFuncBound
import Derived.RangeFuncCalls
import Derived.RangeFuncLeaves
import Derived.RangeFuncBox
import Derived.Shelf.Abstract
import Derived.Shelf.RegionOpen
import Derived.WalkKit
import Derived.OwnWalkIn
import Derived.TacticsInMore
import Derived.LoopNIn
import Derived.LoopIn
import Derived.Outline
import Derived.Test.YtbegpakjojiblabPgA
import Derived.Test.YtbegpakjojiblabPdP
import Derived.Test.YtbegpakjojiblabCnC
set_option linter.unusedVariables false
set_option linter.unusedSimpArgs false
namespace Go.Proofs.Ytbegpakjojiblab
open Go.RowKit Go.Shelf
attribute [local go_sem] Oper.semAt_some

/-- A bit, or an error. -/
abbrev BE := { p : Int × Int // (p.2 = 0 ∧ (p.1 = 0 ∨ p.1 = 1)) ∨ (p.1 = 0 ∧ (p.2 = 2 ∨ p.2 = 50)) }
def beB (b : Int) (h : b = 0 ∨ b = 1) : BE := ⟨(b, 0), .inl ⟨rfl, h⟩⟩
def beA : BE := ⟨(0, 2), .inr ⟨rfl, .inl rfl⟩⟩
def beS : BE := ⟨(0, 50), .inr ⟨rfl, .inr rfl⟩⟩
/-- What bitsOf visits. -/
def seqE : List Int → List BE
  | [] => [beS]
  | b :: bs => if h : b = 0 ∨ b = 1 then beB b h :: seqE bs else [beA]
theorem seqE_bit {b : Int} (h : b = 0 ∨ b = 1) (bs : List Int) : seqE (b :: bs) = beB b h :: seqE bs := dif_pos h
theorem seqE_bad {b : Int} (h : ¬ (b = 0 ∨ b = 1)) (bs : List Int) : seqE (b :: bs) = [beA] := dif_neg h
/-- What a round leaves: the old memory below n, and the blocks from a to b. -/
def KpB (n a b : Nat) (W W' : World) : Prop := Below n W W' ∧ ∀ k, a ≤ k → k < b → W'.heap[k]? = W.heap[k]?
theorem KpB.refl (n a b : Nat) (W : World) : KpB n a b W W := ⟨Below.refl _ _, fun _ _ _ => rfl⟩
theorem kpB_t {n a b : Nat} {A B C : World} (h : KpB n a b A B) (k : KpB n a b B C) : KpB n a b A C := ⟨h.1.trans k.1, fun i h1 h2 => (k.2 i h1 h2).trans (h.2 i h1 h2)⟩
theorem kpB_b {n a b : Nat} {w : World} (hn : n ≤ w.heap.size) (hb : b ≤ w.heap.size) (W : World) (l : Nat) (o o' : Obj) (hl : w.heap.size ≤ l) (h : W.heap[l]? = some o) (hc : o.isCells = false) (hw : o.isWalk = false) : KpB n a b W (W.putObj l o') :=
  ⟨belowK_b hn W l o o' hl h hc hw, fun k h1 h2 => World.putObj_heap_other (by omega)⟩
theorem KpB.cell {n a b : Nat} {W W' : World} (h : KpB n a b W W') {g o : Nat} (h1 : a ≤ g) (h2 : g < b) : W'.cell? ⟨g, o, none⟩ = W.cell? ⟨g, o, none⟩ := World.cell?_of_block (a := ⟨g, o, none⟩) (h.2 g h1 h2)

set_option maxRecDepth 100000 in
theorem isbit_any (b : Int) (w : World) :
    Calls Try.prog 18 #[.int .i64 b] w fun e w' => e = .returned (.bool (decide (b = 0 ∨ b = 1))) ∧ w' = w := by
  go_enter Try.func18, Try.ntmps18
  by_cases h0 : b = 0
  · subst h0
    go_wp2_with fail
    go_ret
    exact ⟨rfl, rfl⟩
  · by_cases h1 : b = 1
    · subst h1
      go_wp2_with fail
      go_ret
      exact ⟨rfl, rfl⟩
    · go_wp2_with fail
      go_ret
      exact ⟨by simp [h0, h1], rfl⟩

set_option maxRecDepth 100000 in
set_option maxHeartbeats 2000000 in
theorem bitsOf1_in (n : Nat) (hn : 1 ≤ n) (l bx n0 a b : Nat) (sp : Option Addr) (len cap : Nat) (q : List Int) (hl : q.length = len) (hsp : 0 < len → ∀ x, sp = some x → x.block < n0) (h63 : len ≤ 1000000) (hx1 : a ≤ bx) (hx2 : bx < b)
    (J Jx : List BE → World → Prop)
    (hY : ∀ pre x W, J pre W → pre.length < len + 1 → YieldAt Fence.wide (n - 1) Try.prog l #[.int .i64 x.1.1, .int .i64 x.1.2] W fun e W' =>
      (e = .returned (.bool true) ∧ J (pre ++ [x]) W' ∧ KpB n0 a b W W') ∨ (e = .returned (.bool false) ∧ Jx (pre ++ [x]) W'))
    (W : World) (hBx : W.cell? ⟨bx, 0, none⟩ = some (.slice sp len cap)) (hS : Src W .i64 sp q) (h0 : J [] W) :
    CallsIn Fence.wide n Try.prog 27 #[.func (.yield l) #[] #[], .pointer (some ⟨bx, 0, none⟩)] W fun e W' => (∃ v, e = .returned v) ∧
      ((∃ ys, ys = seqE q ∧ J ys W') ∨ (∃ pre, pre <+: seqE q ∧ Jx pre W')) := by
  refine callsIn_of_wp Try.func27 rfl trivial ?_ rfl
  simp only [Try.ntmps27, List.size_toArray, List.length_cons, List.length_nil, Nat.reduceAdd, Nat.reduceSub, Array.replicate_succ, Array.replicate_zero, List.push_toArray, List.append_toArray, List.nil_append, List.cons_append]
  have HL := Lib.hid hl
  have HS := Lib.hid hS
  have HY := Lib.hid hY
  clear hl hS hY
  gi_wp2
  gi_loopw [7] (fun i wr => ∃ (k : Nat) (pre : List BE), k ≤ len ∧ i = .int .i64 k ∧ pre.length = k ∧ seqE q = pre ++ seqE (q.drop k) ∧ J pre wr ∧ KpB n0 a b W wr)
    (fun i _ => len - (intOf i).toNat)
  case atStart => exact ⟨0, [], Nat.zero_le _, rfl, rfl, rfl, h0, KpB.refl _ _ _ _⟩
  case round =>
    obtain ⟨k, pre, hk, rfl, hpl, hsq, hJ, hkp⟩ := hrel
    have HP := Lib.hid hpl
    have HSQ := Lib.hid hsq
    have HK := Lib.hid hkp
    clear hpl hsq hkp
    by_cases hlt : k < len
    · have hkq : k < q.length := by rw [HL.out]; exact hlt
      rcases HS.out with rfl | ⟨g, o, rfl, hc⟩
      · simp at hkq
      have hc1 := hc k hkq
      have hc2 := (HK.out.1.cell (p := ⟨g, o + k, none⟩) (hsp (by omega) ⟨g, o, none⟩ rfl)).trans hc1
      have hdr : q.drop k = q.getD k 0 :: q.drop (k + 1) := by
        rw [List.drop_eq_getElem_cons hkq, getD_in _ _ hkq]
      have hsq := HSQ.out
      rw [hdr] at hsq
      clear hc hc1 hdr
      generalize q.getD k 0 = x at hc2 hsq
      have hbc := fun W => isbit_any x W
      have HSX := Lib.hid hsq
      clear hsq hkq
      by_cases hx : x = 0 ∨ x = 1
      · have hsx := HSX.out
        rw [seqE_bit hx] at hsx
        have HSX2 := Lib.hid hsx
        clear hsx HSX
        rw [decide_eq_true hx] at hbc
        obtain ⟨fn, tmps, assign, body, hy, hR⟩ := HY.out pre (beB x hx) wr hJ (by rw [HP.out]; omega)
        replace hy : _ := hy
        dsimp only [beB] at hy
        gi_wp2_with (refine ⟨trivial, ?_⟩; gi_at_call 18; go_must (refine (callsIn_wide.2 (hbc _)).mono ?_; rintro e w' ⟨rfl, rfl⟩))
        refine hR.mono ?_
        rintro e W3 (⟨rfl, hJ3, hk3⟩ | ⟨rfl, hJx3⟩)
        · gi_wp2
          go_roundw
          case rel => exact ⟨k + 1, pre ++ [beB x hx], by omega, by go_num, by simp [HP.out], by rw [HSX2.out, List.append_assoc]; rfl, hJ3, kpB_t HK.out hk3⟩
          case measure => simp [intOf]; omega
        · gi_wp2
          refine bodyPost_ret (results_none rfl _ _ _) rfl ?_
          exact ⟨⟨_, rfl⟩, .inr ⟨_, ⟨seqE (q.drop (k + 1)), by rw [HSX2.out, List.append_assoc]; rfl⟩, hJx3⟩⟩
      · have hsx := HSX.out
        rw [seqE_bad hx] at hsx
        have HSX2 := Lib.hid hsx
        clear hsx HSX
        rw [decide_eq_false hx] at hbc
        obtain ⟨fn, tmps, assign, body, hy, hR⟩ := HY.out pre beA wr hJ (by rw [HP.out]; omega)
        replace hy : _ := hy
        dsimp only [beA] at hy
        gi_wp2_with (refine ⟨trivial, ?_⟩; gi_at_call 18; go_must (refine (callsIn_wide.2 (hbc _)).mono ?_; rintro e w' ⟨rfl, rfl⟩))
        refine hR.mono ?_
        rintro e W3 (⟨rfl, hJ3, hk3⟩ | ⟨rfl, hJx3⟩)
        · gi_wp2
          refine bodyPost_ret (results_none rfl _ _ _) rfl ?_
          exact ⟨⟨_, rfl⟩, .inl ⟨_, HSX2.out.symm, hJ3⟩⟩
        · gi_wp2
          refine bodyPost_ret (results_none rfl _ _ _) rfl ?_
          exact ⟨⟨_, rfl⟩, .inr ⟨_, by rw [HSX2.out]; exact List.prefix_refl _, hJx3⟩⟩
    · obtain rfl : k = len := by omega
      have hsx := HSQ.out
      rw [List.drop_of_length_le (by rw [HL.out]; exact Nat.le_refl _)] at hsx
      have HSX2 := Lib.hid hsx
      clear hsx
      obtain ⟨fn, tmps, assign, body, hy, hR⟩ := HY.out pre beS wr hJ (by rw [HP.out]; omega)
      replace hy : _ := hy
      dsimp only [beS] at hy
      gi_wp2
      refine hR.mono ?_
      rintro e W3 (⟨rfl, hJ3, hk3⟩ | ⟨rfl, hJx3⟩)
      · gi_wp2
        go_end0
        exact ⟨⟨_, rfl⟩, .inl ⟨_, HSX2.out.symm, hJ3⟩⟩
      · gi_wp2
        go_end0
        exact ⟨⟨_, rfl⟩, .inr ⟨_, by rw [HSX2.out]; exact List.prefix_refl _, hJx3⟩⟩

set_option maxHeartbeats 1000000 in
theorem bitsOf_in (n : Nat) (sp : Option Addr) (len cap : Nat) (w : World) :
    CallsIn Fence.wide n Try.prog 21 #[.slice sp len cap] w fun e w' => e = .returned (.func (.func 27) #[] #[.pointer (some ⟨w.heap.size, 0, none⟩)]) ∧ w' = w.alloc (.cells #[.slice sp len cap] 42) := by
  refine callsIn_of_wp Try.func21 rfl trivial ?_ rfl
  simp only [Try.ntmps21, List.size_toArray, List.length_cons, List.length_nil, Nat.reduceAdd, Nat.reduceSub, Array.replicate_succ, Array.replicate_zero, List.push_toArray, List.append_toArray, List.nil_append, List.cons_append]
  gi_wp2
  go_ret
  exact ⟨rfl, rfl⟩

theorem bitsOf_stops (n : Nat) (hn : 1 ≤ n) (bx n0 a b : Nat) (sp : Option Addr) (len cap : Nat) (q : List Int) (hl : q.length = len) (hsp : 0 < len → ∀ x, sp = some x → x.block < n0) (h63 : len ≤ 1000000) (hx1 : a ≤ bx) (hx2 : bx < b)
    (w : World) (hb : b ≤ w.heap.size) (hBx : w.cell? ⟨bx, 0, none⟩ = some (.slice sp len cap)) (hS : Src w .i64 sp q) :
    SeqStopsK Fence.wide n Try.prog 27 #[.pointer (some ⟨bx, 0, none⟩)] (fun x : BE => #[Value.int .i64 x.1.1, .int .i64 x.1.2]) (KpB n0 a b) (fun ys => ys = seqE q) (fun pre => pre <+: seqE q) (len + 1) w := fun l J Jx W hW _ _ hY h0 =>
  bitsOf1_in n hn l bx n0 a b sp len cap q hl hsp h63 hx1 hx2 J Jx hY W ((hW.cell (p := ⟨bx, 0, none⟩) (by simp; omega)).trans hBx) (hS.below hW) h0
end Go.Proofs.Ytbegpakjojiblab
