/- Package lengthtable: the bits of a table, visited by a range over a function. -/
import Derived.Test.YtckopdifjhjppaaRng
import Derived.Test.YtckopdifjhjppaaLtB
import Derived.RangeFuncCalls
import Derived.Shelf.Abstract
import Derived.Shelf.RegionOpen
import Derived.Sort.QuietIn
import Derived.Sort.CutIn
import Derived.WalkKit
import Derived.OwnWalkIn
import Derived.TacticsInMore
import Derived.LoopNIn
import Derived.LoopIn
import Derived.Outline
set_option linter.unusedVariables false
set_option linter.unusedSimpArgs false
namespace Go.Proofs.Ytckopdifjhjppaa
open Go.RowKit Go.Shelf
attribute [local go_sem] Oper.semAt_some

theorem rep_pre1 (x y : Int) (t : List Int) {k m : Nat} (h : k < m) : (List.replicate k [x, y]).flatten ++ [x] <+: (List.replicate m [x, y]).flatten ++ t := by
  obtain ⟨j, rfl⟩ : ∃ j, m = k + (j + 1) := ⟨m - k - 1, by omega⟩
  refine ⟨y :: ((List.replicate j [x, y]).flatten ++ t), ?_⟩
  rw [← List.replicate_append_replicate, List.flatten_append, List.replicate_succ, List.flatten_cons]
  simp
theorem rep_pre2 (x y : Int) (t : List Int) {k m : Nat} (h : k < m) : ((List.replicate k [x, y]).flatten ++ [x]) ++ [y] <+: (List.replicate m [x, y]).flatten ++ t := by
  obtain ⟨j, rfl⟩ : ∃ j, m = k + (j + 1) := ⟨m - k - 1, by omega⟩
  refine ⟨(List.replicate j [x, y]).flatten ++ t, ?_⟩
  rw [← List.replicate_append_replicate, List.flatten_append, List.replicate_succ, List.flatten_cons]
  simp
theorem rep_snoc2 (x y : Int) (k : Nat) : ((List.replicate k [x, y]).flatten ++ [x]) ++ [y] = (List.replicate (k + 1) [x, y]).flatten := by
  rw [rep_snoc]; simp
theorem Keeper.drewN {J : (Nat → Prop) → List Int → World → Prop} (hJ : Keeper J) {S : Nat → Prop} {pre : List Int} {W : World} (h : J S pre W) (n : Nat) : J S pre (W.drewN n) := hJ.on _ (fun _ => False) _ _ _ h ((Ch.refl _ _).drewN n) (fun _ e => e.elim)
theorem Keeper.alloc {J : (Nat → Prop) → List Int → World → Prop} (hJ : Keeper J) {S : Nat → Prop} {pre : List Int} {W : World} (h : J S pre W) (o : Obj) : J S pre (W.alloc o) := hJ.on _ (fun _ => False) _ _ _ h ((Ch.refl _ _).alloc o) (fun _ e => e.elim)
theorem Keeper.drew {J : (Nat → Prop) → List Int → World → Prop} (hJ : Keeper J) {S : Nat → Prop} {pre : List Int} {W : World} (h : J S pre W) : J S pre W.drew := hJ.on _ (fun _ => False) _ _ _ h (Ch.refl _ _).drew (fun _ e => e.elim)
/-- Where a round has come to, seen from the iterator's beginning. -/
def At (J : (Nat → Prop) → List Int → World → Prop) (S : Nat → Prop) (W : World) (pre : List Int) (wr : World) : Prop := Rnd J S pre W wr
theorem At.start {J : (Nat → Prop) → List Int → World → Prop} {S : Nat → Prop} {W : World} (h : J S [] W) : At J S W [] W := ⟨S, h, Ch.refl _ _, fun _ e => .inl e⟩

set_option maxRecDepth 100000 in
set_option maxHeartbeats 2000000 in
theorem bitsFrom1_seq (p q : Int) (hp : 0 ≤ p ∧ p ≤ 15) (hq : 0 ≤ q ∧ q ≤ 15) (bp bq : Nat) (n : Nat) :
    SeqC n Try.prog 49 #[.pointer (some ⟨bq, 0, none⟩), .pointer (some ⟨bp, 0, none⟩)] (.int .i64) (putV p q)
      (fun W => W.cell? ⟨bq, 0, none⟩ = some (.int .i64 q) ∧ W.cell? ⟨bp, 0, none⟩ = some (.int .i64 p)) (fun _ => False) := by
  intro l J S W hJ hY h0 ⟨hcq, hcp⟩ _
  have HY := Lib.hid hY
  clear hY
  have HJ := Lib.hid hJ
  clear hJ
  have hw1 : IntKind.i64.wrap (q - p) = q - p := by rw [IntKind.wrap_i64]; omega
  refine callsIn_of_wp Try.func49 rfl trivial ?_ rfl
  simp only [Try.ntmps49, List.size_toArray, List.length_cons, List.length_nil, Nat.reduceAdd, Nat.reduceSub, Array.replicate_succ, Array.replicate_zero, List.push_toArray, List.append_toArray, List.nil_append, List.cons_append]
  by_cases hlt : q < p
  · -- down
    obtain ⟨m, hm⟩ : ∃ m : Nat, p - q = m := ⟨(p - q).toNat, by omega⟩
    have HV := Lib.hid (show putV p q = (List.replicate m [(1 : Int), 1]).flatten ++ [0] by
      have e1 : (p - q).toNat = m := by omega
      have e2 : (q - p).toNat = 0 := by omega
      unfold putV adjV
      rw [e1, e2]
      simp)
    rw [HV.out] at HY ⊢
    have hm15 : m ≤ 15 := by omega
    have d0 : decide (q - p < 0) = true := decide_eq_true (by omega)
    have hw2 : IntKind.i64.wrap (-(q - p)) = (m : Int) := by rw [IntKind.wrap_i64]; omega
    have hw3 : IntKind.i64.wrap (p - q) = (m : Int) := by rw [IntKind.wrap_i64]; omega
    clear hlt
    gi_upto_region 0 with fail
    gi_quiet (fail)
    have hA0 : At J S W [] (W.drewN nq) := ⟨S, HJ.out.drewN h0 nq, (Ch.refl _ _).drewN nq, fun _ e => .inl e⟩
    clear hcq hcp
    generalize W.drewN nq = W1 at hA0 ⊢
    gi_wp2
    gi_loopw [14] (fun i wr => ∃ k : Nat, k ≤ m ∧ i = .int .i64 k ∧ At J S W ((List.replicate k [(1 : Int), 1]).flatten) wr) (fun i _ => m - (intOf i).toNat)
    case atStart => exact ⟨0, Nat.zero_le _, rfl, hA0⟩
    case round =>
      obtain ⟨k, hk, rfl, hA⟩ := hrel
      by_cases hlt : k < m
      · obtain ⟨S1, hj, hc, hs⟩ := hA
        have HC := Lib.hid hc
        have HS := Lib.hid hs
        clear hc hs
        obtain ⟨fn, tmps, assign, body, hy, hR⟩ := HY.out S1 _ 1 wr hj (rep_pre1 1 1 [0] hlt)
        gi_wp2
        refine ⟨fun e => Bool.noConfusion e, (roundIn_wide hR).mono ?_⟩
        rintro e W2 ⟨rfl, S2, hj2, hc2, hs2⟩
        clear hR hy
        obtain ⟨fn2, tmps2, assign2, body2, hy2, hR2⟩ := HY.out S2 _ 1 W2 hj2 (rep_pre2 1 1 [0] hlt)
        gi_wp2
        refine ⟨fun e => Bool.noConfusion e, (roundIn_wide hR2).mono ?_⟩
        rintro e W3 ⟨rfl, S3, hj3, hc3, hs3⟩
        clear hR2 hy2
        rw [rep_snoc2] at hj3
        have hA3 : At J S W ((List.replicate (k + 1) [(1 : Int), 1]).flatten) W3 := Rnd.trans HC.out HS.out (Rnd.trans hc2 hs2 ⟨S3, hj3, hc3, hs3⟩)
        gi_wp2
        go_roundw
        case rel => exact ⟨k + 1, by omega, by go_num, hA3⟩
        case measure => simp [intOf]; omega
      · obtain rfl : k = m := by omega
        obtain ⟨S1, hj, hc, hs⟩ := hA
        obtain ⟨fn, tmps, assign, body, hy, hR⟩ := HY.out S1 _ 0 wr hj (List.prefix_refl _)
        gi_wp2
        refine ⟨fun e => Bool.noConfusion e, (roundIn_wide hR).mono ?_⟩
        rintro e W2 ⟨rfl, S2, hj2, hc2, hs2⟩
        gi_wp2
        go_end0
        exact ⟨⟨_, rfl⟩, Rnd.trans hc hs ⟨S2, hj2, hc2, hs2⟩⟩
  · -- up
    obtain ⟨m, hm⟩ : ∃ m : Nat, q - p = m := ⟨(q - p).toNat, by omega⟩
    have HV := Lib.hid (show putV p q = (List.replicate m [(1 : Int), 0]).flatten ++ [0] by
      have e1 : (p - q).toNat = 0 := by omega
      have e2 : (q - p).toNat = m := by omega
      unfold putV adjV
      rw [e1, e2]
      simp)
    rw [HV.out] at HY ⊢
    have hm15 : m ≤ 15 := by omega
    have hw4 : IntKind.i64.wrap (q - p) = (m : Int) := by rw [hw1, hm]
    have d0 : decide ((m : Int) < 0) = false := decide_eq_false (by omega)
    clear hw1 hm hlt
    gi_upto_region 0 with fail
    gi_quiet (fail)
    have hA0 : At J S W [] (W.drewN nq) := ⟨S, HJ.out.drewN h0 nq, (Ch.refl _ _).drewN nq, fun _ e => .inl e⟩
    clear hcq hcp
    generalize W.drewN nq = W1 at hA0 ⊢
    gi_wp2
    gi_loopw [14] (fun i wr => ∃ k : Nat, k ≤ m ∧ i = .int .i64 k ∧ At J S W ((List.replicate k [(1 : Int), 0]).flatten) wr) (fun i _ => m - (intOf i).toNat)
    case atStart => exact ⟨0, Nat.zero_le _, rfl, hA0⟩
    case round =>
      obtain ⟨k, hk, rfl, hA⟩ := hrel
      by_cases hlt : k < m
      · obtain ⟨S1, hj, hc, hs⟩ := hA
        have HC := Lib.hid hc
        have HS := Lib.hid hs
        clear hc hs
        obtain ⟨fn, tmps, assign, body, hy, hR⟩ := HY.out S1 _ 1 wr hj (rep_pre1 1 0 [0] hlt)
        gi_wp2
        refine ⟨fun e => Bool.noConfusion e, (roundIn_wide hR).mono ?_⟩
        rintro e W2 ⟨rfl, S2, hj2, hc2, hs2⟩
        clear hR hy
        obtain ⟨fn2, tmps2, assign2, body2, hy2, hR2⟩ := HY.out S2 _ 0 W2 hj2 (rep_pre2 1 0 [0] hlt)
        gi_wp2
        refine ⟨fun e => Bool.noConfusion e, (roundIn_wide hR2).mono ?_⟩
        rintro e W3 ⟨rfl, S3, hj3, hc3, hs3⟩
        clear hR2 hy2
        rw [rep_snoc2] at hj3
        have hA3 : At J S W ((List.replicate (k + 1) [(1 : Int), 0]).flatten) W3 := Rnd.trans HC.out HS.out (Rnd.trans hc2 hs2 ⟨S3, hj3, hc3, hs3⟩)
        gi_wp2
        go_roundw
        case rel => exact ⟨k + 1, by omega, by go_num, hA3⟩
        case measure => simp [intOf]; omega
      · obtain rfl : k = m := by omega
        obtain ⟨S1, hj, hc, hs⟩ := hA
        obtain ⟨fn, tmps, assign, body, hy, hR⟩ := HY.out S1 _ 0 wr hj (List.prefix_refl _)
        gi_wp2
        refine ⟨fun e => Bool.noConfusion e, (roundIn_wide hR).mono ?_⟩
        rintro e W2 ⟨rfl, S2, hj2, hc2, hs2⟩
        gi_wp2
        go_end0
        exact ⟨⟨_, rfl⟩, Rnd.trans hc hs ⟨S2, hj2, hc2, hs2⟩⟩

set_option maxHeartbeats 1000000 in
theorem bitsFrom_in (n : Nat) (p q : Int) (w : World) :
    CallsIn Fence.wide n Try.prog 43 #[.int .i64 p, .int .i64 q] w fun e w' => e = .returned (.func (.func 49) #[] #[.pointer (some ⟨w.heap.size + 1, 0, none⟩), .pointer (some ⟨w.heap.size, 0, none⟩)]) ∧
      w' = (w.alloc (.cells #[.int .i64 p] 3)).alloc (.cells #[.int .i64 q] 3) := by
  refine callsIn_of_wp Try.func43 rfl trivial ?_ rfl
  simp only [Try.ntmps43, List.size_toArray, List.length_cons, List.length_nil, Nat.reduceAdd, Nat.reduceSub, Array.replicate_succ, Array.replicate_zero, List.push_toArray, List.append_toArray, List.nil_append, List.cons_append]
  gi_wp2
  go_ret
  exact ⟨rfl, rfl⟩
end Go.Proofs.Ytckopdifjhjppaa
