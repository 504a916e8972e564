/- The contracts of package arena's functions, fifth part: allocation, release, new arenas, nil arenas. -/
import Derived.Test.YtipliponbcjgdaaAr4
set_option linter.unusedVariables false
set_option linter.unusedSimpArgs false
namespace Go.Proofs.Ytipliponbcjgdaa
open Go.RowKit
section
variable {w : World} {p q : Nat} {mem : List Int} {live peak : Nat}

theorem Kp.setNew {p q : Nat} {w w' : World} (h : Kp p q w w') (a : Addr) (v : Value) (ha : w.heap.size ≤ a.block) : Kp p q w (w'.setCell a v) :=
  ⟨h.os, h.tape, h.output, by simpa using h.size, fun k hk h1 h2 => by rw [Below.heap_setCell _ _ _ _ (by omega)]; exact h.block k hk h1 h2⟩

set_option maxHeartbeats 400000 in
theorem release_no (h : Ar w p q mem live peak) (n : Int) (hh : ¬ (0 ≤ n ∧ n ≤ live)) :
    Calls Try.prog 24 #[.pointer (some ⟨p, 0, none⟩), .int .i64 n] w fun e w' =>
      e = .returned (.bool false) ∧ Kp p q w w' ∧ Ar w' p q mem live peak := by
  have h1 := h.c1
  have hA := Lib.hid h
  clear h
  by_cases c1 : n < 0
  · have d1 : decide (n < 0) = true := by simpa using c1
    clear hh
    go_enter Try.func24, Try.ntmps24
    go_wp2
    go_ret
    exact ⟨rfl, Kp.refl _ _ _, hA.out⟩
  · have d1 : decide (n < 0) = false := by simpa using c1
    have c2 : (live : Int) < n := by omega
    have d2 : decide ((live : Int) < n) = true := by simpa using c2
    clear hh
    go_enter Try.func24, Try.ntmps24
    go_wp2
    go_ret
    exact ⟨rfl, Kp.refl _ _ _, hA.out⟩

set_option maxHeartbeats 400000 in
theorem release_yes (h : Ar w p q mem live peak) (n : Nat) (hh : n ≤ live) :
    Calls Try.prog 24 #[.pointer (some ⟨p, 0, none⟩), .int .i64 n] w fun e w' =>
      e = .returned (.bool true) ∧ Kp p q w w' ∧ Ar w' p q mem n peak := by
  have h1 := h.c1
  have hf := h.f0 1
  have hA := Lib.hid h
  have d1 : decide ((n : Int) < 0) = false := by simp
  have d2 : decide ((live : Int) < (n : Int)) = false := by simp; omega
  have hl := h.ll
  clear h
  go_enter Try.func24, Try.ntmps24
  go_wp2
  go_ret
  exact ⟨rfl, Kp.setP _ _ _ _ _, hA.out.setLive rfl (by omega)⟩

set_option maxHeartbeats 400000 in
theorem take_neg (w : World) (p : Nat) (n : Int) (hh : n < 0) :
    Calls Try.prog 21 #[.pointer (some ⟨p, 0, none⟩), .int .i64 n] w fun e w' =>
      e = .returned (.tuple #[.agg #[.int .i64 0, .int .i64 0], .int .i64 2]) ∧ Below w.heap.size w w' := by
  have d1 : decide (n < 0) = true := by simpa using hh
  go_enter Try.func21, Try.ntmps21
  go_wp2
  exact bodyPost_ret (v := .tuple #[.agg #[.int .i64 0, .int .i64 0], .int .i64 2]) (by simp [results, Try.results21, go_sem]) rfl ⟨rfl, (Below.refl _ _).alloc (Nat.le_refl _) _⟩

set_option maxHeartbeats 400000 in
theorem take_nil (w : World) (n : Int) :
    Calls Try.prog 21 #[.pointer none, .int .i64 n] w fun e w' =>
      e = .returned (.tuple #[.agg #[.int .i64 0, .int .i64 0], .int .i64 2]) ∧ Below w.heap.size w w' := by
  go_enter Try.func21, Try.ntmps21
  go_wp2
  exact bodyPost_ret (v := .tuple #[.agg #[.int .i64 0, .int .i64 0], .int .i64 2]) (by simp [results, Try.results21, go_sem]) rfl ⟨rfl, (Below.refl _ _).alloc (Nat.le_refl _) _⟩

set_option maxHeartbeats 400000 in
theorem take_full (h : Ar w p q mem live peak) (n : Int) (hn : 0 ≤ n) (hh : (mem.length : Int) - live < n) :
    Calls Try.prog 21 #[.pointer (some ⟨p, 0, none⟩), .int .i64 n] w fun e w' =>
      e = .returned (.tuple #[.agg #[.int .i64 0, .int .i64 0], .int .i64 10]) ∧ Below w.heap.size w w' := by
  have d1 : decide (n < 0) = false := by simp; omega
  have d2 : decide ((mem.length : Int) - live < n) = true := by simpa using hh
  have h1 := h.alloc (.cells #[Value.int IntKind.i64 0, Value.int IntKind.i64 0] 34)
  go_enter Try.func21, Try.ntmps21
  go_wp2_with fail
  refine (left_call h1).mono ?_
  rintro e w1 ⟨rfl, hb⟩
  have hz : w1.cell? ⟨w.heap.size, 0, none⟩ = some (.int .i64 0) := (hb.cell (by simp)).trans (by simp)
  have hz1 : w1.cell? ⟨w.heap.size, 1, none⟩ = some (.int .i64 0) := (hb.cell (by simp)).trans (by simp)
  have hz2 : w1.frozen? ⟨w.heap.size, 0, none⟩ = false := (hb.frozen (by simp)).trans (by simp)
  have hz3 : w1.frozen? ⟨w.heap.size, 1, none⟩ = false := (hb.frozen (by simp)).trans (by simp)
  have hw1 : w.heap.size < w1.heap.size := by have := hb.size; simp at this; omega
  have hB : Below w.heap.size w w1 := ((Below.refl _ _).alloc (Nat.le_refl _) _).trans (hb.mono (by simp))
  have hF := Lib.hid hB
  clear h1 h hb hB
  go_wp2
  exact bodyPost_ret (v := .tuple #[.agg #[.int .i64 0, .int .i64 0], .int .i64 10]) (by simp [results, Try.results21, go_sem, hz, hz1]) rfl ⟨rfl, (hF.out.setCell (Nat.le_refl _) _).setCell (Nat.le_refl _) _⟩

/-- What Take knows of its own variables when the bytes are to be cleared. -/
theorem take_mid {w1 w2 w3 : World} {z p q : Nat} {v1 v2 x y r0 r1 : Value} {T : TypeId} (hb2 : Below ((((w1.setCell ⟨p, 1, none⟩ v1).setCell ⟨p, 2, none⟩ v2).alloc (.cells #[x, y] T)).drew).heap.size ((((w1.setCell ⟨p, 1, none⟩ v1).setCell ⟨p, 2, none⟩ v2).alloc (.cells #[x, y] T)).drew) w2)
    (hgr : w2.grownBy w3 (some q)) (hq : q < z) (hp : p < z) (hz : z < w1.heap.size)
    (h0 : w1.cell? ⟨z, 0, none⟩ = some r0) (h1 : w1.cell? ⟨z, 1, none⟩ = some r1) (h2 : w1.frozen? ⟨z, 0, none⟩ = false) (h3 : w1.frozen? ⟨z, 1, none⟩ = false) :
    w3.cell? ⟨w1.heap.size, 0, none⟩ = some x ∧ w3.cell? ⟨w1.heap.size, 1, none⟩ = some y ∧ w3.cell? ⟨z, 0, none⟩ = some r0 ∧ w3.cell? ⟨z, 1, none⟩ = some r1 ∧ w3.frozen? ⟨z, 0, none⟩ = false ∧ w3.frozen? ⟨z, 1, none⟩ = false := by
  have hs := hb2.size
  simp at hs
  have hz1 : w3.heap[w1.heap.size]? = w2.heap[w1.heap.size]? := hgr.block _ (by omega) (by simp; omega)
  have hz2 : w3.heap[z]? = w2.heap[z]? := hgr.block _ (by omega) (by simp; omega)
  have hz3 : w2.heap[z]? = w1.heap[z]? := by
    rw [hb2.block z (by simp; omega)]
    show (((w1.setCell ⟨p, 1, none⟩ v1).setCell ⟨p, 2, none⟩ v2).alloc (.cells #[x, y] T)).heap[z]? = _
    rw [Below.heap_alloc _ _ _ (by simp; omega), Below.heap_setCell _ _ _ _ (by simp; omega), Below.heap_setCell _ _ _ _ (by simp; omega)]
  have hz4 : w2.heap[w1.heap.size]? = some (.cells #[x, y] T (0, 0)) := by
    rw [hb2.block _ (by simp)]
    have := heap_alloc_new ((w1.setCell ⟨p, 1, none⟩ v1).setCell ⟨p, 2, none⟩ v2) (.cells #[x, y] T)
    rw [World.size_setCell, World.size_setCell] at this
    exact this
  refine ⟨?_, ?_, ?_, ?_, ?_, ?_⟩
  · simp [World.cell?, hz1, hz4]
  · simp [World.cell?, hz1, hz4]
  · rw [World.cell?_of_block (w := w1) (by rw [hz2, hz3])]; exact h0
  · rw [World.cell?_of_block (w := w1) (by rw [hz2, hz3])]; exact h1
  · rw [World.frozen?_of_block (w := w1) (by rw [hz2, hz3])]; exact h2
  · rw [World.frozen?_of_block (w := w1) (by rw [hz2, hz3])]; exact h3

set_option maxHeartbeats 1000000 in
theorem take_yes (h : Ar w p q mem live peak) (n : Nat) (hh : live + n ≤ mem.length) :
    Calls Try.prog 21 #[.pointer (some ⟨p, 0, none⟩), .int .i64 n] w fun e w' =>
      e = .returned (.tuple #[.agg #[.int .i64 live, .int .i64 n], .int .i64 0]) ∧ Kp p q w w' ∧ Ar w' p q (splice mem live (List.replicate n 0)) (live + n) (max peak (live + n)) := by
  have d1 : decide ((n : Int) < 0) = false := by simp
  have d2 : decide ((mem.length : Int) - live < (n : Int)) = false := by simp; omega
  have h1 := h.alloc (.cells #[Value.int IntKind.i64 0, Value.int IntKind.i64 0] 34)
  have hsm := h.small
  have hpl := h.pl
  go_enter Try.func21, Try.ntmps21
  go_wp2_with fail
  refine (left_call h1).mono ?_
  rintro e w1 ⟨rfl, hb⟩
  have h2 := h1.below hb
  have hz : w1.cell? ⟨w.heap.size, 0, none⟩ = some (.int .i64 0) := (hb.cell (by simp)).trans (by simp)
  have hz1 : w1.cell? ⟨w.heap.size, 1, none⟩ = some (.int .i64 0) := (hb.cell (by simp)).trans (by simp)
  have hz2 : w1.frozen? ⟨w.heap.size, 0, none⟩ = false := (hb.frozen (by simp)).trans (by simp)
  have hz3 : w1.frozen? ⟨w.heap.size, 1, none⟩ = false := (hb.frozen (by simp)).trans (by simp)
  have hw1 : w.heap.size < w1.heap.size := by have := hb.size; simp at this; omega
  have hB : Below w.heap.size w w1 := ((Below.refl _ _).alloc (Nat.le_refl _) _).trans (hb.mono (by simp))
  have hF := Lib.hid hB
  have c1 := h2.c1
  have c2 := h2.c2
  have f1 := h2.f0 1
  have f2 := h2.f0 2
  have hp1 := h2.plt
  have hne : ¬ p = w.heap.size := by have := h.plt; omega
  have hA := Lib.hid h2
  have hAp := h.plt
  have hAq := h.qlt
  clear h1 h2 h hb hB
  go_wp2_with fail
  go_region
  all_goals go_wp2_with fail
  all_goals
    have hA2 := ((((hA.out.setLive (n := live + n) (x := (live : Int) + n) (by omega) (by omega)).setPeak (n := max peak (live + n)) (x := (if (live : Int) + n ≤ peak then (peak : Int) else (live : Int) + n)) (by split <;> omega) (by omega)).alloc (.cells #[Value.int IntKind.i64 live, Value.int IntKind.i64 n] 34)).drew)
    first
    | rw [if_pos (by omega)] at hA2
      refine (part_call hA2 live n (by omega)).mono ?_
    | rw [if_neg (by omega)] at hA2
      refine (part_call hA2 live n (by omega)).mono ?_
    rintro e w2 ⟨rfl, hb2⟩
    have hA3 := hA2.below hb2
    obtain ⟨w3, hrun, hg3, hgr⟩ := run_clearI (P := Try.prog) w2 36 0 _ sliceT .u8 byteZero (some ⟨q, partOff live n, none⟩) n n q live mem 5 hA3.hq (fun hn => by rw [partOff, if_neg (by omega)]) (by omega)
    obtain ⟨y0, y1, y2, y3, y4, y5⟩ := take_mid hb2 hgr hAq hAp hw1 hz hz1 hz2 hz3
    have hK := Lib.hid ((((((Kp.of_below (p := p) (q := q) hF.out).trans (Kp.setP _ _ _ _ _)).trans (Kp.setP _ _ _ _ _)).trans (Kp.alloc _ _ _ _)).trans (Kp.drew _ _ _)).trans ((Kp.of_below hb2).trans (Kp.grownQ hgr)))
    have hA4 := Lib.hid (hA3.row hgr hg3 (splice_length _ _ _ (by simp; omega)) (hA3.byts.splice _ (Byts.rep _)))
    clear hA2 hA3 hb2 hg3 hgr
    go_wp2
    exact bodyPost_ret (v := .tuple #[.agg #[.int .i64 live, .int .i64 n], .int .i64 0]) (by simp [results, Try.results21, go_sem, y2, y3]) rfl ⟨rfl, (hK.out.setNew _ _ (Nat.le_refl _)).setNew _ _ (Nat.le_refl _), (hA4.out.setOther _ (by simp; omega) (by simp; omega)).setOther _ (by simp; omega) (by simp; omega)⟩

set_option maxHeartbeats 400000 in
theorem has_nil (w : World) (a n : Int) :
    Calls Try.prog 16 #[.pointer none, .agg #[.int .i64 a, .int .i64 n]] w fun e w' => e = .returned (.bool false) ∧ Below w.heap.size w w' := by
  go_enter Try.func16, Try.ntmps16
  go_wp2
  go_quiet (fail)
  go_wp2
  go_ret
  exact ⟨rfl, below_drewN ((Below.refl _ _).alloc (Nat.le_refl _) _) _⟩

set_option maxHeartbeats 400000 in
theorem release_nil (w : World) (n : Int) :
    Calls Try.prog 24 #[.pointer none, .int .i64 n] w fun e w' => e = .returned (.bool false) ∧ Below w.heap.size w w' := by
  go_enter Try.func24, Try.ntmps24
  go_wp2
  go_ret
  exact ⟨rfl, Below.refl _ _⟩

set_option maxHeartbeats 400000 in
theorem new_no (w : World) (n : Int) (h : ¬ (1 ≤ n ∧ n ≤ 1048576)) :
    Calls Try.prog 6 #[.int .i64 n] w fun e w' => e = .returned (.tuple #[.pointer none, .int .i64 2]) ∧ Below w.heap.size w w' := by
  by_cases h1 : n < 1
  · have d1 : decide (n < 1) = true := by simpa using h1
    clear h
    go_enter Try.func6, Try.ntmps6
    go_wp2
    go_ret2
    exact ⟨rfl, Below.refl _ _⟩
  · have d1 : decide (n < 1) = false := by simpa using h1
    have d2 : decide (1048576 < n) = true := by simp; omega
    clear h
    go_enter Try.func6, Try.ntmps6
    go_wp2
    go_ret2
    exact ⟨rfl, Below.refl _ _⟩

/-- A new arena. -/
def NewArena (w : World) (n : Nat) (e : Ending) (w' : World) : Prop :=
  ∃ p q : Nat, e = .returned (.tuple #[.pointer (some ⟨p, 0, none⟩), .int .i64 0]) ∧ w.heap.size ≤ p ∧ w.heap.size ≤ q ∧ Ar w' p q (List.replicate n 0) 0 0 ∧ Below w.heap.size w w'

set_option maxHeartbeats 400000 in
theorem new_yes (w : World) (n : Nat) (h1 : 1 ≤ n) (h2 : n ≤ 1048576) :
    Calls Try.prog 6 #[.int .i64 n] w (NewArena w n) := by
  have d1 : decide ((n : Int) < 1) = false := by simp; omega
  have d2 : decide (1048576 < (n : Int)) = false := by simp; omega
  have hmk := run_makeI (P := Try.prog) (k := .u8) sliceT byteInfo .i64 .i64 n (by omega) (by omega)
  go_enter Try.func6, Try.ntmps6
  go_wp2
  go_ret2
  refine ⟨w.heap.size + 1, w.heap.size, rfl, by omega, Nat.le_refl _, ⟨?_, ?_, by omega, by simp, by simp, by simpa using h2, Byts.rep _⟩, ((Below.refl _ _).alloc (Nat.le_refl _) _).alloc (by simp) _⟩
  · have e := heap_alloc_new (w.alloc (.cells (icells .u8 (List.replicate n 0)) 5)) (.cells #[Value.slice (some ⟨w.heap.size, 0, none⟩) n n, .int .i64 0, .int .i64 0] 54)
    rw [World.size_alloc] at e
    rw [e]
    simp
  · rw [Below.heap_alloc _ _ _ (by simp)]
    exact heap_alloc_new _ _

end
end Go.Proofs.Ytipliponbcjgdaa
