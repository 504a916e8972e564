/- The reference of layer 1 (arena), third part: Load, Store, Take, Release, New, May. -/
import Derived.Test.YtipliponbcjgdaaRef01
import Derived.Test.YtipliponbcjgdaaCh
set_option linter.unusedVariables false
set_option linter.unusedSimpArgs false
namespace Go.Proofs.Ytipliponbcjgdaa
open Go.RowKit
section
variable {P : Program}
theorem step_appendI {ops : Array Oper} {o : Oper} {a : Act} {w : World} {K : Act → World → Prop} {Q : Exit → Act → World → Prop} {F : Prop} (hgd : o.guard = none) (s x : Operand) (t : TypeId)
    (ho : o.op = .call { callee := .builtin .append, args := #[s, x], argTypes := #[t, t] })
    (E : TypeId) (k : IntKind) (b : Nat) (ht : P.underlying t = some (.slice E)) (hI : (P.info? E).map (fun i => (i.zero, i.size, i.bytes)) = some (some (.int k 0), 1, b))
    (A : Option Nat) (c : Nat) (l : List Int) (n : Nat) (hn : l.length = n) (hs : a.eval s = .slice (ad0 A) n c) (hown : OwnS w k E A c l) (sp : Option Addr) (m c2 : Nat) (hx : a.eval x = .slice sp m c2) (l2 : List Int) (hl2 : l2.length = m) (hsrc : Src w k sp l2)
    (h63 : n + m ≤ maxLen) (hby : (n + m) * b ≤ 140737488355328)
    (h : ∀ A' c' w', OwnS w' k E A' c' (l ++ l2) → w.grownBy w' A → (A' = A ∨ A' = some w.heap.size) → K (a.put o.dst (.slice (ad0 A') (n + m) c')) w') :
    if Region.wanted o (yielded ops a.tmps) = true then Oper.wp P o a w K Q else F := by
  have hw : Region.wanted o (yielded ops a.tmps) = true := by simp [Region.wanted, hgd]
  rw [if_pos hw]
  obtain ⟨A', c', w', h1, h2, h3, h4⟩ := run_appendI (P := P) w t o.type E k b ht hI A c l n hn hown sp m c2 l2 hl2 hsrc h63 hby
  unfold Oper.wp execOp
  simp only [ho, resolve, invoke, builtin, Sem.run_bind, Sem.run_pure, Result.andThen_ok, List.map_toArray, List.map_cons, List.map_nil, hs, hx, h1]
  exact h A' c' w' h2 h3 h4
theorem OwnS.empty (w : World) (k : IntKind) (E : TypeId) : OwnS (w.alloc (.cells #[] E)) k E (some w.heap.size) 0 [] :=
  ⟨by simp, .inr ⟨w.heap.size, 0, #[], by simp [ad0], Nat.zero_le _, heap_alloc_new w _, by simp, by unfold maxLen; omega, by simp, by simp⟩⟩
end
section
variable {w : World} {p q : Nat} {mem : List Int} {live peak : Nat}

theorem may_call (w : World) (n : Int) :
    Calls Try.prog 7 #[.int .i64 n] w fun e w' => e = .returned (.bool (decide (1 ≤ n ∧ n ≤ 1048576))) ∧ w = w' := by
  by_cases h1 : 1 ≤ n
  · have d1 : decide (1 ≤ n) = true := by simpa using h1
    rw [show decide (1 ≤ n ∧ n ≤ 1048576) = decide (n ≤ 1048576) by simp [h1]]
    go_enter Try.func7, Try.ntmps7
    go_wp2
    go_ret
    exact ⟨rfl, rfl⟩
  · have d1 : decide (1 ≤ n) = false := by simpa using h1
    rw [show decide (1 ≤ n ∧ n ≤ 1048576) = false by simp [h1]]
    go_enter Try.func7, Try.ntmps7
    go_wp2
    go_ret
    exact ⟨rfl, rfl⟩

set_option maxHeartbeats 400000 in
theorem rnew_call (w : World) (n : Nat) (h1 : 1 ≤ n) (h2 : n ≤ 1048576) :
    Calls Try.prog 8 #[.int .i64 n] w fun e w' => e = .returned (.pointer (some ⟨w.heap.size + 1, 0, none⟩)) ∧ Ra w' (w.heap.size + 1) w.heap.size (List.replicate n 0) 0 0 ∧ Below w.heap.size w w' := by
  have hmk := fun W => run_makeI (P := Try.prog) (b := 1) sliceT byteInfo .i64 .i64 n (by omega) (by omega) W
  go_enter Try.func8, Try.ntmps8
  go_wp2
  go_ret
  refine ⟨rfl, ⟨?_, ?_, by omega, by simp, by simp, by simpa using h2, Byts.rep n⟩, ((Below.refl _ _).alloc (Nat.le_refl _) _).alloc (by simp) _⟩
  · have := heap_alloc_new (w.alloc (.cells (icells .u8 (List.replicate n 0)) 5)) (.cells #[.slice (some ⟨w.heap.size, 0, none⟩) n n, .int .i64 0, .int .i64 0] 47)
    rw [World.size_alloc] at this
    rw [List.length_replicate]
    exact this
  · exact (Below.heap_alloc _ _ _ (by simp)).trans (heap_alloc_new _ _)

set_option maxHeartbeats 400000 in
theorem rrelease_no (h : Ra w p q mem live peak) (n : Int) (hh : ¬ (0 ≤ n ∧ n ≤ live)) :
    Calls Try.prog 26 #[.pointer (some ⟨p, 0, none⟩), .int .i64 n] w fun e w' =>
      e = .returned (.bool false) ∧ Kp p q w w' ∧ Ra w' p q mem live peak := by
  have h1 := h.c1
  have hA := Lib.hid h
  clear h
  by_cases c1 : n < 0
  · have d1 : decide (n < 0) = true := by simpa using c1
    clear hh
    go_enter Try.func26, Try.ntmps26
    go_wp2
    go_ret
    exact ⟨rfl, Kp.refl _ _ _, hA.out⟩
  · have d1 : decide (n < 0) = false := by simpa using c1
    have c2 : (live : Int) < n := by omega
    have d2 : decide ((live : Int) < n) = true := by simpa using c2
    clear hh
    go_enter Try.func26, Try.ntmps26
    go_wp2
    go_ret
    exact ⟨rfl, Kp.refl _ _ _, hA.out⟩

set_option maxHeartbeats 400000 in
theorem rrelease_yes (h : Ra w p q mem live peak) (n : Nat) (hh : n ≤ live) :
    Calls Try.prog 26 #[.pointer (some ⟨p, 0, none⟩), .int .i64 n] w fun e w' =>
      e = .returned (.bool true) ∧ Kp p q w w' ∧ Ra w' p q mem n peak := by
  have h1 := h.c1
  have hf := h.f0 1
  have hA := Lib.hid h
  have d1 : decide ((n : Int) < 0) = false := by simp
  have d2 : decide ((live : Int) < (n : Int)) = false := by simp; omega
  have hl := h.ll
  clear h
  go_enter Try.func26, Try.ntmps26
  go_wp2
  go_ret
  exact ⟨rfl, Kp.setP _ _ _ _ _, hA.out.setLive rfl (by omega)⟩

set_option maxHeartbeats 400000 in
theorem rload_no (h : Ra w p q mem live peak) (a n : Int) (hn : n ≤ 9223372036854775807) (hh : hasB live a n = false) :
    Calls Try.prog 15 #[.pointer (some ⟨p, 0, none⟩), .agg #[.int .i64 a, .int .i64 n]] w fun e w' =>
      e = .returned (.slice none 0 0) ∧ Below w.heap.size w w' := by
  have h1 := h.alloc (.cells #[Value.int IntKind.i64 a, Value.int IntKind.i64 n] 34)
  go_enter Try.func15, Try.ntmps15
  go_wp2_with fail
  refine (rhas_call h1 a n hn).mono ?_
  rintro e w1 ⟨rfl, hb⟩
  rw [hh]
  clear hh h1 h
  go_wp2
  go_ret
  exact ⟨rfl, ((Below.refl _ _).alloc (Nat.le_refl _) _).trans (hb.mono (by simp))⟩

/-- A new slice of bytes that holds l. -/
def NewR (w : World) (n : Nat) (l : List Int) (e : Ending) (w' : World) : Prop := ∃ A c, e = .returned (.slice (ad0 A) n c) ∧ OwnS w' .u8 5 A c l ∧ Below w.heap.size w w'

theorem Ra.srcSeg (h : Ra w p q mem live peak) (a n : Nat) (hn : a + n ≤ mem.length) : Src (w.drew.alloc (.cells #[] 5)) .u8 (some ⟨q, a, none⟩) (seg mem a n) :=
  Src.row (t := 5) (fr := (0, 0)) ((Below.heap_alloc _ _ _ (by exact h.qlt)).trans h.hq) n hn

set_option maxHeartbeats 2000000 in
theorem rload_yes (h : Ra w p q mem live peak) (a n : Nat) (hh : hasB live a n = true) (hal : a + n ≤ live) :
    Calls Try.prog 15 #[.pointer (some ⟨p, 0, none⟩), .agg #[.int .i64 a, .int .i64 n]] w (NewR w n (seg mem a n)) := by
  have h1 := h.alloc (.cells #[Value.int IntKind.i64 a, Value.int IntKind.i64 n] 34)
  have hll := h.ll
  have hss := h.small
  go_enter Try.func15, Try.ntmps15
  go_wp2_with fail
  refine (rhas_call h1 a n (by omega)).mono ?_
  rintro e w1 ⟨rfl, hb⟩
  rw [hh]
  have h2 := h1.below hb
  have hz0 : w1.cell? ⟨w.heap.size, 0, none⟩ = some (.int .i64 a) := (hb.cell (by simp)).trans (by simp)
  have hz1 : w1.cell? ⟨w.heap.size, 1, none⟩ = some (.int .i64 n) := (hb.cell (by simp)).trans (by simp)
  have hcp := h2.c0
  have hpl : p < w1.heap.size := h2.plt
  have hwl : w.heap.size < w1.heap.size := by have := hb.size; simp at this; omega
  have hseg : (seg mem a n).length = n := by unfold seg; rw [List.length_take, List.length_drop]; omega
  have HG := Lib.hid hseg
  have HA := Lib.hid h2
  have HB := Lib.hid (((Below.refl _ _).alloc (Nat.le_refl _) _).trans (hb.mono (by simp)) : Below w.heap.size w w1)
  clear hh h1 h hb h2 hseg
  by_cases hca : mem.length = a
  · subst hca
    obtain rfl : n = 0 := by omega
    have hs0 : seg mem mem.length 0 = [] := List.eq_nil_of_length_eq_zero HG.out
    have e1 : IntKind.i64.wrap ((mem.length : Int) + ((0 : Nat) : Int)) = (mem.length : Int) := by rw [show (mem.length : Int) + ((0 : Nat) : Int) = (mem.length : Int) by omega]; exact IntWalk.i64_in _ (by omega)
    have e2 : IntKind.i64.wrap ((mem.length : Int) + 0) = (mem.length : Int) := by rw [show (mem.length : Int) + 0 = (mem.length : Int) by omega]; exact IntWalk.i64_in _ (by omega)
    have e3 : IntKind.i64.wrap (mem.length : Int) = (mem.length : Int) := IntWalk.i64_in _ (by omega)
    have hS0 : w1.drew.cell? ⟨p, 0, none⟩ = some (.slice (some ⟨q, 0, none⟩) mem.length mem.length) ∧ w1.drew.cell? ⟨w.heap.size, 0, none⟩ = some (.int .i64 mem.length) ∧ w1.drew.cell? ⟨w.heap.size, 1, none⟩ = some (.int .i64 ((0 : Nat) : Int)) := ⟨hcp, hz0, hz1⟩
    go_wp2_with fail
    go_region_held3 (fun W => W.cell? ⟨p, 0, none⟩ = some (.slice (some ⟨q, 0, none⟩) mem.length mem.length) ∧ W.cell? ⟨w.heap.size, 0, none⟩ = some (.int .i64 mem.length) ∧ W.cell? ⟨w.heap.size, 1, none⟩ = some (.int .i64 ((0 : Nat) : Int))) (first | exact hS0 | exact hS6 | go_keep)
      ((refine step_appendI (by rfl) _ _ 36 (by rfl) 5 .u8 1 sliceT byteInfo (some w1.heap.size) 0 [] 0 rfl (by rfl) (OwnS.empty w1.drew .u8 5) (some ⟨q, 0, none⟩) 0 0 (by rfl) (seg mem mem.length 0) HG.out (.inl hs0) (by unfold maxLen; omega) (by omega) ?_; intro A3 c3 w3 hown3 hgr3 halt3; have hB6 : Below w1.heap.size w1.drew w3 := (((Ch.refl (fun k => w1.heap.size ≤ k) w1.drew).alloc _).grown hgr3 (fun g e => by injection e with e; subst e; exact .inl (Nat.le_refl _))).below (Nat.le_refl _) (fun _ h => h); have hS6 : w3.cell? ⟨p, 0, none⟩ = some (.slice (some ⟨q, 0, none⟩) mem.length mem.length) ∧ w3.cell? ⟨w.heap.size, 0, none⟩ = some (.int .i64 mem.length) ∧ w3.cell? ⟨w.heap.size, 1, none⟩ = some (.int .i64 ((0 : Nat) : Int)) := ⟨(hB6.cell hpl).trans hcp, (hB6.cell hwl).trans hz0, (hB6.cell hwl).trans hz1⟩))
    go_wp2
    go_ret
    exact ⟨A3, c3, by simp, hown3, HB.out.drew.trans ((hB6.mono (Nat.le_of_lt hwl)))⟩
  · have e1 : IntKind.i64.wrap ((a : Int) + (n : Int)) = (a : Int) + (n : Int) := IntWalk.i64_in _ (by omega)
    have t1 : ((a : Int) + (n : Int)).toNat = a + n := by omega
    have g1 : (0 : Int) ≤ (a : Int) + (n : Int) := by omega
    have g2 : (a : Int) + (n : Int) ≤ (mem.length : Int) := by omega
    have g3 : (a : Int) ≤ (a : Int) + (n : Int) := by omega
    have g4 : (0 : Int) ≤ (a : Int) := by omega
    have hsub : a + n - a = n := by omega
    have hS0 : w1.drew.cell? ⟨p, 0, none⟩ = some (.slice (some ⟨q, 0, none⟩) mem.length mem.length) ∧ w1.drew.cell? ⟨w.heap.size, 0, none⟩ = some (.int .i64 a) ∧ w1.drew.cell? ⟨w.heap.size, 1, none⟩ = some (.int .i64 n) := ⟨hcp, hz0, hz1⟩
    go_wp2_with fail
    go_region_held3 (fun W => W.cell? ⟨p, 0, none⟩ = some (.slice (some ⟨q, 0, none⟩) mem.length mem.length) ∧ W.cell? ⟨w.heap.size, 0, none⟩ = some (.int .i64 a) ∧ W.cell? ⟨w.heap.size, 1, none⟩ = some (.int .i64 n)) (first | exact hS0 | exact hS6 | go_keep)
      ((refine step_appendI (by rfl) _ _ 36 (by rfl) 5 .u8 1 sliceT byteInfo (some w1.heap.size) 0 [] 0 rfl (by rfl) (OwnS.empty w1.drew .u8 5) (some ⟨q, a, none⟩) n (mem.length - a) (by rfl) (seg mem a n) HG.out (HA.out.srcSeg a n (by omega)) (by unfold maxLen; omega) (by omega) ?_; intro A3 c3 w3 hown3 hgr3 halt3; have hB6 : Below w1.heap.size w1.drew w3 := (((Ch.refl (fun k => w1.heap.size ≤ k) w1.drew).alloc _).grown hgr3 (fun g e => by injection e with e; subst e; exact .inl (Nat.le_refl _))).below (Nat.le_refl _) (fun _ h => h); have hS6 : w3.cell? ⟨p, 0, none⟩ = some (.slice (some ⟨q, 0, none⟩) mem.length mem.length) ∧ w3.cell? ⟨w.heap.size, 0, none⟩ = some (.int .i64 a) ∧ w3.cell? ⟨w.heap.size, 1, none⟩ = some (.int .i64 n) := ⟨(hB6.cell hpl).trans hcp, (hB6.cell hwl).trans hz0, (hB6.cell hwl).trans hz1⟩))
    go_wp2
    go_ret
    exact ⟨A3, c3, by simp, hown3, HB.out.drew.trans ((hB6.mono (Nat.le_of_lt hwl)))⟩
end
end Go.Proofs.Ytipliponbcjgdaa
