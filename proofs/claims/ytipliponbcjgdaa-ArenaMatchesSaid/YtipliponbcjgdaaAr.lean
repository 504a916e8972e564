/- The contracts of package arena's functions: what each call does to an arena that lies in memory as a struct block and a block of bytes. -/
import Derived.Test.YtipliponbcjgdaaProg
import Derived.Test.YtipliponbcjgdaaLib
set_option linter.unusedVariables false
set_option linter.unusedSimpArgs false
namespace Go.Proofs.Ytipliponbcjgdaa
open Go.RowKit

/-- An int. -/
def I64 (x : Int) : Prop := -9223372036854775808 ≤ x ∧ x ≤ 9223372036854775807

/-- All blocks but p and q are as they were. -/
structure Kp (p q : Nat) (w w' : World) : Prop where
  os : w'.os = w.os
  tape : w'.tape = w.tape
  output : w'.output = w.output
  size : w.heap.size ≤ w'.heap.size
  block : ∀ k, k < w.heap.size → k ≠ p → k ≠ q → w'.heap[k]? = w.heap[k]?

theorem Kp.refl (p q : Nat) (w : World) : Kp p q w w := ⟨rfl, rfl, rfl, Nat.le_refl _, fun _ _ _ _ => rfl⟩
theorem Kp.trans {p q : Nat} {a b c : World} (h : Kp p q a b) (k : Kp p q b c) : Kp p q a c :=
  ⟨k.os.trans h.os, k.tape.trans h.tape, k.output.trans h.output, Nat.le_trans h.size k.size,
   fun i hi hp hq => (k.block i (Nat.lt_of_lt_of_le hi h.size) hp hq).trans (h.block i hi hp hq)⟩
theorem Kp.of_below {p q : Nat} {w w' : World} (h : Below w.heap.size w w') : Kp p q w w' :=
  ⟨h.os, h.tape, h.output, h.size, fun k hk _ _ => h.block k hk⟩
theorem Kp.below {p q B : Nat} {w w' : World} (h : Kp p q w w') (hB : B ≤ w.heap.size) (hp : B ≤ p) (hq : B ≤ q) : Below B w w' :=
  ⟨h.os, h.tape, h.output, h.size, fun k hk => h.block k (by omega) (by omega) (by omega)⟩
theorem Kp.of_grown {p q : Nat} {w w' : World} {r : Option Nat} (h : w.grownBy w' r) (hr : ∀ k, r = some k → k = p ∨ k = q) : Kp p q w w' :=
  ⟨h.os, h.tape, h.output, h.size, fun k hk h1 h2 => h.block k hk (fun e => by rcases hr k e.symm with h3 | h3 <;> omega)⟩
theorem Kp.grownQ {p q : Nat} {w w' : World} (h : w.grownBy w' (some q)) : Kp p q w w' := Kp.of_grown h (fun k e => Or.inr (by injection e with e; exact e.symm))
theorem Kp.cell {p q : Nat} {w w' : World} (h : Kp p q w w') {a : Addr} {v : Value} (hc : w.cell? a = some v) (h1 : a.block ≠ p) (h2 : a.block ≠ q) : w'.cell? a = some v :=
  (World.cell?_of_block (h.block a.block (World.block_lt_of_cell? w a hc) h1 h2)).trans hc
theorem Kp.row {p q : Nat} {w w' : World} (h : Kp p q w w') {g : Nat} {o : Obj} (hg : w.heap[g]? = some o) (h1 : g ≠ p) (h2 : g ≠ q) : w'.heap[g]? = some o :=
  (h.block g (Array.getElem?_eq_some_iff.1 hg).1 h1 h2).trans hg
theorem Kp.drew (p q : Nat) (w : World) : Kp p q w w.drew := ⟨rfl, rfl, rfl, Nat.le_refl _, fun _ _ _ _ => rfl⟩
theorem Kp.alloc (p q : Nat) (w : World) (o : Obj) : Kp p q w (w.alloc o) := Kp.of_below ((Below.refl _ _).alloc (Nat.le_refl _) _)

/-- Bytes. -/
def Byts (l : List Int) : Prop := ∀ x ∈ l, 0 ≤ x ∧ x ≤ 255

/-- An arena: its struct is block p, its bytes are block q. -/
structure Ar (w : World) (p q : Nat) (mem : List Int) (live peak : Nat) : Prop where
  hp : w.heap[p]? = some (.cells #[.slice (some ⟨q, 0, none⟩) mem.length mem.length, .int .i64 live, .int .i64 peak] 54 (0, 0))
  hq : w.heap[q]? = some (.cells (icells .u8 mem) 5 (0, 0))
  ne : p ≠ q
  ll : live ≤ mem.length
  pl : peak ≤ mem.length
  small : mem.length ≤ 1048576
  byts : Byts mem

section
variable {w w' : World} {p q : Nat} {mem : List Int} {live peak : Nat}
theorem Ar.keep (h : Ar w p q mem live peak) (hb : ∀ k, k < w.heap.size → w'.heap[k]? = w.heap[k]?) : Ar w' p q mem live peak :=
  ⟨by rw [hb p (Array.getElem?_eq_some_iff.1 h.hp).1]; exact h.hp, by rw [hb q (Array.getElem?_eq_some_iff.1 h.hq).1]; exact h.hq, h.ne, h.ll, h.pl, h.small, h.byts⟩
theorem Ar.below (h : Ar w p q mem live peak) (hb : Below w.heap.size w w') : Ar w' p q mem live peak := h.keep hb.block
theorem Ar.plt (h : Ar w p q mem live peak) : p < w.heap.size := (Array.getElem?_eq_some_iff.1 h.hp).1
theorem Ar.qlt (h : Ar w p q mem live peak) : q < w.heap.size := (Array.getElem?_eq_some_iff.1 h.hq).1
theorem Ar.c0 (h : Ar w p q mem live peak) : w.cell? ⟨p, 0, none⟩ = some (.slice (some ⟨q, 0, none⟩) mem.length mem.length) := by simp [World.cell?, h.hp]
theorem Ar.c1 (h : Ar w p q mem live peak) : w.cell? ⟨p, 1, none⟩ = some (.int .i64 live) := by simp [World.cell?, h.hp]
theorem Ar.c2 (h : Ar w p q mem live peak) : w.cell? ⟨p, 2, none⟩ = some (.int .i64 peak) := by simp [World.cell?, h.hp]
theorem Ar.f0 (h : Ar w p q mem live peak) (i : Nat) : w.frozen? ⟨p, i, none⟩ = false := by simp [World.frozen?, h.hp]
theorem Ar.fq (h : Ar w p q mem live peak) (i : Nat) : w.frozen? ⟨q, i, none⟩ = false := by simp [World.frozen?, h.hq]
theorem Ar.cq (h : Ar w p q mem live peak) (i : Nat) (hi : i < mem.length) : w.cell? ⟨q, i, none⟩ = some (.int .u8 (mem.getD i 0)) := cell_icells h.hq i hi
theorem Byts.bd {l : List Int} (h : Byts l) (i : Nat) : 0 ≤ l.getD i 0 ∧ l.getD i 0 ≤ 255 := by
  by_cases hi : i < l.length
  · simp only [List.getD_eq_getElem?_getD, List.getElem?_eq_getElem hi, Option.getD_some]
    exact h _ (List.getElem_mem hi)
  · simp [List.getElem?_eq_none (Nat.le_of_not_lt hi)]
theorem Ar.bd (h : Ar w p q mem live peak) (i : Nat) : 0 ≤ mem.getD i 0 ∧ mem.getD i 0 ≤ 255 := h.byts.bd i
theorem Ar.alloc (h : Ar w p q mem live peak) (o : Obj) : Ar (w.alloc o) p q mem live peak := h.keep fun k hk => Below.heap_alloc w o k hk
theorem Ar.drew (h : Ar w p q mem live peak) : Ar w.drew p q mem live peak := h.keep fun _ _ => rfl
theorem Ar.drewN (h : Ar w p q mem live peak) (n : Nat) : Ar (w.drewN n) p q mem live peak := h.keep fun _ _ => rfl
theorem Byts.set {l : List Int} (h : Byts l) (k : Nat) {c : Int} (hc : 0 ≤ c ∧ c ≤ 255) : Byts (l.set k c) := by
  intro x hx
  rcases List.mem_or_eq_of_mem_set hx with h1 | h1
  · exact h x h1
  · exact h1 ▸ hc
theorem Ar.setByte (h : Ar w p q mem live peak) {k : Nat} {c : Int} (hc : 0 ≤ c ∧ c ≤ 255) : Ar (w.setCell ⟨q, k, none⟩ (.int .u8 c)) p q (mem.set k c) live peak :=
  ⟨by rw [Below.heap_setCell _ _ _ _ h.ne]; simpa using h.hp, by simp [World.setCell, Array.getElem?_modify, h.hq, icells, List.map_set], h.ne, by simpa using h.ll, by simpa using h.pl, by simpa using h.small, h.byts.set k hc⟩
theorem Ar.row {w' : World} {mem' : List Int} (h : Ar w p q mem live peak) (hb : w.grownBy w' (some q)) (hq : w'.heap[q]? = some (.cells (icells .u8 mem') 5 (0, 0))) (hl : mem'.length = mem.length) (hy : Byts mem') : Ar w' p q mem' live peak :=
  ⟨by rw [hb.block p h.plt (by have := h.ne; simp; omega), hl]; exact h.hp, hq, h.ne, by rw [hl]; exact h.ll, by rw [hl]; exact h.pl, by rw [hl]; exact h.small, hy⟩
theorem Ar.setOther (h : Ar w p q mem live peak) {a : Addr} (v : Value) (h1 : a.block ≠ p) (h2 : a.block ≠ q) : Ar (w.setCell a v) p q mem live peak :=
  ⟨by rw [Below.heap_setCell _ _ _ _ (Ne.symm h1)]; exact h.hp, by rw [Below.heap_setCell _ _ _ _ (Ne.symm h2)]; exact h.hq, h.ne, h.ll, h.pl, h.small, h.byts⟩
theorem Ar.setLive (h : Ar w p q mem live peak) {n : Nat} {x : Int} (hx : x = n) (hn : n ≤ mem.length) : Ar (w.setCell ⟨p, 1, none⟩ (.int .i64 x)) p q mem n peak := by
  subst hx
  exact ⟨by simp [World.setCell, Array.getElem?_modify, h.hp], by rw [Below.heap_setCell _ _ _ _ (Ne.symm h.ne)]; exact h.hq, h.ne, hn, h.pl, h.small, h.byts⟩
theorem Ar.setPeak (h : Ar w p q mem live peak) {n : Nat} {x : Int} (hx : x = n) (hn : n ≤ mem.length) : Ar (w.setCell ⟨p, 2, none⟩ (.int .i64 x)) p q mem live n := by
  subst hx
  exact ⟨by simp [World.setCell, Array.getElem?_modify, h.hp], by rw [Below.heap_setCell _ _ _ _ (Ne.symm h.ne)]; exact h.hq, h.ne, h.ll, hn, h.small, h.byts⟩
end

/-- Is a span live? -/
def hasB (live : Nat) (at_ len : Int) : Bool := decide (0 ≤ at_ ∧ 0 ≤ len ∧ at_ ≤ (live : Int) - len)

section
variable {w : World} {p q : Nat} {mem : List Int} {live peak : Nat}

set_option maxHeartbeats 400000 in
theorem mark_same (h : Ar w p q mem live peak) :
    Calls Try.prog 18 #[.pointer (some ⟨p, 0, none⟩)] w fun e w' => e = .returned (.int .i64 live) ∧ w = w' := by
  have h1 := h.c1
  clear h
  go_enter Try.func18, Try.ntmps18
  go_wp2
  go_ret
  exact ⟨rfl, rfl⟩
theorem mark_call (h : Ar w p q mem live peak) :
    Calls Try.prog 18 #[.pointer (some ⟨p, 0, none⟩)] w fun e w' => e = .returned (.int .i64 live) ∧ Below w.heap.size w w' :=
  (mark_same h).mono fun e w' ⟨h1, h2⟩ => ⟨h1, h2 ▸ Below.refl _ _⟩

set_option maxHeartbeats 400000 in
theorem peak_same (h : Ar w p q mem live peak) :
    Calls Try.prog 19 #[.pointer (some ⟨p, 0, none⟩)] w fun e w' => e = .returned (.int .i64 peak) ∧ w = w' := by
  have h1 := h.c2
  clear h
  go_enter Try.func19, Try.ntmps19
  go_wp2
  go_ret
  exact ⟨rfl, rfl⟩
theorem peak_call (h : Ar w p q mem live peak) :
    Calls Try.prog 19 #[.pointer (some ⟨p, 0, none⟩)] w fun e w' => e = .returned (.int .i64 peak) ∧ Below w.heap.size w w' :=
  (peak_same h).mono fun e w' ⟨h1, h2⟩ => ⟨h1, h2 ▸ Below.refl _ _⟩

set_option maxHeartbeats 400000 in
theorem peak_nil (w : World) :
    Calls Try.prog 19 #[.pointer none] w fun e w' => e = .returned (.int .i64 0) ∧ Below w.heap.size w w' := by
  go_enter Try.func19, Try.ntmps19
  go_wp2
  go_ret
  exact ⟨rfl, Below.refl _ _⟩

set_option maxHeartbeats 400000 in
theorem left_call (h : Ar w p q mem live peak) :
    Calls Try.prog 20 #[.pointer (some ⟨p, 0, none⟩)] w fun e w' => e = .returned (.int .i64 ((mem.length : Int) - live)) ∧ Below w.heap.size w w' := by
  have h0 := h.c0
  have h1 := h.c1
  have hl := h.ll
  have hs := h.small
  clear h
  go_enter Try.func20, Try.ntmps20
  go_wp2
  go_quiet (fail)
  go_wp2
  go_ret
  exact ⟨rfl, below_drewN (Below.refl _ _) _⟩

set_option maxHeartbeats 400000 in
theorem has_call (h : Ar w p q mem live peak) (a n : Int) (hn : n ≤ 9223372036854775807) :
    Calls Try.prog 16 #[.pointer (some ⟨p, 0, none⟩), .agg #[.int .i64 a, .int .i64 n]] w fun e w' => e = .returned (.bool (hasB live a n)) ∧ Below w.heap.size w w' := by
  have h1 := h.c1
  have hpl := h.plt
  have hl := h.ll
  have hs := h.small
  clear h
  by_cases ha : 0 ≤ a
  · have da : decide (0 ≤ a) = true := by simpa using ha
    by_cases hz : 0 ≤ n
    · have dz : decide (0 ≤ n) = true := by simpa using hz
      have hb : hasB live a n = decide (a ≤ (live : Int) - n) := by simp [hasB, ha, hz]
      rw [hb]
      clear hb
      go_enter Try.func16, Try.ntmps16
      go_wp2
      go_quiet (fail)
      go_wp2
      go_ret
      exact ⟨rfl, below_drewN ((Below.refl _ _).alloc (Nat.le_refl _) _) _⟩
    · have dz : decide (0 ≤ n) = false := by simpa using hz
      have hb : hasB live a n = false := by simp [hasB, hz]
      rw [hb]
      clear hb
      go_enter Try.func16, Try.ntmps16
      go_wp2
      go_quiet (fail)
      go_wp2
      go_ret
      exact ⟨rfl, below_drewN ((Below.refl _ _).alloc (Nat.le_refl _) _) _⟩
  · have da : decide (0 ≤ a) = false := by simpa using ha
    have hb : hasB live a n = false := by simp [hasB, ha]
    rw [hb]
    clear hb
    go_enter Try.func16, Try.ntmps16
    go_wp2
    go_quiet (fail)
    go_wp2
    go_ret
    exact ⟨rfl, below_drewN ((Below.refl _ _).alloc (Nat.le_refl _) _) _⟩

/-- Where a part begins. -/
def partOff (a n : Nat) : Nat := if n = 0 then 0 else a

set_option maxHeartbeats 400000 in
theorem part_call (h : Ar w p q mem live peak) (a n : Nat) (hn : a + n ≤ mem.length) :
    Calls Try.prog 33 #[.pointer (some ⟨p, 0, none⟩), .agg #[.int .i64 a, .int .i64 n]] w fun e w' =>
      e = .returned (.slice (some ⟨q, partOff a n, none⟩) n n) ∧ Below w.heap.size w w' := by
  have h0 := h.c0
  have hpl := h.plt
  have hs := h.small
  clear h
  by_cases hz : n = 0
  · subst hz
    have e : partOff a 0 = 0 := rfl
    rw [e]
    clear e
    go_enter Try.func33, Try.ntmps33
    go_wp2
    go_quiet (fail)
    go_wp2
    go_ret
    exact ⟨rfl, below_drewN ((Below.refl _ _).alloc (Nat.le_refl _) _) _⟩
  · have e : partOff a n = a := if_neg hz
    rw [e]
    clear e
    have hc : ¬ a + n = a := by omega
    go_enter Try.func33, Try.ntmps33
    go_wp2
    go_quiet (fail)
    go_wp2
    go_ret
    exact ⟨congrArg (fun m => Ending.returned (.slice (some ⟨q, a, none⟩) m m)) (by omega), below_drewN ((Below.refl _ _).alloc (Nat.le_refl _) _) _⟩

set_option maxHeartbeats 400000 in
theorem wordSpan_call (w : World) (a i : Nat) (n : Int) (hn : a + 4 * i ≤ 9223372036854775807) :
    Calls Try.prog 34 #[.agg #[.int .i64 a, .int .i64 n], .int .i64 i] w fun e w' =>
      e = .returned (.agg #[.int .i64 (a + 4 * i : Nat), .int .i64 4]) ∧ Below w.heap.size w w' := by
  have e : ((a + 4 * i : Nat) : Int) = (a : Int) + (i : Int) * 4 := by omega
  rw [e]
  clear e
  go_enter Try.func34, Try.ntmps34
  go_wp2
  exact bodyPost_ret (v := .agg #[.int .i64 ((a : Int) + (i : Int) * 4), .int .i64 4]) (by simp [results, Try.results34, go_sem]) rfl ⟨rfl, ((Below.refl _ _).alloc (Nat.le_refl _) _).alloc (by simp) _⟩

set_option maxHeartbeats 400000 in
theorem holds_call (h : Ar w p q mem live peak) (a n i k : Int) (hk : 0 < k) (hk' : k ≤ 4) (hn : n ≤ 9223372036854775807) :
    Calls Try.prog 31 #[.pointer (some ⟨p, 0, none⟩), .agg #[.int .i64 a, .int .i64 n], .int .i64 i, .int .i64 k] w fun e w' =>
      e = .returned (.bool (hasB live a n && decide (0 ≤ i ∧ i < n / k))) ∧ Below w.heap.size w w' := by
  by_cases hh : hasB live a n = true
  · have h2 := of_decide_eq_true hh
    by_cases hi : 0 ≤ i
    · have di : decide (0 ≤ i) = true := by simpa using hi
      have hk0 : k ≠ 0 := by omega
      have e : (hasB live a n && decide (0 ≤ i ∧ i < n / k)) = decide (i < n / k) := by simp [hh, hi]
      rw [e]
      clear e
      go_enter Try.func31, Try.ntmps31
      go_wp2_with fail
      refine (has_call (h.alloc _) a n hn).mono ?_
      rintro e w1 ⟨rfl, hb⟩
      have hz : w1.cell? ⟨w.heap.size, 1, none⟩ = some (.int .i64 n) := (hb.cell (by simp)).trans (by simp)
      rw [hh]
      obtain ⟨h21, h22, h23⟩ := h2
      clear hh
      go_wp2
      go_ret
      exact ⟨rfl, ((Below.refl _ _).alloc (Nat.le_refl _) _).trans (hb.mono (by simp))⟩
    · have di : decide (0 ≤ i) = false := by simpa using hi
      have e : (hasB live a n && decide (0 ≤ i ∧ i < n / k)) = false := by simp [hi]
      rw [e]
      clear e
      go_enter Try.func31, Try.ntmps31
      go_wp2_with fail
      refine (has_call (h.alloc _) a n hn).mono ?_
      rintro e w1 ⟨rfl, hb⟩
      rw [hh]
      clear hh h2
      go_wp2
      go_ret
      exact ⟨rfl, ((Below.refl _ _).alloc (Nat.le_refl _) _).trans (hb.mono (by simp))⟩
  · have hh' : hasB live a n = false := by simpa using hh
    have e : (hasB live a n && decide (0 ≤ i ∧ i < n / k)) = false := by simp [hh']
    rw [e]
    clear e
    go_enter Try.func31, Try.ntmps31
    go_wp2_with fail
    refine (has_call (h.alloc _) a n hn).mono ?_
    rintro e w1 ⟨rfl, hb⟩
    rw [hh']
    clear hh hh'
    go_wp2
    go_ret
    exact ⟨rfl, ((Below.refl _ _).alloc (Nat.le_refl _) _).trans (hb.mono (by simp))⟩

/-- Does a live span hold byte i? -/
def byteOk (live : Nat) (a n i : Int) : Bool := hasB live a n && decide (0 ≤ i ∧ i < n)
theorem byteOk_yes {live : Nat} {a n i : Int} (h : byteOk live a n i = true) : ∃ a' n' i' : Nat, a = a' ∧ n = n' ∧ i = i' ∧ i' < n' ∧ a' + n' ≤ live := by
  simp only [byteOk, hasB, Bool.and_eq_true, decide_eq_true_eq] at h
  exact ⟨a.toNat, n.toNat, i.toNat, by omega, by omega, by omega, by omega, by omega⟩
theorem byteOk_holds (live : Nat) (a n i : Int) : (hasB live a n && decide (0 ≤ i ∧ i < n / 1)) = byteOk live a n i := by
  simp [byteOk]
/-- Byte i of a span. -/
def byteV (mem : List Int) (live : Nat) (a n i : Int) : Int := if byteOk live a n i then mem.getD (a + i).toNat 0 else 0

set_option maxHeartbeats 400000 in
theorem byte_call (h : Ar w p q mem live peak) (a n i : Int) (hn : n ≤ 9223372036854775807) :
    Calls Try.prog 10 #[.pointer (some ⟨p, 0, none⟩), .agg #[.int .i64 a, .int .i64 n], .int .i64 i] w fun e w' =>
      e = .returned (.tuple #[.int .u8 (byteV mem live a n i), .bool (byteOk live a n i)]) ∧ Below w.heap.size w w' := by
  by_cases hh : byteOk live a n i = true
  · obtain ⟨a, n, i, rfl, rfl, rfl, hin, hal⟩ := byteOk_yes hh
    have e : byteV mem live a n i = mem.getD (a + i) 0 := by
      unfold byteV; rw [if_pos hh]; congr 1
    rw [hh, e]
    have h1 := h.alloc (.cells #[Value.int IntKind.i64 a, Value.int IntKind.i64 n] 34)
    clear e
    go_enter Try.func10, Try.ntmps10
    go_wp2_with fail
    refine (holds_call h1 a n i 1 (by omega) (by omega) hn).mono ?_
    rintro e w1 ⟨rfl, hb⟩
    rw [byteOk_holds, hh]
    have h2 := h1.below hb
    have hz : w1.cell? ⟨w.heap.size, 0, none⟩ = some (.int .i64 a) := (hb.cell (by simp)).trans (by simp)
    have hc := h2.c0
    have hd := h2.cq (a + i) (by have := h.ll; omega)
    have hl := h2.ll
    have hs := h2.small
    have hF := Lib.hid hb
    clear h1 hh h2 h hb
    go_wp2
    go_quiet (fail)
    go_wp2
    go_ret2
    exact ⟨rfl, below_drewN (((Below.refl _ _).alloc (Nat.le_refl _) _).trans (hF.out.mono (by simp))) _⟩
  · have hh' : byteOk live a n i = false := by simpa using hh
    have e : byteV mem live a n i = 0 := by
      unfold byteV; rw [if_neg hh]
    rw [hh', e]
    have h1 := h.alloc (.cells #[Value.int IntKind.i64 a, Value.int IntKind.i64 n] 34)
    clear e
    go_enter Try.func10, Try.ntmps10
    go_wp2_with fail
    refine (holds_call h1 a n i 1 (by omega) (by omega) hn).mono ?_
    rintro e w1 ⟨rfl, hb⟩
    rw [byteOk_holds, hh']
    clear hh hh' h1
    go_wp2
    go_ret2
    exact ⟨rfl, ((Below.refl _ _).alloc (Nat.le_refl _) _).trans (hb.mono (by simp))⟩

theorem Kp.setCell {p q : Nat} (w : World) {a : Addr} (v : Value) (h : a.block = p ∨ a.block = q) : Kp p q w (w.setCell a v) :=
  ⟨rfl, rfl, rfl, by simp, fun k _ h1 h2 => Below.heap_setCell _ _ _ _ (by rcases h with h | h <;> omega)⟩
theorem Kp.setP (p q : Nat) (w : World) (k : Nat) (v : Value) : Kp p q w (w.setCell ⟨p, k, none⟩ v) := Kp.setCell w v (Or.inl rfl)
theorem Kp.setQ (p q : Nat) (w : World) (k : Nat) (v : Value) : Kp p q w (w.setCell ⟨q, k, none⟩ v) := Kp.setCell w v (Or.inr rfl)
theorem Kp.of_below' {p q B : Nat} {w w' : World} (h : Below B w w') (hB : w.heap.size ≤ B) : Kp p q w w' := Kp.of_below (h.mono hB)

/-- The bytes after byte i of a span is set. -/
def memSet (mem : List Int) (live : Nat) (a n i c : Int) : List Int := if byteOk live a n i then mem.set (a + i).toNat c else mem

set_option maxHeartbeats 400000 in
theorem setByte_call (h : Ar w p q mem live peak) (a n i c : Int) (hn : n ≤ 9223372036854775807) (hc : 0 ≤ c ∧ c ≤ 255) :
    Calls Try.prog 27 #[.pointer (some ⟨p, 0, none⟩), .agg #[.int .i64 a, .int .i64 n], .int .i64 i, .int .u8 c] w fun e w' =>
      e = .returned (.bool (byteOk live a n i)) ∧ Kp p q w w' ∧ Ar w' p q (memSet mem live a n i c) live peak := by
  by_cases hh : byteOk live a n i = true
  · obtain ⟨a, n, i, rfl, rfl, rfl, hin, hal⟩ := byteOk_yes hh
    have e : memSet mem live a n i c = mem.set (a + i) c := by
      unfold memSet; rw [if_pos hh]; congr 1
    rw [hh, e]
    have h1 := h.alloc (.cells #[Value.int IntKind.i64 a, Value.int IntKind.i64 n] 34)
    clear e
    go_enter Try.func27, Try.ntmps27
    go_wp2_with fail
    refine (holds_call h1 a n i 1 (by omega) (by omega) hn).mono ?_
    rintro e w1 ⟨rfl, hb⟩
    rw [byteOk_holds, hh]
    have h2 := h1.below hb
    have hz : w1.cell? ⟨w.heap.size, 0, none⟩ = some (.int .i64 a) := (hb.cell (by simp)).trans (by simp)
    have hd0 := h2.c0
    have hd := h2.cq (a + i) (by have := h.ll; omega)
    have hfq := h2.fq (a + i)
    have hl := h2.ll
    have hs := h2.small
    have hF := Lib.hid hb
    have hA := Lib.hid h2
    clear h1 hh h2 h hb
    go_wp2
    go_region
    all_goals go_wp2
    all_goals go_ret
    all_goals exact ⟨rfl, (((Kp.alloc _ _ _ _).trans (Kp.of_below hF.out)).trans (Kp.setQ _ _ _ _ _)).trans (Kp.drew _ _ _), (hA.out.setByte hc).drew⟩
  · have hh' : byteOk live a n i = false := by simpa using hh
    have e : memSet mem live a n i c = mem := by
      unfold memSet; rw [if_neg hh]
    rw [hh', e]
    have h1 := h.alloc (.cells #[Value.int IntKind.i64 a, Value.int IntKind.i64 n] 34)
    clear e
    go_enter Try.func27, Try.ntmps27
    go_wp2_with fail
    refine (holds_call h1 a n i 1 (by omega) (by omega) hn).mono ?_
    rintro e w1 ⟨rfl, hb⟩
    rw [byteOk_holds, hh']
    have hF := Lib.hid hb
    have hA := Lib.hid (h1.below hb)
    clear hh hh' h1 h hb
    go_wp2
    go_ret
    exact ⟨rfl, (Kp.alloc _ _ _ _).trans (Kp.of_below hF.out), hA.out⟩

end
end Go.Proofs.Ytipliponbcjgdaa
