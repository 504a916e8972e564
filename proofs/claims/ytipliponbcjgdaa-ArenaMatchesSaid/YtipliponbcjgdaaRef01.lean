/- The reference of layer 1 (arena): its struct in memory; Has, Byte, SetByte, Word, SetWord. -/
import Derived.Test.YtipliponbcjgdaaAr5
import Derived.Test.YtipliponbcjgdaaAr2
import Derived.Test.YtipliponbcjgdaaCh
import Derived.Test.YtipliponbcjgdaaApp
import Derived.Deep.DeepMust
import Derived.Deep.RegionHeld3
import Derived.IntWalk
set_option linter.unusedVariables false
set_option linter.unusedSimpArgs false
namespace Go.Proofs.Ytipliponbcjgdaa
open Go.RowKit

/-- A reference arena: its struct is block p, its bytes are block q. -/
structure Ra (w : World) (p q : Nat) (mem : List Int) (live peak : Nat) : Prop where
  hp : w.heap[p]? = some (.cells #[.slice (some ⟨q, 0, none⟩) mem.length mem.length, .int .i64 live, .int .i64 peak] 47 (0, 0))
  hq : w.heap[q]? = some (.cells (icells .u8 mem) 5 (0, 0))
  ne : p ≠ q
  ll : live ≤ mem.length
  pl : peak ≤ mem.length
  small : mem.length ≤ 1048576
  byts : Byts mem

section
variable {w w' : World} {p q : Nat} {mem : List Int} {live peak : Nat}
theorem Ra.keep (h : Ra w p q mem live peak) (hb : ∀ k, k < w.heap.size → w'.heap[k]? = w.heap[k]?) : Ra w' p q mem live peak :=
  ⟨by rw [hb p (Array.getElem?_eq_some_iff.1 h.hp).1]; exact h.hp, by rw [hb q (Array.getElem?_eq_some_iff.1 h.hq).1]; exact h.hq, h.ne, h.ll, h.pl, h.small, h.byts⟩
theorem Ra.below (h : Ra w p q mem live peak) (hb : Below w.heap.size w w') : Ra w' p q mem live peak := h.keep hb.block
theorem Ra.plt (h : Ra w p q mem live peak) : p < w.heap.size := (Array.getElem?_eq_some_iff.1 h.hp).1
theorem Ra.qlt (h : Ra w p q mem live peak) : q < w.heap.size := (Array.getElem?_eq_some_iff.1 h.hq).1
theorem Ra.c0 (h : Ra w p q mem live peak) : w.cell? ⟨p, 0, none⟩ = some (.slice (some ⟨q, 0, none⟩) mem.length mem.length) := by simp [World.cell?, h.hp]
theorem Ra.c1 (h : Ra w p q mem live peak) : w.cell? ⟨p, 1, none⟩ = some (.int .i64 live) := by simp [World.cell?, h.hp]
theorem Ra.c2 (h : Ra w p q mem live peak) : w.cell? ⟨p, 2, none⟩ = some (.int .i64 peak) := by simp [World.cell?, h.hp]
theorem Ra.f0 (h : Ra w p q mem live peak) (i : Nat) : w.frozen? ⟨p, i, none⟩ = false := by simp [World.frozen?, h.hp]
theorem Ra.fq (h : Ra w p q mem live peak) (i : Nat) : w.frozen? ⟨q, i, none⟩ = false := by simp [World.frozen?, h.hq]
theorem Ra.cq (h : Ra w p q mem live peak) (i : Nat) (hi : i < mem.length) : w.cell? ⟨q, i, none⟩ = some (.int .u8 (mem.getD i 0)) := cell_icells h.hq i hi
theorem Ra.bd (h : Ra w p q mem live peak) (i : Nat) : 0 ≤ mem.getD i 0 ∧ mem.getD i 0 ≤ 255 := h.byts.bd i
theorem Ra.alloc (h : Ra w p q mem live peak) (o : Obj) : Ra (w.alloc o) p q mem live peak := h.keep fun k hk => Below.heap_alloc w o k hk
theorem Ra.drew (h : Ra w p q mem live peak) : Ra w.drew p q mem live peak := h.keep fun _ _ => rfl
theorem Ra.drewN (h : Ra w p q mem live peak) (n : Nat) : Ra (w.drewN n) p q mem live peak := h.keep fun _ _ => rfl
theorem Ra.setByte (h : Ra w p q mem live peak) {k : Nat} {c : Int} (hc : 0 ≤ c ∧ c ≤ 255) : Ra (w.setCell ⟨q, k, none⟩ (.int .u8 c)) p q (mem.set k c) live peak :=
  ⟨by rw [Below.heap_setCell _ _ _ _ h.ne]; simpa using h.hp, by simp [World.setCell, Array.getElem?_modify, h.hq, icells, List.map_set], h.ne, by simpa using h.ll, by simpa using h.pl, by simpa using h.small, h.byts.set k hc⟩
theorem Ra.row {w' : World} {mem' : List Int} (h : Ra w p q mem live peak) (hb : w.grownBy w' (some q)) (hq : w'.heap[q]? = some (.cells (icells .u8 mem') 5 (0, 0))) (hl : mem'.length = mem.length) (hy : Byts mem') : Ra w' p q mem' live peak :=
  ⟨by rw [hb.block p h.plt (by have := h.ne; simp; omega), hl]; exact h.hp, hq, h.ne, by rw [hl]; exact h.ll, by rw [hl]; exact h.pl, by rw [hl]; exact h.small, hy⟩
theorem Ra.setOther (h : Ra w p q mem live peak) {a : Addr} (v : Value) (h1 : a.block ≠ p) (h2 : a.block ≠ q) : Ra (w.setCell a v) p q mem live peak :=
  ⟨by rw [Below.heap_setCell _ _ _ _ (Ne.symm h1)]; exact h.hp, by rw [Below.heap_setCell _ _ _ _ (Ne.symm h2)]; exact h.hq, h.ne, h.ll, h.pl, h.small, h.byts⟩
theorem Ra.setLive (h : Ra w p q mem live peak) {n : Nat} {x : Int} (hx : x = n) (hn : n ≤ mem.length) : Ra (w.setCell ⟨p, 1, none⟩ (.int .i64 x)) p q mem n peak := by
  subst hx
  exact ⟨by simp [World.setCell, Array.getElem?_modify, h.hp], by rw [Below.heap_setCell _ _ _ _ (Ne.symm h.ne)]; exact h.hq, h.ne, hn, h.pl, h.small, h.byts⟩
theorem Ra.setPeak (h : Ra w p q mem live peak) {n : Nat} {x : Int} (hx : x = n) (hn : n ≤ mem.length) : Ra (w.setCell ⟨p, 2, none⟩ (.int .i64 x)) p q mem live n := by
  subst hx
  exact ⟨by simp [World.setCell, Array.getElem?_modify, h.hp], by rw [Below.heap_setCell _ _ _ _ (Ne.symm h.ne)]; exact h.hq, h.ne, h.ll, hn, h.small, h.byts⟩
end


theorem Kp.of_ch {p q : Nat} {w w' : World} (h : Ch (fun k => k = p ∨ k = q) w w') : Kp p q w w' := ⟨h.os, h.tape, h.output, h.size, fun k hk h1 h2 => h.block k hk (fun e => by rcases e with e | e; exact h1 e; exact h2 e)⟩

section
variable {w : World} {p q : Nat} {mem : List Int} {live peak : Nat}

set_option maxHeartbeats 1000000 in
theorem rhas_call (h : Ra w p q mem live peak) (a n : Int) (hn : n ≤ 9223372036854775807) :
    Calls Try.prog 17 #[.pointer (some ⟨p, 0, none⟩), .agg #[.int .i64 a, .int .i64 n]] w fun e w' => e = .returned (.bool (hasB live a n)) ∧ Below w.heap.size w w' := by
  have h1 := h.c1
  have hpl := h.plt
  have hl := h.ll
  have hs := h.small
  clear h
  by_cases ha : 0 ≤ a
  · have da : decide (0 ≤ a) = true := by simpa using ha
    by_cases hz : 0 ≤ n
    · have dz : decide (0 ≤ n) = true := by simpa using hz
      by_cases hal : a ≤ live
      · have dl : decide (a ≤ (live : Int)) = true := by simpa using hal
        have hb : hasB live a n = decide (n ≤ (live : Int) - a) := by unfold hasB; rw [Bool.eq_iff_iff]; simp only [decide_eq_true_eq]; omega
        rw [hb]
        clear hb
        go_enter Try.func17, Try.ntmps17
        go_wp2
        go_quiet (fail)
        go_wp2
        go_ret
        exact ⟨rfl, below_drewN ((Below.refl _ _).alloc (Nat.le_refl _) _) _⟩
      · have dl : decide (a ≤ (live : Int)) = false := by simpa using hal
        have hb : hasB live a n = false := by unfold hasB; simp only [decide_eq_false_iff_not]; omega
        rw [hb]
        clear hb
        go_enter Try.func17, Try.ntmps17
        go_wp2
        go_quiet (fail)
        go_wp2
        go_ret
        exact ⟨rfl, below_drewN ((Below.refl _ _).alloc (Nat.le_refl _) _) _⟩
    · have dz : decide (0 ≤ n) = false := by simpa using hz
      have hb : hasB live a n = false := by simp [hasB, hz]
      rw [hb]
      clear hb
      go_enter Try.func17, Try.ntmps17
      go_wp2
      go_quiet (fail)
      go_wp2
      go_ret
      exact ⟨rfl, below_drewN ((Below.refl _ _).alloc (Nat.le_refl _) _) _⟩
  · have da : decide (0 ≤ a) = false := by simpa using ha
    have hb : hasB live a n = false := by simp [hasB, ha]
    rw [hb]
    clear hb
    go_enter Try.func17, Try.ntmps17
    go_wp2
    go_quiet (fail)
    go_wp2
    go_ret
    exact ⟨rfl, below_drewN ((Below.refl _ _).alloc (Nat.le_refl _) _) _⟩

/-- Does a live span hold m bytes from an index on? -/
def inB (live : Nat) (a n i : Int) (m : Int) : Bool := hasB live a n && decide (0 ≤ i ∧ i ≤ n ∧ m ≤ n - i)

set_option maxHeartbeats 1000000 in
theorem rin_call (h : Ra w p q mem live peak) (a n i m : Int) (hn : n ≤ 9223372036854775807) (hm : 0 ≤ m) :
    Calls Try.prog 32 #[.pointer (some ⟨p, 0, none⟩), .agg #[.int .i64 a, .int .i64 n], .int .i64 i, .int .i64 m] w fun e w' => e = .returned (.bool (inB live a n i m)) ∧ Below w.heap.size w w' := by
  have hB := Lib.hid (rhas_call (h.alloc (.cells #[Value.int IntKind.i64 a, Value.int IntKind.i64 n] 34)) a n hn)
  by_cases hh : hasB live a n = true
  · have h2 := of_decide_eq_true hh
    obtain ⟨h21, h22, h23⟩ := h2
    by_cases hi : 0 ≤ i
    · have di : decide (0 ≤ i) = true := by simpa using hi
      by_cases hin : i ≤ n
      · have din : decide (i ≤ n) = true := by simpa using hin
        have e : inB live a n i m = decide (m ≤ n - i) := by unfold inB; rw [hh, Bool.eq_iff_iff]; simp [hi, hin]
        rw [e]
        clear e
        go_enter Try.func32, Try.ntmps32
        go_wp2_with fail
        refine (hB.out).mono ?_
        rintro e w1 ⟨rfl, hb⟩
        have hz : w1.cell? ⟨w.heap.size, 1, none⟩ = some (.int .i64 n) := (hb.cell (by simp)).trans (by simp)
        have HB := Lib.hid hb
        rw [hh]
        clear hb hh
        go_wp2
        go_ret
        exact ⟨rfl, ((Below.refl _ _).alloc (Nat.le_refl _) _).trans (HB.out.mono (by simp))⟩
      · have din : decide (i ≤ n) = false := by simpa using hin
        have e : inB live a n i m = false := by unfold inB; simp [hin]
        rw [e]
        clear e
        go_enter Try.func32, Try.ntmps32
        go_wp2_with fail
        refine (hB.out).mono ?_
        rintro e w1 ⟨rfl, hb⟩
        have hz : w1.cell? ⟨w.heap.size, 1, none⟩ = some (.int .i64 n) := (hb.cell (by simp)).trans (by simp)
        have HB := Lib.hid hb
        rw [hh]
        clear hb hh
        go_wp2
        go_ret
        exact ⟨rfl, ((Below.refl _ _).alloc (Nat.le_refl _) _).trans (HB.out.mono (by simp))⟩
    · have di : decide (0 ≤ i) = false := by simpa using hi
      have e : inB live a n i m = false := by unfold inB; simp [hi]
      rw [e]
      clear e
      go_enter Try.func32, Try.ntmps32
      go_wp2_with fail
      refine (hB.out).mono ?_
      rintro e w1 ⟨rfl, hb⟩
      have HB := Lib.hid hb
      rw [hh]
      clear hb hh
      go_wp2
      go_ret
      exact ⟨rfl, ((Below.refl _ _).alloc (Nat.le_refl _) _).trans (HB.out.mono (by simp))⟩
  · have hh' : hasB live a n = false := by simpa using hh
    have e : inB live a n i m = false := by unfold inB; simp [hh']
    rw [e]
    clear e hh
    go_enter Try.func32, Try.ntmps32
    go_wp2_with fail
    refine (hB.out).mono ?_
    rintro e w1 ⟨rfl, hb⟩
    have HB := Lib.hid hb
    rw [hh']
    clear hb hh'
    go_wp2
    go_ret
    exact ⟨rfl, ((Below.refl _ _).alloc (Nat.le_refl _) _).trans (HB.out.mono (by simp))⟩

theorem inB_byte (live : Nat) (a n i : Int) : inB live a n i 1 = byteOk live a n i := by
  unfold inB byteOk
  congr 1
  rw [Bool.eq_iff_iff]
  simp only [decide_eq_true_eq]
  omega
theorem inB_store (live : Nat) (a n i : Int) (m : Nat) : inB live a n i m = storeOk live a n i m := by
  unfold inB storeOk
  rfl
theorem inB_word (live : Nat) (a n i : Int) (hi : 0 ≤ i) : inB live a n (4 * i) 4 = wordOk live a n i := by
  unfold inB wordOk
  congr 1
  rw [Bool.eq_iff_iff]
  simp only [decide_eq_true_eq]
  omega

set_option maxHeartbeats 1000000 in
theorem rbyte_call (h : Ra w p q mem live peak) (a n i : Int) (hn : n ≤ 9223372036854775807) :
    Calls Try.prog 11 #[.pointer (some ⟨p, 0, none⟩), .agg #[.int .i64 a, .int .i64 n], .int .i64 i] w fun e w' =>
      e = .returned (.tuple #[.int .u8 (byteV mem live a n i), .bool (byteOk live a n i)]) ∧ Below w.heap.size w w' := by
  by_cases hh : byteOk live a n i = true
  · obtain ⟨a, n, i, rfl, rfl, rfl, hin, hal⟩ := byteOk_yes hh
    have e : byteV mem live a n i = mem.getD (a + i) 0 := by
      unfold byteV; rw [if_pos hh]; congr 1
    rw [hh, e]
    have h1 := h.alloc (.cells #[Value.int IntKind.i64 a, Value.int IntKind.i64 n] 34)
    clear e
    go_enter Try.func11, Try.ntmps11
    go_wp2_with fail
    refine (rin_call h1 a n i 1 hn (by omega)).mono ?_
    rintro e w1 ⟨rfl, hb⟩
    rw [inB_byte, hh]
    have h2 := h1.below hb
    have hz : w1.cell? ⟨w.heap.size, 0, none⟩ = some (.int .i64 a) := (hb.cell (by simp)).trans (by simp)
    have hc := h2.c0
    have hd := h2.cq (a + i) (by have := h.ll; omega)
    have hl := h2.ll
    have hs := h2.small
    have hF := Lib.hid hb
    clear h1 hh h2 h hb
    go_wp2
    go_quiet (fail)
    go_wp2
    go_ret2
    exact ⟨rfl, below_drewN (((Below.refl _ _).alloc (Nat.le_refl _) _).trans (hF.out.mono (by simp))) _⟩
  · have hh' : byteOk live a n i = false := by simpa using hh
    have e : byteV mem live a n i = 0 := by
      unfold byteV; rw [if_neg hh]
    rw [hh', e]
    have h1 := h.alloc (.cells #[Value.int IntKind.i64 a, Value.int IntKind.i64 n] 34)
    clear e
    go_enter Try.func11, Try.ntmps11
    go_wp2_with fail
    refine (rin_call h1 a n i 1 hn (by omega)).mono ?_
    rintro e w1 ⟨rfl, hb⟩
    rw [inB_byte, hh']
    clear hh hh' h1
    go_wp2
    go_ret2
    exact ⟨rfl, ((Below.refl _ _).alloc (Nat.le_refl _) _).trans (hb.mono (by simp))⟩

set_option maxHeartbeats 1000000 in
theorem rsetByte_call (h : Ra w p q mem live peak) (a n i c : Int) (hn : n ≤ 9223372036854775807) (hc : 0 ≤ c ∧ c ≤ 255) :
    Calls Try.prog 28 #[.pointer (some ⟨p, 0, none⟩), .agg #[.int .i64 a, .int .i64 n], .int .i64 i, .int .u8 c] w fun e w' =>
      e = .returned (.bool (byteOk live a n i)) ∧ Kp p q w w' ∧ Ra w' p q (memSet mem live a n i c) live peak := by
  by_cases hh : byteOk live a n i = true
  · obtain ⟨a, n, i, rfl, rfl, rfl, hin, hal⟩ := byteOk_yes hh
    have e : memSet mem live a n i c = mem.set (a + i) c := by
      unfold memSet; rw [if_pos hh]; congr 1
    rw [hh, e]
    have h1 := h.alloc (.cells #[Value.int IntKind.i64 a, Value.int IntKind.i64 n] 34)
    clear e
    go_enter Try.func28, Try.ntmps28
    go_wp2_with fail
    refine (rin_call h1 a n i 1 hn (by omega)).mono ?_
    rintro e w1 ⟨rfl, hb⟩
    rw [inB_byte, hh]
    have h2 := h1.below hb
    have hz : w1.cell? ⟨w.heap.size, 0, none⟩ = some (.int .i64 a) := (hb.cell (by simp)).trans (by simp)
    have hd0 := h2.c0
    have hd := h2.cq (a + i) (by have := h.ll; omega)
    have hfq := h2.fq (a + i)
    have hl := h2.ll
    have hs := h2.small
    have hF := Lib.hid hb
    have hA := Lib.hid h2
    clear h1 hh h2 h hb
    go_wp2
    go_region
    all_goals go_wp2
    all_goals go_ret
    all_goals exact ⟨rfl, (((Kp.alloc _ _ _ _).trans (Kp.of_below hF.out)).trans (Kp.setQ _ _ _ _ _)).trans (Kp.drew _ _ _), (hA.out.setByte hc).drew⟩
  · have hh' : byteOk live a n i = false := by simpa using hh
    have e : memSet mem live a n i c = mem := by
      unfold memSet; rw [if_neg hh]
    rw [hh', e]
    have h1 := h.alloc (.cells #[Value.int IntKind.i64 a, Value.int IntKind.i64 n] 34)
    clear e
    go_enter Try.func28, Try.ntmps28
    go_wp2_with fail
    refine (rin_call h1 a n i 1 hn (by omega)).mono ?_
    rintro e w1 ⟨rfl, hb⟩
    rw [inB_byte, hh']
    have hF := Lib.hid hb
    have hA := Lib.hid (h1.below hb)
    clear hh hh' h1 h hb
    go_wp2
    go_ret
    exact ⟨rfl, (Kp.alloc _ _ _ _).trans (Kp.of_below hF.out), hA.out⟩

/-- Whether a word lies in a span that is live: as the reference tells it. -/
theorem word_iff (live : Nat) (hl : live ≤ 1048576) (a n i : Int) : (decide (0 ≤ i) && (decide (i ≤ 1048576) && inB live a n (4 * i) 4)) = wordOk live a n i := by
  by_cases h0 : 0 ≤ i
  · by_cases h1 : i ≤ 1048576
    · simp [h0, h1, inB_word live a n i h0]
    · have : wordOk live a n i = false := by
        unfold wordOk hasB
        rw [Bool.and_eq_false_iff]
        by_cases h2 : 0 ≤ a ∧ 0 ≤ n ∧ a ≤ (live : Int) - n
        · right
          simp only [decide_eq_false_iff_not]
          omega
        · left
          simpa using h2
      rw [this]
      simp [h1]
  · have : wordOk live a n i = false := by
      unfold wordOk
      simp [h0]
    rw [this]
    simp [h0]

set_option maxHeartbeats 1000000 in
theorem rword_call (h : Ra w p q mem live peak) (a n i : Int) (hn : n ≤ 9223372036854775807) :
    Calls Try.prog 35 #[.pointer (some ⟨p, 0, none⟩), .agg #[.int .i64 a, .int .i64 n], .int .i64 i] w fun e w' => e = .returned (.bool (wordOk live a n i)) ∧ Below w.heap.size w w' := by
  rw [← word_iff live (by have := h.ll; have := h.small; omega)]
  by_cases h0 : 0 ≤ i
  · have d0 : decide (0 ≤ i) = true := by simpa using h0
    by_cases h1 : i ≤ 1048576
    · have d1 : decide (i ≤ 1048576) = true := by simpa using h1
      rw [d0, d1, Bool.true_and, Bool.true_and]
      have hB := Lib.hid (rin_call (h.alloc (.cells #[Value.int IntKind.i64 a, Value.int IntKind.i64 n] 34)) a n (4 * i) 4 hn (by omega))
      go_enter Try.func35, Try.ntmps35
      go_wp2_with fail
      refine hB.out.mono ?_
      rintro e w1 ⟨rfl, hb⟩
      have HB := Lib.hid hb
      clear hb
      go_wp2
      go_ret
      exact ⟨rfl, ((Below.refl _ _).alloc (Nat.le_refl _) _).trans (HB.out.mono (by simp))⟩
    · have d1 : decide (i ≤ 1048576) = false := by simpa using h1
      rw [d0, d1, Bool.false_and, Bool.and_false]
      go_enter Try.func35, Try.ntmps35
      go_wp2
      go_ret
      exact ⟨rfl, (Below.refl _ _).alloc (Nat.le_refl _) _⟩
  · have d0 : decide (0 ≤ i) = false := by simpa using h0
    rw [d0, Bool.false_and]
    go_enter Try.func35, Try.ntmps35
    go_wp2
    go_ret
    exact ⟨rfl, (Below.refl _ _).alloc (Nat.le_refl _) _⟩

set_option maxHeartbeats 2000000 in
theorem rgetWord_call (h : Ra w p q mem live peak) (a n i : Int) (hn : n ≤ 9223372036854775807) :
    Calls Try.prog 13 #[.pointer (some ⟨p, 0, none⟩), .agg #[.int .i64 a, .int .i64 n], .int .i64 i] w fun e w' =>
      e = .returned (.tuple #[.int .u32 (wordV mem live a n i), .bool (wordOk live a n i)]) ∧ Below w.heap.size w w' := by
  have h1 := h.alloc (.cells #[Value.int IntKind.i64 a, Value.int IntKind.i64 n] 34)
  by_cases hh : wordOk live a n i = true
  · obtain ⟨a, n, i, rfl, rfl, rfl, hin, hal⟩ := wordOk_yes hh
    have e : wordV mem live a n i = word4 mem (a + 4 * i) := by
      unfold wordV
      rw [if_pos hh]
      congr 1
    rw [hh, e]
    clear e
    have b0 := h.bd (a + 4 * i)
    have b1 := h.bd (a + 4 * i + 1)
    have b2 := h.bd (a + 4 * i + 2)
    have b3 := h.bd (a + 4 * i + 3)
    unfold word4
    obtain ⟨x0, e0⟩ : ∃ x, x = mem.getD (a + 4 * i) 0 := ⟨_, rfl⟩
    obtain ⟨x1, e1⟩ : ∃ x, x = mem.getD (a + 4 * i + 1) 0 := ⟨_, rfl⟩
    obtain ⟨x2, e2⟩ : ∃ x, x = mem.getD (a + 4 * i + 2) 0 := ⟨_, rfl⟩
    obtain ⟨x3, e3⟩ : ∃ x, x = mem.getD (a + 4 * i + 3) 0 := ⟨_, rfl⟩
    rw [← e0] at b0 ⊢
    rw [← e1] at b1 ⊢
    rw [← e2] at b2 ⊢
    rw [← e3] at b3 ⊢
    have E0 := Lib.hid e0
    have E1 := Lib.hid e1
    have E2 := Lib.hid e2
    have E3 := Lib.hid e3
    clear e0 e1 e2 e3
    go_enter Try.func13, Try.ntmps13
    go_wp2_with fail
    refine (rword_call h1 a n i hn).mono ?_
    rintro e w1 ⟨rfl, hb⟩
    rw [hh]
    have h2 := h1.below hb
    have hz : w1.cell? ⟨w.heap.size, 0, none⟩ = some (.int .i64 a) := (hb.cell (by simp)).trans (by simp)
    have hc := h2.c0
    have c0 := h2.cq (a + 4 * i) (by have := h.ll; omega)
    have c1 := h2.cq (a + 4 * i + 1) (by have := h.ll; omega)
    have c2 := h2.cq (a + 4 * i + 2) (by have := h.ll; omega)
    have c3 := h2.cq (a + 4 * i + 3) (by have := h.ll; omega)
    have hl := h2.ll
    have hs := h2.small
    have hF := Lib.hid hb
    rw [← E0.out] at c0
    rw [← E1.out] at c1
    rw [← E2.out] at c2
    rw [← E3.out] at c3
    obtain ⟨b00, b01⟩ := b0
    obtain ⟨b10, b11⟩ := b1
    obtain ⟨b20, b21⟩ := b2
    obtain ⟨b30, b31⟩ := b3
    have hcapne : ¬ mem.length = a + 4 * i := by omega
    clear h1 hh h2 h hb 
    go_wp2
    go_quiet (fail)
    go_wp2
    go_quiet (fail)
    go_wp2
    go_ret2
    exact ⟨rfl, below_drewN (below_drewN (((Below.refl _ _).alloc (Nat.le_refl _) _).trans (hF.out.mono (by simp))) _) _⟩
  · have hh' : wordOk live a n i = false := by simpa using hh
    have e : wordV mem live a n i = 0 := by
      unfold wordV; rw [if_neg hh]
    rw [hh', e]
    clear e
    go_enter Try.func13, Try.ntmps13
    go_wp2_with fail
    refine (rword_call h1 a n i hn).mono ?_
    rintro e w1 ⟨rfl, hb⟩
    rw [hh']
    clear hh hh' h1
    go_wp2
    go_ret2
    exact ⟨rfl, ((Below.refl _ _).alloc (Nat.le_refl _) _).trans (hb.mono (by simp))⟩

end
end Go.Proofs.Ytipliponbcjgdaa
