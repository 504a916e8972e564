/- The contracts of package arena's functions, fourth part: stores, allocation, release. -/
import Derived.Test.YtipliponbcjgdaaAr3
set_option linter.unusedVariables false
set_option linter.unusedSimpArgs false
namespace Go.Proofs.Ytipliponbcjgdaa
open Go.RowKit
section
variable {w : World} {p q : Nat} {mem : List Int} {live peak : Nat}

/-- Can m bytes be stored at an offset of a span? -/
def storeOk (live : Nat) (a n at_ : Int) (m : Nat) : Bool := hasB live a n && decide (0 ≤ at_ ∧ at_ ≤ n ∧ (m : Int) ≤ n - at_)
theorem storeOk_yes {live : Nat} {a n at_ : Int} {m : Nat} (h : storeOk live a n at_ m = true) : ∃ a' n' i' : Nat, a = a' ∧ n = n' ∧ at_ = i' ∧ i' + m ≤ n' ∧ a' + n' ≤ live := by
  simp only [storeOk, hasB, Bool.and_eq_true, decide_eq_true_eq] at h
  exact ⟨a.toNat, n.toNat, at_.toNat, by omega, by omega, by omega, by omega, by omega⟩

set_option maxHeartbeats 400000 in
theorem store_no (h : Ar w p q mem live peak) (a n i : Int) (sp : Option Addr) (m c : Nat) (hn : n ≤ 9223372036854775807) (hh : storeOk live a n i m = false) :
    Calls Try.prog 23 #[.pointer (some ⟨p, 0, none⟩), .agg #[.int .i64 a, .int .i64 n], .int .i64 i, .slice sp m c] w fun e w' =>
      e = .returned (.bool false) ∧ Kp p q w w' ∧ Ar w' p q mem live peak := by
  have h1 := h.alloc (.cells #[Value.int IntKind.i64 a, Value.int IntKind.i64 n] 34)
  have hB : hasB live a n = true → ¬ (0 ≤ i ∧ i ≤ n ∧ (m : Int) ≤ n - i) := by
    intro h1 h2
    simp [storeOk, h1, h2] at hh
  have hc : hasB live a n = true → 0 ≤ n := by
    intro h1
    simp only [hasB, decide_eq_true_eq] at h1
    omega
  go_enter Try.func23, Try.ntmps23
  go_wp2_with fail
  refine (has_call h1 a n hn).mono ?_
  rintro e w1 ⟨rfl, hb⟩
  have hz1 : w1.cell? ⟨w.heap.size, 1, none⟩ = some (.int .i64 n) := (hb.cell (by simp)).trans (by simp)
  have hF := Lib.hid hb
  have hA := Lib.hid (h1.below hb)
  clear hh h1 h hb
  generalize hasB live a n = b at *
  cases b with
  | false =>
    clear hB hc
    go_wp2
    go_ret
    exact ⟨rfl, (Kp.alloc _ _ _ _).trans (Kp.of_below hF.out), hA.out⟩
  | true =>
    have hB' := hB rfl
    have hc' := hc rfl
    clear hB hc
    by_cases c1 : i < 0
    · have d1 : decide (i < 0) = true := by simpa using c1
      clear hB'
      go_wp2
      go_ret
      exact ⟨rfl, (Kp.alloc _ _ _ _).trans (Kp.of_below hF.out), hA.out⟩
    · have d1 : decide (i < 0) = false := by simpa using c1
      by_cases c2 : n < i
      · have d2 : decide (n < i) = true := by simpa using c2
        clear hB'
        go_wp2
        go_ret
        exact ⟨rfl, (Kp.alloc _ _ _ _).trans (Kp.of_below hF.out), hA.out⟩
      · have d2 : decide (n < i) = false := by simpa using c2
        have d3 : decide (n - i < (m : Int)) = true := by simp; omega
        clear hB'
        go_wp2
        go_ret
        exact ⟨rfl, (Kp.alloc _ _ _ _).trans (Kp.of_below hF.out), hA.out⟩

theorem Byts.splice {l cs : List Int} (h : Byts l) (o : Nat) (hc : Byts cs) : Byts (splice l o cs) := by
  intro x hx
  unfold Go.splice at hx
  simp only [List.mem_append] at hx
  rcases hx with hx | hx | hx
  · exact h x (List.mem_of_mem_take hx)
  · exact hc x hx
  · exact h x (List.mem_of_mem_drop hx)
theorem Byts.seg {l : List Int} (h : Byts l) (o n : Nat) : Byts ((l.drop o).take n) := fun x hx => h x (List.mem_of_mem_drop (List.mem_of_mem_take hx))
theorem Byts.rep (n : Nat) : Byts (List.replicate n 0) := by
  intro x hx
  rw [List.eq_of_mem_replicate hx]
  omega

set_option maxHeartbeats 400000 in
theorem store_yes (h : Ar w p q mem live peak) (a n i : Nat) (sp : Option Addr) (m c : Nat) (l : List Int) (hl : l.length = m) (hsp : Src w .u8 sp l) (hby : Byts l)
    (hh : hasB live a n = true) (hin : i + m ≤ n) (hal : a + n ≤ live) :
    Calls Try.prog 23 #[.pointer (some ⟨p, 0, none⟩), .agg #[.int .i64 a, .int .i64 n], .int .i64 i, .slice sp m c] w fun e w' =>
      e = .returned (.bool true) ∧ Kp p q w w' ∧ Ar w' p q (splice mem (a + i) l) live peak := by
  have h1 := h.alloc (.cells #[Value.int IntKind.i64 a, Value.int IntKind.i64 n] 34)
  have hll := h.ll
  have hsm := h.small
  go_enter Try.func23, Try.ntmps23
  go_wp2_with fail
  refine (has_call h1 a n (by omega)).mono ?_
  rintro e w1 ⟨rfl, hb⟩
  rw [hh]
  have h2 := h1.below hb
  have hz : w1.cell? ⟨w.heap.size, 0, none⟩ = some (.int .i64 a) := (hb.cell (by simp)).trans (by simp)
  have hz1 : w1.cell? ⟨w.heap.size, 1, none⟩ = some (.int .i64 n) := (hb.cell (by simp)).trans (by simp)
  have d1 : decide ((i : Int) < 0) = false := by simp
  have d2 : decide ((n : Int) < i) = false := by simp; omega
  have d3 : decide ((n : Int) - i < m) = false := by simp; omega
  have hw1 : w.heap.size < w1.heap.size := by have := hb.size; simp at this; omega
  have hF := Lib.hid hb
  have hB1 : Below w.heap.size w w1 := ((Below.refl _ _).alloc (Nat.le_refl _) _).trans (hb.mono (by simp))
  clear h1 hh h hb
  go_wp2_with fail
  refine (part_call h2 a n (by omega)).mono ?_
  rintro e w2 ⟨rfl, hb2⟩
  have h3 := h2.below hb2
  have hB2 := hB1.trans (hb2.mono (by omega))
  by_cases hne : i = n
  · subst hne
    obtain rfl : m = 0 := by omega
    obtain ⟨w3, hrun, hg3, hgr⟩ := run_copyI (P := Try.prog) w2 36 36 3 _ sliceT byteSize (some ⟨q, partOff a i, none⟩) sp 0 0 0 c .u8 q (a + i) mem 5 h3.hq l hl (hsp.below hB2) 0 rfl (fun hn => by omega) (by omega)
    rw [List.take_of_length_le (Nat.le_of_eq hl)] at hg3
    have hA := Lib.hid (h3.row hgr hg3 (splice_length _ _ _ (by have := h3.ll; omega)) (h3.byts.splice _ hby))
    have hK := Lib.hid ((Kp.of_below hB2).trans (Kp.grownQ (p := p) hgr))
    clear hg3 hgr h2 h3 hB1 hB2 hb2 hF
    go_wp2
    go_ret
    exact ⟨rfl, hK.out, hA.out⟩
  · have hp0 : partOff a n = a := if_neg (by omega)
    have hne' : ¬ n = i := by omega
    rw [hp0]
    obtain ⟨w3, hrun, hg3, hgr⟩ := run_copyI (P := Try.prog) w2 36 36 3 _ sliceT byteSize (some ⟨q, a + i, none⟩) sp (n - i) (n - i) m c .u8 q (a + i) mem 5 h3.hq l hl (hsp.below hB2) m (by omega) (fun hn => rfl) (by omega)
    rw [List.take_of_length_le (Nat.le_of_eq hl)] at hg3
    have hA := Lib.hid (h3.row hgr hg3 (splice_length _ _ _ (by
      have := h3.ll
      omega)) (h3.byts.splice _ hby))
    have hK := Lib.hid ((Kp.of_below hB2).trans (Kp.grownQ (p := p) hgr))
    clear hg3 hgr h2 h3 hB1 hB2 hb2 hF
    go_wp2
    go_ret
    exact ⟨rfl, hK.out, hA.out⟩

end
end Go.Proofs.Ytipliponbcjgdaa
