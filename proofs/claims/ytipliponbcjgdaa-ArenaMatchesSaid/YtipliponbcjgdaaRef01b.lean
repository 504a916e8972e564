/- The reference of layer 1 (arena), second part: SetWord, Load, Store, Take, Release. -/
import Derived.Test.YtipliponbcjgdaaRef01
set_option linter.unusedVariables false
set_option linter.unusedSimpArgs false
namespace Go.Proofs.Ytipliponbcjgdaa
open Go.RowKit
section
variable {w : World} {p q : Nat} {mem : List Int} {live peak : Nat}

theorem cell_set_q {W : World} {p q k : Nat} {u : Value} {X : Option Value} (hne : p ≠ q) (h : W.cell? ⟨p, 0, none⟩ = X) : (W.setCell ⟨q, k, none⟩ u).cell? ⟨p, 0, none⟩ = X :=
  (World.cell?_setCell_other W _ _ u (fun e => hne (by injection e with e; exact e.symm))).trans h

theorem wv0 (v : Int) (hv : 0 ≤ v) : IntKind.u8.wrap (v.tmod 256) = v % 256 := by
  rw [Int.tmod_eq_emod_of_nonneg hv]
  simp [IntKind.wrap, IntKind.bits, IntKind.signed]
theorem wv1 (v d : Int) (hv : 0 ≤ v) (hv' : v ≤ 4294967295) (hd : 0 < d) : IntKind.u8.wrap ((IntKind.u32.wrap (v.tdiv d)).tmod 256) = v / d % 256 := by
  rw [Int.tdiv_eq_ediv_of_nonneg hv]
  have h1 : 0 ≤ v / d := Int.ediv_nonneg hv (by omega)
  have h2 : v / d ≤ v := Int.ediv_le_self _ hv
  have e : IntKind.u32.wrap (v / d) = v / d := by
    simp [IntKind.wrap, IntKind.bits, IntKind.signed]
    omega
  rw [e, wv0 _ h1]
theorem wv3 (v : Int) (hv : 0 ≤ v) (hv' : v ≤ 4294967295) : IntKind.u8.wrap (IntKind.u32.wrap (v.tdiv 16777216)) = v / 16777216 := by
  rw [Int.tdiv_eq_ediv_of_nonneg hv]
  simp [IntKind.wrap, IntKind.bits, IntKind.signed]
  omega

set_option maxHeartbeats 4000000 in
theorem rsetWord_yes (h : Ra w p q mem live peak) (a n i : Nat) (v : Int) (hv : 0 ≤ v) (hv' : v ≤ 4294967295) (hn : (n : Int) ≤ 9223372036854775807) (hh : wordOk live a n i = true) (hin : 4 * i + 4 ≤ n) (hal : a + n ≤ live) :
    Calls Try.prog 29 #[.pointer (some ⟨p, 0, none⟩), .agg #[.int .i64 a, .int .i64 n], .int .i64 i, .int .u32 v] w fun e w' =>
      e = .returned (.bool true) ∧ Kp p q w w' ∧ Ra w' p q (wordPut mem (a + 4 * i) v) live peak := by
  have h1 := h.alloc (.cells #[Value.int IntKind.i64 a, Value.int IntKind.i64 n] 34)
  go_enter Try.func29, Try.ntmps29
  go_wp2_with fail
  refine (rword_call h1 a n i hn).mono ?_
  rintro e w1 ⟨rfl, hb⟩
  rw [hh]
  have h2 := h1.below hb
  have hz : w1.cell? ⟨w.heap.size, 0, none⟩ = some (.int .i64 a) := (hb.cell (by simp)).trans (by simp)
  have hl := h2.ll
  have hs := h2.small
  have hF := Lib.hid hb
  have hpq := h2.ne
  have c0 := h2.cq (a + 4 * i) (by omega)
  have c1 := h2.cq (a + 4 * i + 1) (by omega)
  have c2 := h2.cq (a + 4 * i + 2) (by omega)
  have c3 := h2.cq (a + 4 * i + 3) (by omega)
  have f0 := h2.fq (a + 4 * i)
  have f1 := h2.fq (a + 4 * i + 1)
  have f2 := h2.fq (a + 4 * i + 2)
  have f3 := h2.fq (a + 4 * i + 3)
  have hcp := h2.c0
  have hA := Lib.hid h2
  clear h1 hh h hb h2
  go_wp2
  have hS0 : w1.drew.cell? ⟨p, 0, none⟩ = some (.slice (some ⟨q, 0, none⟩) mem.length mem.length) := hcp
  have e1 : IntKind.i64.wrap ((a : Int) + 4 * (i : Int) + 1) = (a : Int) + 4 * (i : Int) + 1 := IntWalk.i64_in _ (by omega)
  have e2 : IntKind.i64.wrap ((a : Int) + 4 * (i : Int) + 2) = (a : Int) + 4 * (i : Int) + 2 := IntWalk.i64_in _ (by omega)
  have e3 : IntKind.i64.wrap ((a : Int) + 4 * (i : Int) + 3) = (a : Int) + 4 * (i : Int) + 3 := IntWalk.i64_in _ (by omega)
  have i0 : (0 : Int) ≤ (a : Int) + 4 * (i : Int) := by omega
  have i1 : (a : Int) + 4 * (i : Int) < (mem.length : Int) := by omega
  have i2 : (a : Int) + 4 * (i : Int) + 1 < (mem.length : Int) := by omega
  have i3 : (a : Int) + 4 * (i : Int) + 2 < (mem.length : Int) := by omega
  have i4 : (a : Int) + 4 * (i : Int) + 3 < (mem.length : Int) := by omega
  have j1 : (0 : Int) ≤ (a : Int) + 4 * (i : Int) + 1 := by omega
  have j2 : (0 : Int) ≤ (a : Int) + 4 * (i : Int) + 2 := by omega
  have j3 : (0 : Int) ≤ (a : Int) + 4 * (i : Int) + 3 := by omega
  have k0 : ((a : Int) + 4 * (i : Int)).toNat = a + 4 * i := by omega
  have k1 : ((a : Int) + 4 * (i : Int) + 1).toNat = a + 4 * i + 1 := by omega
  have k2 : ((a : Int) + 4 * (i : Int) + 2).toNat = a + 4 * i + 2 := by omega
  have k3 : ((a : Int) + 4 * (i : Int) + 3).toNat = a + 4 * i + 3 := by omega
  go_region_held3 (fun W => W.cell? ⟨p, 0, none⟩ = some (.slice (some ⟨q, 0, none⟩) mem.length mem.length)) (first | exact hS0 | exact cell_set_q hpq hcp | exact cell_set_q hpq (cell_set_q hpq hcp) | exact cell_set_q hpq (cell_set_q hpq (cell_set_q hpq hcp)) | exact cell_set_q hpq (cell_set_q hpq (cell_set_q hpq (cell_set_q hpq hcp)))) (fail)
  rw [wv0 v hv, wv1 v 256 hv hv' (by omega), wv1 v 65536 hv hv' (by omega), wv3 v hv hv']
  clear e1 e2 e3 i0 i1 i2 i3 i4 j1 j2 j3 k0 k1 k2 k3
  go_wp2
  go_ret
  refine ⟨rfl, ?_, ?_⟩
  · exact ((((Kp.alloc _ _ _ _).trans (Kp.of_below hF.out)).trans (Kp.setQ _ _ _ _ _)).trans (Kp.setQ _ _ _ _ _)).trans (((Kp.setQ _ _ _ _ _).trans (Kp.setQ _ _ _ _ _)).trans (Kp.drew _ _ _))
  · exact ((((hA.out.setByte (by omega)).setByte (by omega)).setByte (by omega)).setByte (by omega)).drew

theorem rsetWord_call (h : Ra w p q mem live peak) (a n i v : Int) (hv : 0 ≤ v) (hv' : v ≤ 4294967295) (hn : n ≤ 9223372036854775807) :
    Calls Try.prog 29 #[.pointer (some ⟨p, 0, none⟩), .agg #[.int .i64 a, .int .i64 n], .int .i64 i, .int .u32 v] w fun e w' =>
      e = .returned (.bool (wordOk live a n i)) ∧ Kp p q w w' ∧ Ra w' p q (wordSet mem live a n i v) live peak := by
  by_cases hh : wordOk live a n i = true
  · obtain ⟨a', n', i', rfl, rfl, rfl, h1, h2⟩ := wordOk_yes hh
    have := rsetWord_yes h a' n' i' v hv hv' hn hh h1 h2
    have e : wordSet mem live a' n' i' v = wordPut mem (a' + 4 * i') v := by
      unfold wordSet
      rw [if_pos hh]
      congr 1
    rw [hh, e]
    exact this
  · have hh' : wordOk live a n i = false := by simpa using hh
    have e : wordSet mem live a n i v = mem := by unfold wordSet; rw [if_neg hh]
    rw [hh', e]
    have h1 := h.alloc (.cells #[Value.int IntKind.i64 a, Value.int IntKind.i64 n] 34)
    clear e
    go_enter Try.func29, Try.ntmps29
    go_wp2_with fail
    refine (rword_call h1 a n i hn).mono ?_
    rintro e w1 ⟨rfl, hb⟩
    rw [hh']
    have hF := Lib.hid hb
    have hA := Lib.hid (h1.below hb)
    clear hh hh' h1 h hb
    go_wp2
    go_ret
    exact ⟨rfl, (Kp.alloc _ _ _ _).trans (Kp.of_below hF.out), hA.out⟩
end
end Go.Proofs.Ytipliponbcjgdaa
