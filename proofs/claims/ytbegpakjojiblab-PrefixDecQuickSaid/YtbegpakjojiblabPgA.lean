/- The developers' isBit, whole, symbolAt. -/
import Derived.Test.YtbegpakjojiblabPgM
import Derived.Test.YtbegpakjojiblabPdB
import Derived.RegionTactic
import Derived.Deep.RegionHeld3
import Derived.Deep.DeepMust
import Derived.Deep.CutBlock
import Derived.Deep.DeepCutAuto
set_option linter.unusedVariables false
set_option linter.unusedSimpArgs false
namespace Go.Proofs.Ytbegpakjojiblab
open Go.RowKit

set_option maxRecDepth 100000 in
theorem isbit_call (b : Int) (hb : (Lit.int .i64 b).wf = true) (w : World) :
    Calls Try.prog 18 #[.int .i64 b] w fun e w' => e = .returned (.bool (decide (b = 0 ∨ b = 1))) ∧ w' = w := by
  go_enter Try.func18, Try.ntmps18
  by_cases h0 : b = 0
  · subst h0
    go_wp2_with fail
    go_ret
    exact ⟨rfl, rfl⟩
  · by_cases h1 : b = 1
    · subst h1
      go_wp2_with fail
      go_ret
      exact ⟨rfl, rfl⟩
    · go_wp2_with fail
      go_ret
      exact ⟨by simp [h0, h1], rfl⟩

set_option maxRecDepth 100000 in
set_option maxHeartbeats 1000000 in
theorem whole_call (l : List Int) (h : VL l) (n : Nat) (hn : n ≤ 14) (w : World) :
    Calls Try.prog 25 #[.agg (xl (cntT l 258)), .int .i64 n] w fun e w' => e = .returned (.int .i64 (whL (cntT l 258) n)) ∧ Below w.heap.size w w' := by
  have hS := cntT_sxt l 258 (by omega)
  have HB := Lib.hid (wh_bd h)
  have HF := Lib.hid h.fcB
  have HZ := Lib.hid (show whL (cntT l 258) 0 = 0 from rfl)
  have HT := Lib.hid (show ∀ j, whL (cntT l 258) (j + 1) = whL (cntT l 258) j * 2 + (cntT l 258).getD (j + 1) 0 from fun j => rfl)
  generalize cntT l 258 = c at hS HB HF HZ HT ⊢
  go_enter Try.func25, Try.ntmps25
  go_upto_region 1 with fail
  have hg := heap_alloc_last w (.cells (xl c) 53)
  have hb := (Below.refl w.heap.size w).alloc (Nat.le_refl _) (.cells (xl c) 53)
  generalize w.alloc (.cells (xl c) 53) = w1 at hg hb ⊢
  have HBE := Lib.hid hb
  clear hb
  go_wp2_with fail
  go_loopw [5, 6] (fun m i wr => ∃ j : Nat, j ≤ n ∧ i = .int .i64 ((j + 1 : Nat) : Int) ∧ m = .int .i64 (whL c j) ∧ wr = w1) (fun m i _ => 15 - (intOf i).toNat)
  case atStart => exact ⟨0, by omega, rfl, by rw [HZ.out], rfl⟩
  case round =>
    obtain ⟨j, hj, rfl, rfl, hwr⟩ := hrel
    obtain rfl : w1 = wr := hwr.symm
    have hbj := HB.out j (by omega)
    by_cases hlt : j < n
    · have hbk := HB.out (j + 1) (by omega)
      have HTJ := Lib.hid (HT.out j)
      rw [HT.out j] at hbk
      have c1 := xl_cell hg hS (j + 1) (by omega)
      have hdc : decide (((j + 1 : Nat) : Int) ≤ (n : Int)) = true := decide_eq_true (by omega)
      have hdn : decide (j + 1 ≤ n) = true := decide_eq_true (by omega)
      have hf := (HF.out (j + 1) (by omega)).1
      generalize c.getD (j + 1) 0 = C at c1 hbk HTJ hf
      generalize whL c j = X at hbj hbk HTJ ⊢
      go_wp2_with fail
      exact ⟨⟨j + 1, by omega, by go_num, by rw [HTJ.out], trivial⟩, by simp [intOf]; omega⟩
    · obtain rfl : j = n := by omega
      have hdc : decide (((j + 1 : Nat) : Int) ≤ (j : Int)) = false := decide_eq_false (by omega)
      have hdn : decide (j + 1 ≤ j) = false := decide_eq_false (by omega)
      obtain ⟨X, hX⟩ : ∃ X, X = whL c j := ⟨_, rfl⟩
      rw [← hX] at hbj ⊢
      have HX := Lib.hid hX
      clear hX
      go_wp2_with fail
      go_ret
      exact ⟨by rw [← HX.out]; rfl, HBE.out⟩

set_option maxRecDepth 100000 in
set_option maxHeartbeats 1000000 in
theorem symat_call (l : List Int) (h : Lng l) (n s : Nat) (hs : s < 258) (hn : n ≤ 15) (e : l.getD s 0 = (n : Int)) (w : World) :
    Calls Try.prog 26 #[.agg (lg l), .int .i64 n, .int .i64 (cc l n s)] w fun e w' => e = .returned (.int .i64 s) ∧ Below w.heap.size w w' := by
  have HC := Lib.hid (fun k => cc_bd l n k)
  have HS := Lib.hid (fun k (hk : k < 258) => cc_step l n k (by rw [h.1]; exact hk))
  have HM := Lib.hid (fun k (hk : k ≤ s) => cc_mono l n hk (by rw [h.1]; omega))
  have HE := Lib.hid e
  have HZ := Lib.hid (cc_zero l n)
  obtain ⟨T, hT⟩ : ∃ T, T = cc l n s := ⟨_, rfl⟩
  rw [← hT]
  have HT := Lib.hid hT
  clear hT e
  go_enter Try.func26, Try.ntmps26
  go_upto_region 1 with fail
  have hg := heap_alloc_last w (.cells (lg l) 23)
  have hb := (Below.refl w.heap.size w).alloc (Nat.le_refl _) (.cells (lg l) 23)
  generalize w.alloc (.cells (lg l) 23) = w1 at hg hb ⊢
  have HB := Lib.hid hb
  clear hb
  go_wp2_with fail
  go_loopw [2, 7] (fun o i wr => ∃ k : Nat, k ≤ s ∧ i = .int .i64 k ∧ o = .int .i64 (T - cc l n k) ∧ wr = w1) (fun o i _ => 258 - (intOf i).toNat)
  case atStart => exact ⟨0, by omega, rfl, by rw [HZ.out]; simp, rfl⟩
  case round =>
    obtain ⟨k, hk, rfl, rfl, hwr⟩ := hrel
    obtain rfl : w1 = wr := hwr.symm
    have hcl := lg_cell hg h k (by omega)
    have hbd := h.bd k
    have hst := HS.out k (by omega)
    have hm := HM.out k hk
    have hmk : k < s → cc l n (k + 1) ≤ cc l n s := fun hh => HM.out (k + 1) (by omega)
    have hc := HC.out k
    have hs2 := HC.out s
    rw [← HT.out] at hm hmk hs2
    have hke : k = s → cc l n k = T ∧ l.getD k 0 = (n : Int) := fun e => by rw [e]; exact ⟨HT.out.symm, HE.out⟩
    obtain ⟨C2, hC2⟩ : ∃ C2, C2 = cc l n (k + 1) := ⟨_, rfl⟩
    rw [← hC2] at hst hmk
    have HC4 := Lib.hid hC2
    clear hC2
    have HC2 := Lib.hid hst
    generalize cc l n k = C at hst hm hc hke ⊢
    generalize l.getD k 0 = V at hcl hbd hst hke HC2
    have hwk : IntKind.i64.wrap ((k : Int) + 1) = (k : Int) + 1 := by rw [IntKind.wrap_i64]; omega
    obtain ⟨D, hD⟩ : ∃ D, D = T - C := ⟨_, rfl⟩
    rw [← hD]
    have hD0 : 0 ≤ D ∧ D ≤ 258 := by omega
    by_cases hgo : 0 < T - C ∨ ¬ V = (n : Int)
    · have hks : k < s := by
        by_cases hh : k = s
        · obtain ⟨h1, h2⟩ := hke hh
          omega
        · omega
      have hmk := hmk hks
      clear hke
      by_cases hV : V = (n : Int)
      · rw [if_pos hV] at hst
        have HC3 := Lib.hid (show D - 1 = T - C2 by omega)
        have hgt : 0 < D := by omega
        have hw1 : IntKind.i64.wrap (D - 1) = D - 1 := by rw [IntKind.wrap_i64]; omega
        clear hst HC2 hD hm hmk hs2 hc hgo
        subst hV
        have hd1 : decide (0 < D) = true := decide_eq_true hgt
        go_wp2_with fail
        exact ⟨⟨k + 1, by omega, by go_num, by rw [HC3.out, HC4.out], trivial⟩, by simp [intOf]; omega⟩
      · rw [if_neg hV] at hst
        have HC3 := Lib.hid (show D = T - C2 by omega)
        clear hst HC2 hD hm hmk hs2 hc hgo
        have hvd : decide (V = (n : Int)) = false := decide_eq_false hV
        by_cases hgt : 0 < D
        · have hd1 : decide (0 < D) = true := decide_eq_true hgt
          go_wp2_with fail
          exact ⟨⟨k + 1, by omega, by go_num, by rw [HC3.out, HC4.out], trivial⟩, by simp [intOf]; omega⟩
        · have hd1 : decide (0 < D) = false := decide_eq_false hgt
          go_wp2_with fail
          exact ⟨⟨k + 1, by omega, by go_num, by rw [HC3.out, HC4.out], trivial⟩, by simp [intOf]; omega⟩
    · have hks : k = s := by
        by_cases hh : k = s
        · exact hh
        · have := hmk (by omega)
          rw [if_pos (by omega)] at hst
          omega
      obtain rfl : D = 0 := by omega
      have hV : V = (n : Int) := by omega
      subst hV
      clear hke hst HC2 hD hm hmk hs2 hc hgo hD0
      subst hks
      go_wp2_with fail
      go_ret
      exact ⟨rfl, HB.out⟩
end Go.Proofs.Ytbegpakjojiblab
