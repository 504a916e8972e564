/- Package prefixenc: haveCodes, Size. -/
import Derived.Test.YtnpohkaicfcidaaPeL
import Derived.Test.YtnpohkaicfcidaaPeR
set_option linter.unusedVariables false
set_option linter.unusedSimpArgs false
namespace Go.Proofs.Ytnpohkaicfcidaa
open Go.RowKit

theorem all_out (l q : List Int) {i : Nat} (hi : i < q.length) (h : okS l (q.getD i 0) = false) : q.all (okS l) = false := by
  rw [List.all_eq_false]
  refine ⟨q.getD i 0, ?_, by simpa using h⟩
  rw [List.getD_eq_getElem?_getD, List.getElem?_eq_getElem hi]
  exact List.getElem_mem hi

set_option maxRecDepth 100000 in
set_option maxHeartbeats 1000000 in
theorem have_call (l : List Int) (h : Lng l) (sp : Option Addr) (n cap : Nat) (q : List Int) (hq : q.length = n) (hn : n ≤ 10000) (w : World) (hs : Src w .i64 sp q) :
    Calls Try.prog 25 #[.agg (lg l), .slice sp n cap] w fun e w' => e = .returned (.bool (q.all (okS l))) ∧ Below w.heap.size w w' := by
  have HOUT := Lib.hid (fun i => all_out l q (i := i))
  have HEND := Lib.hid (show (q.take n).all (okS l) = q.all (okS l) by rw [List.take_of_length_le (by omega)])
  generalize q.all (okS l) = B at HOUT HEND ⊢
  have HS := Lib.hid hs
  have HQ := Lib.hid hq
  clear hs hq
  have hg := heap_alloc_last w (.cells (lg l) 23)
  have HB := Lib.hid ((Below.refl w.heap.size w).alloc (Nat.le_refl _) (.cells (lg l) 23))
  go_enter Try.func25, Try.ntmps25
  go_upto_region 1 with fail
  generalize w.alloc (.cells (lg l) 23) = w1 at hg HB ⊢
  have HG := Lib.hid hg
  clear hg
  go_wp2_with fail
  go_loopw [9] (fun v wr => ∃ (i : Nat), i ≤ n ∧ v = .int .i64 i ∧ (q.take i).all (okS l) = true ∧ Below w1.heap.size w1 wr) (fun v _ => n - (intOf v).toNat)
  case atStart => exact ⟨0, by omega, rfl, rfl, Below.refl _ _⟩
  case round =>
    obtain ⟨i, hi, rfl, hall, hb⟩ := hrel
    have HBR := Lib.hid hb
    have HALL := Lib.hid hall
    clear hb hall
    by_cases hlt : i < n
    · have hiq : i < q.length := by rw [HQ.out]; exact hlt
      obtain ⟨g, o, rfl, hcb⟩ := ((HS.out.below HB.out).below HBR.out).get hiq
      have HBAD := Lib.hid (HOUT.out i hiq)
      have HAT := Lib.hid (all_take l q i hiq HALL.out)
      generalize q.getD i 0 = x at hcb HBAD HAT
      clear hiq
      have HGR := Lib.hid (heap_on HBR.out HG.out)
      by_cases hx0 : x < 0
      · have hB : B = false := HBAD.out (by unfold okS; rw [decide_eq_false (by omega)]; rfl)
        subst hB
        have hd : decide (x < 0) = true := decide_eq_true hx0
        clear HBAD HAT
        go_wp2_with fail
        go_returns
        exact ⟨rfl, HB.out.trans (HBR.out.mono HB.out.size)⟩
      · have hd : decide (x < 0) = false := decide_eq_false hx0
        by_cases hx1 : 258 ≤ x
        · have hB : B = false := HBAD.out (by unfold okS; rw [decide_eq_false (show ¬ x < 258 by omega), Bool.and_false]; rfl)
          subst hB
          have hd2 : decide (258 ≤ x) = true := decide_eq_true hx1
          clear HBAD HAT
          go_wp2_with fail
          go_returns
          exact ⟨rfl, HB.out.trans (HBR.out.mono HB.out.size)⟩
        · have hd2 : decide (258 ≤ x) = false := decide_eq_false hx1
          obtain ⟨s, rfl⟩ : ∃ s : Nat, x = (s : Int) := ⟨x.toNat, by omega⟩
          have hs : s < 258 := by omega
          rw [okS_nat, decide_eq_true hs, Bool.true_and] at HBAD HAT
          have c1 := lg_cell HGR.out h s hs
          have hbd := h.bd s
          by_cases h0 : 0 < l.getD s 0
          · rw [decide_eq_true h0] at HAT
            have HAL2 := Lib.hid (HAT.out rfl)
            clear HBAD HAT
            generalize l.getD s 0 = v at c1 hbd h0
            have hpe : (v == 0) = false := by rw [beq_eq_false_iff_ne]; omega
            go_wp2_with fail
            exact ⟨⟨i + 1, by omega, by go_num, HAL2.out, HBR.out⟩, by simp [intOf]; omega⟩
          · have hB : B = false := HBAD.out (decide_eq_false h0)
            subst hB
            have hv0 : l.getD s 0 = 0 := by omega
            rw [hv0] at c1
            clear HBAD HAT hbd h0 hv0
            go_wp2_with fail
            go_returns
            exact ⟨rfl, HB.out.trans (HBR.out.mono HB.out.size)⟩
    · obtain rfl : i = n := by omega
      have hE := HEND.out
      rw [HALL.out] at hE
      subst hE
      go_wp2_with fail
      go_returns
      exact ⟨rfl, HB.out.trans (HBR.out.mono HB.out.size)⟩
end Go.Proofs.Ytnpohkaicfcidaa
