/- Package lengthtable: isKnown, isOnWay. -/
import Derived.Test.YtckopdifjhjppaaLdA
import Derived.Test.YtckopdifjhjppaaLtB
set_option linter.unusedVariables false
set_option linter.unusedSimpArgs false
namespace Go.Proofs.Ytckopdifjhjppaa
open Go.RowKit

/-- The lengths are such as a state can have. -/
def KnP (l : List Int) (y : Int) : Prop := 0 ≤ y ∧ y < 258 ∧ ∀ s : Nat, s < 258 → gl l s ≤ 15 ∧ (y ≤ (s : Int) → gl l s = 0)
noncomputable def knB (l : List Int) (y : Int) : Bool := @decide (KnP l y) (Classical.propDecidable _)
theorem knB_iff (l : List Int) (y : Int) : knB l y = true ↔ KnP l y := by
  unfold knB
  exact @decide_eq_true_iff _ (Classical.propDecidable _)
theorem knB_no {l : List Int} {y : Int} (h : ¬ KnP l y) : knB l y = false := by
  cases e : knB l y with
  | false => rfl
  | true => exact absurd ((knB_iff l y).1 e) h

set_option maxRecDepth 100000 in
set_option maxHeartbeats 1000000 in
theorem isKnown_call (l : List Int) (h : Lng l) (y : Int) (w : World) :
    Calls Try.prog 33 #[.agg (lg l), .int .i64 y] w fun e w' => e = .returned (.bool (knB l y)) ∧ Below w.heap.size w w' := by
  have HY := Lib.hid (knB_iff l y)
  have HN := Lib.hid (fun e => knB_no (l := l) (y := y) e)
  generalize knB l y = R at HY HN ⊢
  go_enter Try.func33, Try.ntmps33
  go_upto_region 1 with fail
  have hg := heap_alloc_last w (.cells (lg l) 23)
  have HB := Lib.hid ((Below.refl w.heap.size w).alloc (Nat.le_refl _) (.cells (lg l) 23))
  generalize w.alloc (.cells (lg l) 23) = w1 at hg HB ⊢
  by_cases h0 : y < 0
  · have HR := Lib.hid (HN.out (fun e => by have := e.1; omega))
    have d0 : decide (y < 0) = true := decide_eq_true h0
    go_wp2_with fail
    go_ret
    exact ⟨by rw [HR.out]; rfl, HB.out⟩
  · by_cases h1 : 258 ≤ y
    · have HR := Lib.hid (HN.out (fun e => by have := e.2.1; omega))
      have d0 : decide (y < 0) = false := decide_eq_false h0
      have d1 : decide (258 ≤ y) = true := decide_eq_true h1
      go_wp2_with fail
      go_ret
      exact ⟨by rw [HR.out]; rfl, HB.out⟩
    · have d0 : decide (y < 0) = false := decide_eq_false h0
      have d1 : decide (258 ≤ y) = false := decide_eq_false h1
      go_wp2_with (refine wpList_load_row rfl 23 _ rfl w.heap.size rfl 23 (lg l) (0, 0) _ hg Try.underlying23 rfl (lngIk h) ?_)
      go_loopw [14] (fun i wr => ∃ k : Nat, k ≤ 258 ∧ i = .int .i64 k ∧ (∀ s : Nat, s < k → gl l s ≤ 15 ∧ (y ≤ (s : Int) → gl l s = 0)) ∧ wr = w1) (fun i _ => 258 - (intOf i).toNat)
      case atStart => exact ⟨0, by omega, rfl, fun s hs => absurd hs (by omega), rfl⟩
      case round =>
        obtain ⟨k, hk, rfl, hall, rfl⟩ := hrel
        have HA := Lib.hid hall
        clear hall
        by_cases hlt : k < 258
        · have hix := fun w => run_index_lng w h k hlt
          have hbd := h.bd k
          have HST := Lib.hid (show gl l k ≤ 15 ∧ (y ≤ (k : Int) → gl l k = 0) → ∀ s : Nat, s < k + 1 → gl l s ≤ 15 ∧ (y ≤ (s : Int) → gl l s = 0) from fun e s hs => by
            by_cases e2 : s = k
            · rw [e2]; exact e
            · exact HA.out s (by omega))
          have HBAD := Lib.hid (show ¬ (gl l k ≤ 15 ∧ (y ≤ (k : Int) → gl l k = 0)) → R = false from fun e => HN.out (fun e2 => e (e2.2.2 k hlt)))
          have hgl : l.getD k 0 = gl l k := rfl
          rw [hgl] at hix hbd
          clear hgl
          generalize gl l k = z at hix hbd HST HBAD
          by_cases h15 : 15 < z
          · have HR := Lib.hid (HBAD.out (fun e => by have := e.1; omega))
            have d2 : decide (15 < z) = true := decide_eq_true h15
            go_wp2_with fail
            go_ret
            exact ⟨by rw [HR.out]; rfl, HB.out⟩
          · have d2 : decide (15 < z) = false := decide_eq_false h15
            by_cases hyk : y ≤ (k : Int)
            · have d3 : decide (y ≤ (k : Int)) = true := decide_eq_true hyk
              by_cases hz : z = 0
              · have HS2 := Lib.hid (HST.out ⟨by omega, fun _ => hz⟩)
                have d4 : (z != 0) = false := by simp [hz]
                clear hz
                go_wp2_with fail
                exact ⟨⟨k + 1, by omega, by go_num, HS2.out, by trivial⟩, by simp [intOf]; omega⟩
              · have HR := Lib.hid (HBAD.out (fun e => hz (e.2 hyk)))
                have d4 : (z != 0) = true := by simp [hz]
                go_wp2_with fail
                go_ret
                exact ⟨by rw [HR.out]; rfl, HB.out⟩
            · have d3 : decide (y ≤ (k : Int)) = false := decide_eq_false hyk
              have HS2 := Lib.hid (HST.out ⟨by omega, fun e => absurd e hyk⟩)
              go_wp2_with fail
              exact ⟨⟨k + 1, by omega, by go_num, HS2.out, by trivial⟩, by simp [intOf]; omega⟩
        · obtain rfl : k = 258 := by omega
          have HR := Lib.hid (show R = true from HY.out.2 ⟨by omega, by omega, HA.out⟩)
          go_wp2_with fail
          go_ret
          exact ⟨by rw [HR.out]; rfl, HB.out⟩

/-- Where the adjustments of a state may have begun. -/
def lstS (c : TS) : Int := if 0 < c.y then gl c.L (c.y.toNat - 1) else 0
def mstS (c : TS) : Int := if 0 < c.y then gl c.L (c.y.toNat - 1) else 15
def OnP (c : TS) : Prop := 0 ≤ c.n ∧ c.n ≤ 15 ∧ (c.a = 0 ∧ lstS c ≤ c.n ∧ c.n ≤ mstS c ∨ c.a = 1 ∧ lstS c < c.n ∨ c.a = 2 ∧ c.n < mstS c)
instance (c : TS) : Decidable (OnP c) := by unfold OnP; exact inferInstance
set_option maxRecDepth 100000 in
set_option maxHeartbeats 1000000 in
theorem isOnWay_call (c : TS) (hT : Tst c) (hy : 0 ≤ c.y ∧ c.y ≤ 258) (w : World) :
    Calls Try.prog 34 #[.agg (tg c)] w fun e w' => e = .returned (.bool (decide (OnP c))) ∧ Below w.heap.size w w' := by
  have HR := Lib.hid (show decide (OnP c) = decide (0 ≤ c.n ∧ c.n ≤ 15 ∧ (c.a = 0 ∧ lstS c ≤ c.n ∧ c.n ≤ mstS c ∨ c.a = 1 ∧ lstS c < c.n ∨ c.a = 2 ∧ c.n < mstS c)) from rfl)
  generalize decide (OnP c) = R at HR ⊢
  have hL := hT.lng.1
  have HL := Lib.hid (show lstS c = if 0 < c.y then gl c.L (c.y.toNat - 1) else 0 from rfl)
  have HM := Lib.hid (show mstS c = if 0 < c.y then gl c.L (c.y.toNat - 1) else 15 from rfl)
  generalize lstS c = Z at HR HL
  generalize mstS c = M at HR HM
  go_enter Try.func34, Try.ntmps34
  go_upto_region 1 with fail
  have hg := heap_alloc_last w (.cells (tg c) 25)
  have HB := Lib.hid ((Below.refl w.heap.size w).alloc (Nat.le_refl _) (.cells (tg c) 25))
  generalize w.alloc (.cells (tg c) 25) = w1 at hg HB ⊢
  obtain ⟨cy, ct, cn, ca⟩ := tg_cells hg hL
  go_upto_if 7 with fail
  go_cut [3, 4] (fun s3 s4 wx => s3 = .int .i64 Z ∧ s4 = .int .i64 M ∧ wx = w1)
  case first =>
    by_cases h0 : 0 < c.y
    · have d0 : decide (0 < c.y) = true := decide_eq_true h0
      obtain ⟨s, hs⟩ : ∃ s : Nat, c.y - 1 = s := ⟨(c.y - 1).toNat, by omega⟩
      have hs2 : c.y.toNat - 1 = s := by omega
      rw [if_pos h0, hs2] at HL HM
      have hs3 : s < 258 := by omega
      have hcl := tg_lcell hg hL s hs3
      have hbd := hT.lng.bd s
      have hgl : c.L.getD s 0 = gl c.L s := rfl
      rw [hgl] at hcl hbd
      generalize gl c.L s = z at hcl hbd HL HM
      have hw1 : IntKind.i64.wrap (c.y - 1) = (s : Int) := by rw [IntKind.wrap_i64]; omega
      clear hgl hs hs2
      go_wp2_with fail
      go_meet
      exact ⟨by rw [HL.out], by rw [HM.out], rfl⟩
    · have d0 : decide (0 < c.y) = false := decide_eq_false h0
      rw [if_neg h0] at HL HM
      go_wp2_with fail
      go_meet
      exact ⟨by rw [HL.out], by rw [HM.out], rfl⟩
  case rest =>
    obtain ⟨rfl, rfl, hwc⟩ := hcut
    obtain rfl : w1 = wc := hwc.symm
    clear HL HM hy
    by_cases h0 : c.n < 0
    · have d0 : decide (c.n < 0) = true := decide_eq_true h0
      have HX := Lib.hid (show R = false by rw [HR.out, decide_eq_false_iff_not]; omega)
      go_wp2_with fail
      go_ret
      exact ⟨by rw [HX.out]; rfl, HB.out⟩
    · have d0 : decide (c.n < 0) = false := decide_eq_false h0
      by_cases h1 : 15 < c.n
      · have d1 : decide (15 < c.n) = true := decide_eq_true h1
        have HX := Lib.hid (show R = false by rw [HR.out, decide_eq_false_iff_not]; omega)
        go_wp2_with fail
        go_ret
        exact ⟨by rw [HX.out]; rfl, HB.out⟩
      · have d1 : decide (15 < c.n) = false := decide_eq_false h1
        by_cases a0 : c.a = 0
        · have e0 : (c.a == 0) = true := beq_iff_eq.2 a0
          by_cases hz : Z ≤ c.n
          · have d2 : decide (Z ≤ c.n) = true := decide_eq_true hz
            have HX := Lib.hid (show R = decide (c.n ≤ M) by rw [HR.out, Bool.eq_iff_iff, decide_eq_true_iff, decide_eq_true_iff]; omega)
            clear a0
            go_wp2_with fail
            go_ret
            exact ⟨by rw [HX.out]; simp, HB.out⟩
          · have d2 : decide (Z ≤ c.n) = false := decide_eq_false hz
            have HX := Lib.hid (show R = false by rw [HR.out, decide_eq_false_iff_not]; omega)
            clear a0
            go_wp2_with fail
            go_ret
            exact ⟨by rw [HX.out]; rfl, HB.out⟩
        · have e0 : (c.a == 0) = false := beq_eq_false_iff_ne.2 a0
          by_cases a1 : c.a = 1
          · have e1 : (c.a == 1) = true := beq_iff_eq.2 a1
            have HX := Lib.hid (show R = decide (Z < c.n) by rw [HR.out, Bool.eq_iff_iff, decide_eq_true_iff, decide_eq_true_iff]; omega)
            clear a0 a1
            go_wp2_with fail
            go_ret
            exact ⟨by rw [HX.out]; simp, HB.out⟩
          · have e1 : (c.a == 1) = false := beq_eq_false_iff_ne.2 a1
            by_cases a2 : c.a = 2
            · have e2 : (c.a == 2) = true := beq_iff_eq.2 a2
              have HX := Lib.hid (show R = decide (c.n < M) by rw [HR.out, Bool.eq_iff_iff, decide_eq_true_iff, decide_eq_true_iff]; omega)
              clear a0 a1 a2
              go_wp2_with fail
              go_ret
              exact ⟨by rw [HX.out]; simp, HB.out⟩
            · have e2 : (c.a == 2) = false := beq_eq_false_iff_ne.2 a2
              have HX := Lib.hid (show R = false by rw [HR.out, decide_eq_false_iff_not]; omega)
              clear a0 a1 a2
              go_wp2_with fail
              go_ret
              exact ⟨by rw [HX.out]; rfl, HB.out⟩
end Go.Proofs.Ytckopdifjhjppaa
