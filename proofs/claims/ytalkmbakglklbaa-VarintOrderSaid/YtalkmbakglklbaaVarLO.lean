/- The walk over winepresslaw05.VarintOrder. -/
import Derived.Test.YtalkmbakglklbaaVarK
set_option linter.unusedVariables false
set_option linter.unusedSimpArgs false
namespace Go.Proofs.Ytalkmbakglklbaa
open Go.RowKit

theorem less_map : ∀ (i : Nat) (l m : List Int), Byts l → Byts m → i < l.length → i < m.length → l.take i = m.take i → l.getD i 0 < m.getD i 0 → Op.bytesLess (l.map fun n => UInt8.ofNat n.toNat) (m.map fun n => UInt8.ofNat n.toNat) = true := by
  intro i
  induction i with
  | zero =>
    intro l m hl hm h1 h2 _ h4
    cases l with
    | nil => simp at h1
    | cons x l =>
      cases m with
      | nil => simp at h2
      | cons y m =>
        have hx := hl x (by simp)
        have hy := hm y (by simp)
        simp at h4
        simp only [List.map_cons, Op.bytesLess, Bool.or_eq_true, decide_eq_true_eq]
        refine .inl ?_
        rw [UInt8.lt_iff_toNat_lt, UInt8.toNat_ofNat', UInt8.toNat_ofNat']
        omega
  | succ i ih =>
    intro l m hl hm h1 h2 h3 h4
    cases l with
    | nil => simp at h1
    | cons x l =>
      cases m with
      | nil => simp at h2
      | cons y m =>
        simp only [List.take_succ_cons, List.cons.injEq] at h3
        obtain ⟨rfl, h3⟩ := h3
        have := ih l m (fun z hz => hl z (by simp [hz])) (fun z hz => hm z (by simp [hz])) (by simpa using h1) (by simpa using h2) h3 (by simpa using h4)
        simp [Op.bytesLess, this]
theorem order_out (a b : Int) (h : a < 0 ∨ b ≤ a ∨ 2147483647 < b) (w : World) :
    Calls Try.prog 7 #[.int .i64 a, .int .i64 b] w fun e w' => e = .returned (.bool true) ∧ Below w.heap.size w w' := by
  have hs : decide (a < 0) = true ∨ (decide (a < 0) = false ∧ decide (b ≤ a) = true) ∨ (decide (a < 0) = false ∧ decide (b ≤ a) = false ∧ decide (2147483647 < b) = true) := by
    simp only [decide_eq_true_eq, decide_eq_false_iff_not]
    omega
  rcases hs with h0 | ⟨h0, h1⟩ | ⟨h0, h1, h2⟩
  all_goals
    go_enter Try.func7, Try.ntmps7
    go_wp2_with fail
    refine (wakes_call w).mono ?_
    rintro e w1 ⟨rfl, hb⟩
    go_wp2
    go_ret
    exact ⟨rfl, hb⟩

set_option maxRecDepth 100000 in
set_option maxHeartbeats 1000000 in
theorem order_in (a b : Nat) (h : a < b) (hb : b ≤ 2147483647) (w : World) :
    Calls Try.prog 7 #[.int .i64 a, .int .i64 b] w fun e w' => e = .returned (.bool true) ∧ Below w.heap.size w w' := by
  have h0 : decide ((a : Int) < 0) = false := by simp
  have h1 : decide ((b : Int) ≤ (a : Int)) = false := by simp; omega
  have h2 : decide (2147483647 < (b : Int)) = false := by simp; omega
  go_enter Try.func7, Try.ntmps7
  go_wp2_with fail
  clear h0 h1 h2
  refine (put_yes a (by omega) w).mono ?_
  rintro e w1 ⟨g1, k1, rfl, _, hw1, hb1⟩
  have W1 := Lib.hid hw1
  have B1 := Lib.hid hb1
  clear hw1 hb1
  go_wp2_with fail
  refine (put_yes b hb w1).mono ?_
  rintro e w2 ⟨g2, k2, rfl, _, hw2, hb2⟩
  have hc1 := (W1.out.below hb2).str (enc_length a)
  have hc2 := hw2.str (enc_length b)
  have B2 := Lib.hid (B1.out.trans (hb2.mono B1.out.size))
  have HM := Lib.hid (vsz_mono a b (by omega))
  clear hw2 hb2 B1 W1
  obtain ⟨s1, hs1⟩ : ∃ s, s = bstr (enc a) := ⟨_, rfl⟩
  obtain ⟨s2, hs2⟩ : ∃ s, s = bstr (enc b) := ⟨_, rfl⟩
  have HS1 := Lib.hid hs1
  have HS2 := Lib.hid hs2
  rw [← hs1] at hc1
  rw [← hs2] at hc2
  clear hs1 hs2
  obtain ⟨m1, hm1⟩ : ∃ m, m = vsz a := ⟨_, rfl⟩
  obtain ⟨m2, hm2⟩ : ∃ m, m = vsz b := ⟨_, rfl⟩
  have HM1 := Lib.hid hm1
  have HM2 := Lib.hid hm2
  rw [← hm1] at HM hc1 ⊢
  rw [← hm2] at HM hc2 ⊢
  clear hm1 hm2
  have d0 : decide (m1 ≤ m2) = true := by simp; exact HM.out
  by_cases hlt : m1 < m2
  · have d1 : decide (m1 < m2) = true := by simp; exact hlt
    go_wp2_with fail
    refine (wakes_call w2).mono ?_
    rintro e w3 ⟨rfl, hb⟩
    go_wp2
    go_ret
    exact ⟨rfl, B2.out.trans (hb.mono B2.out.size)⟩
  · have d1 : decide (m1 < m2) = false := by simp; omega
    have db : Op.bytesLess s1.toList s2.toList = true := by
      rw [HS1.out, HS2.out, bstr_toList, bstr_toList]
      have hm := HM.out
      obtain ⟨i, q1, q2, q3⟩ := enc_lt a b h hb (by rw [← HM1.out, ← HM2.out]; omega)
      exact less_map i _ _ (enc_byts a) (enc_byts b) (by rw [enc_length]; exact q1) (by rw [enc_length, ← HM2.out]; rw [← HM1.out] at q1; omega) q2 q3
    go_wp2_with fail
    refine (wakes_call w2).mono ?_
    rintro e w3 ⟨rfl, hb⟩
    go_wp2
    go_ret
    exact ⟨rfl, B2.out.trans (hb.mono B2.out.size)⟩

theorem order_call (a : Int) (wa : (Lit.int .i64 a).wf = true) (b : Int) (wb : (Lit.int .i64 b).wf = true) (w : World) :
    Calls Try.prog 7 #[.int .i64 a, .int .i64 b] w fun e w' => e = .returned (.bool true) ∧ Below w.heap.size w w' := by
  by_cases h : a < 0 ∨ b ≤ a ∨ 2147483647 < b
  · exact order_out a b h w
  · obtain ⟨A, rfl⟩ := Int.eq_ofNat_of_zero_le (show 0 ≤ a by omega)
    obtain ⟨B, rfl⟩ := Int.eq_ofNat_of_zero_le (show 0 ≤ b by omega)
    exact order_in A B (by omega) (by omega) w
end Go.Proofs.Ytalkmbakglklbaa
