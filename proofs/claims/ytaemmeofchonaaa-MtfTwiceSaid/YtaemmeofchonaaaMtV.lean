/- winepressref13.Valid. -/
import Derived.Test.YtaemmeofchonaaaMtW
import Derived.Deep.QuietTactic
import Derived.BigQuiet
set_option linter.unusedVariables false
set_option linter.unusedSimpArgs false
namespace Go.Proofs.Ytaemmeofchonaaa
open Go.RowKit

theorem _root_.Go.RowKit.Below.drewN {B : Nat} {w w' : World} (h : Below B w w') (n : Nat) : Below B w (w'.drewN n) := ⟨h.os, h.tape, h.output, h.size, h.block⟩
theorem nodup_iff {l : List Int} (h : l.length = 256) : l.Nodup ↔ ∀ a, a < 256 → ∀ b, b < a → l.getD b 0 ≠ l.getD a 0 := by
  constructor
  · intro hn a ha b hb e
    rw [List.getD_eq_getElem?_getD, List.getD_eq_getElem?_getD, List.getElem?_eq_getElem (show b < l.length by omega), List.getElem?_eq_getElem (show a < l.length by omega)] at e
    have := (List.getElem_inj hn).1 (show l[b] = l[a] from e)
    omega
  · intro hp
    refine List.pairwise_iff_getElem.2 fun i j hi hj hij => ?_
    have := hp j (by omega) i hij
    rw [List.getD_eq_getElem?_getD, List.getD_eq_getElem?_getD, List.getElem?_eq_getElem hi, List.getElem?_eq_getElem hj] at this
    exact this
/-- A list is valid exactly if nothing stands twice in it. -/
theorem Vld.iff {l : List Int} (h : Lst l) : Vld l ↔ l.Nodup := ⟨Vld.nodup, fun hn => Vld.of h.1 hn fun c hc => bounds_u8 (h.2 c hc)⟩

set_option maxRecDepth 100000 in
set_option maxHeartbeats 2000000 in
theorem rvalid_call (l : List Int) (h : Lst l) (w : World) :
    Calls Try.prog 14 #[.agg (ll l)] w fun e w' => e = .returned (.bool (decide l.Nodup)) ∧ Below w.heap.size w w' := by
  have HNO := Lib.hid (show ∀ a b, a < 256 → b < a → l.getD b 0 = l.getD a 0 → decide l.Nodup = false from fun a b ha hb e => decide_eq_false fun hn => (nodup_iff h.1).1 hn a ha b hb e)
  have HYES := Lib.hid (show (∀ a, a < 256 → ∀ b, b < a → l.getD b 0 ≠ l.getD a 0) → decide l.Nodup = true from fun e => decide_eq_true ((nodup_iff h.1).2 e))
  generalize decide l.Nodup = D at HNO HYES ⊢
  have hg := heap_alloc_last w (.cells (ll l) 23)
  have HB := Lib.hid ((Below.refl w.heap.size w).alloc (Nat.le_refl _) (.cells (ll l) 23))
  go_enter Try.func14, Try.ntmps14
  go_upto_region 1 with fail
  generalize w.alloc (.cells (ll l) 23) = w1 at hg HB ⊢
  have HG := Lib.hid hg
  clear hg
  go_wp2_with fail
  go_loopw [3] (fun v wr => ∃ i : Nat, i ≤ 256 ∧ v = .int .i64 i ∧ (∀ a, a < i → ∀ b, b < a → l.getD b 0 ≠ l.getD a 0) ∧ Below w1.heap.size w1 wr) (fun v _ => 256 - (intOf v).toNat)
  case atStart => exact ⟨0, by omega, rfl, fun a ha => by omega, Below.refl _ _⟩
  case round =>
    obtain ⟨i, hi, rfl, hno, hb⟩ := hrel
    have HN := Lib.hid hno
    have HBR := Lib.hid hb
    clear hno hb
    by_cases hlt : i < 256
    · go_upto_region 5 with fail
      obtain ⟨wo, hwo⟩ : ∃ wo, wo = wr := ⟨_, rfl⟩
      subst hwo
      go_loopw [4] (fun v wr => ∃ k : Nat, k ≤ i ∧ v = .int .i64 k ∧ (∀ b, b < k → l.getD b 0 ≠ l.getD i 0) ∧ Below w1.heap.size w1 wr) (fun v _ => i - (intOf v).toNat)
      case atStart => exact ⟨0, by omega, rfl, fun b hb => by omega, HBR.out⟩
      case round =>
        obtain ⟨k, hk, rfl, hno2, hb2⟩ := hrel
        have HN2 := Lib.hid hno2
        have HB2 := Lib.hid hb2
        clear hno2 hb2
        by_cases hlt2 : k < i
        · have hg := heap_on HB2.out HG.out
          have c1 := ll_cell hg h i hlt
          have c2 := ll_cell hg h k (by omega)
          have hiI : (i : Int) < 256 := by omega
          have hkI : (k : Int) < 256 := by omega
          have hb1 := h.bd i
          have hb2 := h.bd k
          have d1 : decide ((k : Int) < (i : Int)) = true := decide_eq_true (by omega)
          have d1n : decide (k < i) = true := decide_eq_true hlt2
          have HNN := Lib.hid (show l.getD k 0 ≠ l.getD i 0 → ∀ b, b < k + 1 → l.getD b 0 ≠ l.getD i 0 from fun he b hb => by
            by_cases e : b = k
            · rw [e]; exact he
            · exact HN2.out b (by omega))
          have HDD := Lib.hid (HNO.out i k hlt hlt2)
          clear hg
          generalize l.getD k 0 = x at c2 hb2 HDD HNN
          generalize l.getD i 0 = y at c1 hb1 HDD HNN
          by_cases he : x = y
          · subst he
            have hD := HDD.out rfl
            subst hD
            have hxx : (x == x) = true := by simp
            clear HNO HYES HN HN2 HDD HNN
            go_upto_region 7 with fail
            go_quiet (fail)
            go_wp2_with fail
            go_ret
            exact ⟨rfl, HB.out.trans ((HB2.out.drewN _).mono HB.out.size)⟩
          · have hbe : (x == y) = false := beq_eq_false_iff_ne.2 he
            have HN3 := Lib.hid (HNN.out he)
            clear HNO HYES HN HN2 HDD HNN he
            go_upto_region 7 with fail
            go_quiet (fail)
            go_wp2_with fail
            exact ⟨⟨k + 1, by omega, by go_num, HN3.out, HB2.out.drewN _⟩, by simp [intOf] <;> omega⟩
        · obtain rfl : k = i := by omega
          have HN4 := Lib.hid (show ∀ a, a < k + 1 → ∀ b, b < a → l.getD b 0 ≠ l.getD a 0 from fun a ha b hb => by
            by_cases e : a = k
            · subst e
              exact HN2.out b hb
            · exact HN.out a (by omega) b hb)
          clear HNO HYES HN HN2
          go_wp2_with fail
          exact ⟨⟨k + 1, by omega, by go_num, HN4.out, HB2.out⟩, by simp [intOf] <;> omega⟩
    · obtain rfl : i = 256 := by omega
      have hD := HYES.out HN.out
      subst hD
      clear HNO HYES HN
      go_wp2_with fail
      go_ret
      exact ⟨rfl, HB.out.trans (HBR.out.mono HB.out.size)⟩
end Go.Proofs.Ytaemmeofchonaaa
