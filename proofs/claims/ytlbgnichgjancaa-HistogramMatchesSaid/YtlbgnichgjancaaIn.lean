/- Ints of the reference. -/
import Derived.Test.YtlbgnichgjancaaHgA
import Derived.Deep.QuietTactic
import Derived.BigQuiet
set_option linter.unusedVariables false
set_option linter.unusedSimpArgs false
namespace Go.Proofs.Ytlbgnichgjancaa
open Go.RowKit

theorem _root_.Go.RowKit.Below.drewN {B : Nat} {w w' : World} (h : Below B w w') (n : Nat) : Below B w (w'.drewN n) := ⟨h.os, h.tape, h.output, h.size, h.block⟩
theorem take_eq_step {l m : List Int} {k : Nat} (h : l.take k = m.take k) (hk : k < l.length) (hm : k < m.length) (e : l.getD k 0 = m.getD k 0) : l.take (k + 1) = m.take (k + 1) := by
  rw [List.take_add_one, List.take_add_one, h, List.getElem?_eq_getElem hk, List.getElem?_eq_getElem hm]
  rw [List.getD_eq_getElem?_getD, List.getD_eq_getElem?_getD, List.getElem?_eq_getElem hk, List.getElem?_eq_getElem hm] at e
  simp only [Option.getD_some] at e
  rw [e]
set_option maxRecDepth 100000 in
set_option maxHeartbeats 1000000 in
theorem ints_call (a b : Option Addr) (m n c e : Nat) (p q : List Int) (w : World) (hp : p.length = m) (hq : q.length = n) (hs : Src w .i64 a p) (ht : Src w .i64 b q) (hm : m ≤ 1000000) (hn : n ≤ 1000000) :
    Calls Try.prog 16 #[.slice a m c, .slice b n e] w fun r w' => r = .returned (.bool (decide (p = q))) ∧ Below w.heap.size w w' := by
  go_enter Try.func16, Try.ntmps16
  by_cases hmn : m = n
  · subst hmn
    go_wp2_with fail
    go_loopw [5] (fun vi wr => ∃ k : Nat, k ≤ m ∧ vi = .int .i64 k ∧ p.take k = q.take k ∧ Below w.heap.size w wr) (fun vi _ => m - (intOf vi).toNat)
    case atStart => exact ⟨0, by omega, rfl, rfl, Below.refl _ _⟩
    case round =>
      obtain ⟨k, hk, rfl, he, hb⟩ := hrel
      have HE := Lib.hid he
      have HB := Lib.hid hb
      clear he hb
      by_cases hlt : k < m
      · obtain ⟨g1, o1, rfl, h1⟩ := (hs.below HB.out).get (j := k) (by omega)
        obtain ⟨g2, o2, rfl, h2⟩ := (ht.below HB.out).get (j := k) (by omega)
        have HST := Lib.hid (take_eq_step HE.out (by omega) (by omega))
        have HNO := Lib.hid (show p = q → p.getD k 0 = q.getD k 0 from fun e => by rw [e])
        generalize p.getD k 0 = X at h1 HST HNO
        generalize q.getD k 0 = Y at h2 HST HNO
        by_cases hxy : X = Y
        · subst hxy
          go_upto_region 6 with fail
          go_quiet (fail)
          go_wp2_with fail
          exact ⟨⟨k + 1, by omega, by go_num, HST.out rfl, HB.out.drewN _⟩, by simp [intOf]; omega⟩
        · have HD := Lib.hid (show decide (p = q) = false from decide_eq_false (fun e => hxy (HNO.out e)))
          go_upto_region 6 with fail
          go_quiet (fail)
          go_wp2_with fail
          go_ret
          exact ⟨by rw [HD.out]; rfl, HB.out.drewN _⟩
      · obtain rfl : k = m := by omega
        have hpq : p = q := by
          have := HE.out
          rwa [List.take_of_length_le (by omega), List.take_of_length_le (by omega)] at this
        have HD := Lib.hid (decide_eq_true hpq)
        clear hpq
        go_wp2_with fail
        go_ret
        exact ⟨by rw [HD.out]; rfl, HB.out⟩
  · have HD := Lib.hid (show decide (p = q) = false from decide_eq_false (fun e => hmn (by rw [← hp, ← hq, e])))
    go_wp2_with fail
    go_ret
    exact ⟨by rw [HD.out]; rfl, Below.refl _ _⟩
end Go.Proofs.Ytlbgnichgjancaa
