/- The reference's Sum, Ints. -/
import Derived.Test.YtemjlmeakkknbaaPv
set_option linter.unusedVariables false
set_option linter.unusedSimpArgs false
namespace Go.Proofs.Ytemjlmeakkknbaa
open Go.RowKit

theorem take_eq_step {l m : List Int} {k : Nat} (h : l.take k = m.take k) (hk : k < l.length) (hm : k < m.length) (e : l.getD k 0 = m.getD k 0) : l.take (k + 1) = m.take (k + 1) := by
  rw [List.take_add_one, List.take_add_one, h, List.getElem?_eq_getElem hk, List.getElem?_eq_getElem hm]
  rw [List.getD_eq_getElem?_getD, List.getD_eq_getElem?_getD, List.getElem?_eq_getElem hk, List.getElem?_eq_getElem hm] at e
  simp only [Option.getD_some] at e
  rw [e]
set_option maxRecDepth 100000 in
set_option maxHeartbeats 1000000 in
theorem ints_call (a b : Option Addr) (m n c e : Nat) (p q : List Int) (w : World) (hp : p.length = m) (hq : q.length = n) (hs : Src w .i64 a p) (ht : Src w .i64 b q) (hm : m ≤ 1000000) (hn : n ≤ 1000000) :
    Calls Try.prog 10 #[.slice a m c, .slice b n e] w fun r w' => r = .returned (.bool (decide (p = q))) ∧ Below w.heap.size w w' := by
  go_enter Try.func10, Try.ntmps10
  by_cases hmn : m = n
  · subst hmn
    go_wp2_with fail
    go_loopw [5] (fun vi wr => ∃ k : Nat, k ≤ m ∧ vi = .int .i64 k ∧ p.take k = q.take k ∧ Below w.heap.size w wr) (fun vi _ => m - (intOf vi).toNat)
    case atStart => exact ⟨0, by omega, rfl, rfl, Below.refl _ _⟩
    case round =>
      obtain ⟨k, hk, rfl, he, hb⟩ := hrel
      have HE := Lib.hid he
      have HB := Lib.hid hb
      clear he hb
      by_cases hlt : k < m
      · obtain ⟨g1, o1, rfl, h1⟩ := (hs.below HB.out).get (j := k) (by omega)
        obtain ⟨g2, o2, rfl, h2⟩ := (ht.below HB.out).get (j := k) (by omega)
        have HST := Lib.hid (take_eq_step HE.out (by omega) (by omega))
        have HNO := Lib.hid (show p = q → p.getD k 0 = q.getD k 0 from fun e => by rw [e])
        generalize p.getD k 0 = X at h1 HST HNO
        generalize q.getD k 0 = Y at h2 HST HNO
        by_cases hxy : X = Y
        · subst hxy
          go_upto_region 6 with fail
          go_quiet (fail)
          go_wp2_with fail
          exact ⟨⟨k + 1, by omega, by go_num, HST.out rfl, HB.out.drewN _⟩, by simp [intOf]; omega⟩
        · have HD := Lib.hid (show decide (p = q) = false from decide_eq_false (fun e => hxy (HNO.out e)))
          go_upto_region 6 with fail
          go_quiet (fail)
          go_wp2_with fail
          go_ret
          exact ⟨by rw [HD.out]; rfl, HB.out.drewN _⟩
      · obtain rfl : k = m := by omega
        have hpq : p = q := by
          have := HE.out
          rwa [List.take_of_length_le (by omega), List.take_of_length_le (by omega)] at this
        have HD := Lib.hid (decide_eq_true hpq)
        clear hpq
        go_wp2_with fail
        go_ret
        exact ⟨by rw [HD.out]; rfl, HB.out⟩
  · have HD := Lib.hid (show decide (p = q) = false from decide_eq_false (fun e => hmn (by rw [← hp, ← hq, e])))
    go_wp2_with fail
    go_ret
    exact ⟨by rw [HD.out]; rfl, Below.refl _ _⟩

/-- What a length adds to Kraft's sum, in units of 2^-15. -/
def kr1 (x : Int) : Int := if 0 < x then ((2 ^ (15 - x.toNat) : Nat) : Int) else 0
def krS (m : List Int) (k : Nat) : Int := sumR k fun s => kr1 (m.getD s 0)
theorem krS_succ (m : List Int) (k : Nat) : krS m (k + 1) = krS m k + kr1 (m.getD k 0) := rfl
theorem kr1_bd (x : Int) : 0 ≤ kr1 x ∧ kr1 x ≤ 32768 := by
  unfold kr1
  split
  · have : 2 ^ (15 - x.toNat) ≤ 32768 := Nat.pow_le_pow_right (n := 2) (i := 15 - x.toNat) (j := 15) (by omega) (by omega)
    generalize 2 ^ (15 - x.toNat) = y at this ⊢
    omega
  · omega
theorem krS_bd (m : List Int) (k : Nat) : 0 ≤ krS m k ∧ krS m k ≤ 32768 * k := by
  induction k with
  | zero => exact ⟨Int.le_refl _, Int.le_refl _⟩
  | succ k ih =>
    have := kr1_bd (m.getD k 0)
    rw [krS_succ]
    omega
theorem kr1_pos {x : Int} (h : 0 < x) (h15 : x ≤ 15) : kr1 x = ((2 ^ (15 - x).toNat : Nat) : Int) := by
  unfold kr1
  rw [if_pos h]
  congr 2
  omega

set_option maxRecDepth 100000 in
set_option maxHeartbeats 1000000 in
theorem sum_call (m : List Int) (hm : Lng m) (h15 : ∀ k, m.getD k 0 ≤ 15) (w : World) :
    Calls Try.prog 19 #[.agg (lg m)] w fun e w' => e = .returned (.int .i64 (krS m 258)) ∧ Below w.heap.size w w' := by
  go_enter Try.func19, Try.ntmps19
  go_wp2_with fail
  have hg := heap_alloc_last w (.cells (lg m) 25)
  have hb := (Below.refl w.heap.size w).alloc (Nat.le_refl _) (.cells (lg m) 25)
  generalize w.alloc (.cells (lg m) 25) = w1 at hg hb ⊢
  have HB := Lib.hid hb
  clear hb
  go_loopw [3, 4] (fun s i wr => ∃ k : Nat, k ≤ 258 ∧ i = .int .i64 k ∧ s = .int .i64 (krS m k) ∧ wr = w1) (fun _ i _ => 258 - (intOf i).toNat)
  case atStart => exact ⟨0, by omega, rfl, rfl, rfl⟩
  case round =>
    obtain ⟨k, hk, rfl, rfl, rfl⟩ := hrel
    by_cases hlt : k < 258
    · have hcl := lg_cell hg hm k hlt
      have hbm := hm.bd k
      have h1 := h15 k
      have hs := krS_bd m k
      have HT := Lib.hid (krS_succ m k)
      generalize m.getD k 0 = M at hcl hbm h1 HT
      by_cases h0 : 0 < M
      · have hk1 := kr1_bd M
        have HK := Lib.hid (kr1_pos h0 h1)
        generalize kr1 M = X at HT hk1 HK
        generalize krS m k = R at hs HT ⊢
        go_wp2_with fail
        have hx : wrap64 (2 ^ (15 - M).toNat) = X := by
          have e : ((2 : Int) ^ (15 - M).toNat) = X := by rw [HK.out]; simp
          rw [e]
          unfold wrap64
          omega
        have hx2 : wrap64 (R + X) = R + X := by unfold wrap64; omega
        rw [hx, hx2, ← HT.out]
        exact ⟨⟨k + 1, by omega, by go_num, rfl, by trivial⟩, by simp [intOf]; omega⟩
      · have HK := Lib.hid (show kr1 M = 0 from if_neg h0)
        generalize krS m k = R at hs HT ⊢
        go_wp2_with fail
        exact ⟨⟨k + 1, by omega, by go_num, by rw [HT.out, HK.out, Int.add_zero], by trivial⟩, by simp [intOf]; omega⟩
    · obtain rfl : k = 258 := by omega
      have hs := krS_bd m 258
      obtain ⟨R, hR⟩ : ∃ R, R = krS m 258 := ⟨_, rfl⟩
      have HR := Lib.hid hR
      rw [← hR] at hs ⊢
      clear hR
      go_wp2_with fail
      go_ret
      exact ⟨by rw [← HR.out]; rfl, HB.out⟩
end Go.Proofs.Ytemjlmeakkknbaa
