/- The reference's Sum, Ints; begins. -/
import Derived.Test.YtnpohkaicfcidaaCnC
import Derived.BigQuiet
set_option linter.unusedVariables false
set_option linter.unusedSimpArgs false
namespace Go.Proofs.Ytnpohkaicfcidaa
open Go.RowKit

theorem take_eq_step {l m : List Int} {k : Nat} (h : l.take k = m.take k) (hk : k < l.length) (hm : k < m.length) (e : l.getD k 0 = m.getD k 0) : l.take (k + 1) = m.take (k + 1) := by
  rw [List.take_add_one, List.take_add_one, h, List.getElem?_eq_getElem hk, List.getElem?_eq_getElem hm]
  rw [List.getD_eq_getElem?_getD, List.getD_eq_getElem?_getD, List.getElem?_eq_getElem hk, List.getElem?_eq_getElem hm] at e
  simp only [Option.getD_some] at e
  rw [e]
set_option maxRecDepth 100000 in
set_option maxHeartbeats 1000000 in
theorem ints_call (a b : Option Addr) (m n c e : Nat) (p q : List Int) (w : World) (hp : p.length = m) (hq : q.length = n) (hs : Src w .i64 a p) (ht : Src w .i64 b q) (hm : m ≤ 1000000) (hn : n ≤ 1000000) :
    Calls Try.prog 14 #[.slice a m c, .slice b n e] w fun r w' => r = .returned (.bool (decide (p = q))) ∧ Below w.heap.size w w' := by
  go_enter Try.func14, Try.ntmps14
  by_cases hmn : m = n
  · subst hmn
    go_wp2_with fail
    go_loopw [5] (fun vi wr => ∃ k : Nat, k ≤ m ∧ vi = .int .i64 k ∧ p.take k = q.take k ∧ Below w.heap.size w wr) (fun vi _ => m - (intOf vi).toNat)
    case atStart => exact ⟨0, by omega, rfl, rfl, Below.refl _ _⟩
    case round =>
      obtain ⟨k, hk, rfl, he, hb⟩ := hrel
      have HE := Lib.hid he
      have HB := Lib.hid hb
      clear he hb
      by_cases hlt : k < m
      · obtain ⟨g1, o1, rfl, h1⟩ := (hs.below HB.out).get (j := k) (by omega)
        obtain ⟨g2, o2, rfl, h2⟩ := (ht.below HB.out).get (j := k) (by omega)
        have HST := Lib.hid (take_eq_step HE.out (by omega) (by omega))
        have HNO := Lib.hid (show p = q → p.getD k 0 = q.getD k 0 from fun e => by rw [e])
        generalize p.getD k 0 = X at h1 HST HNO
        generalize q.getD k 0 = Y at h2 HST HNO
        by_cases hxy : X = Y
        · subst hxy
          go_upto_region 6 with fail
          go_quiet (fail)
          go_wp2_with fail
          exact ⟨⟨k + 1, by omega, by go_num, HST.out rfl, HB.out.drewN _⟩, by simp [intOf]; omega⟩
        · have HD := Lib.hid (show decide (p = q) = false from decide_eq_false (fun e => hxy (HNO.out e)))
          go_upto_region 6 with fail
          go_quiet (fail)
          go_wp2_with fail
          go_ret
          exact ⟨by rw [HD.out]; rfl, HB.out.drewN _⟩
      · obtain rfl : k = m := by omega
        have hpq : p = q := by
          have := HE.out
          rwa [List.take_of_length_le (by omega), List.take_of_length_le (by omega)] at this
        have HD := Lib.hid (decide_eq_true hpq)
        clear hpq
        go_wp2_with fail
        go_ret
        exact ⟨by rw [HD.out]; rfl, HB.out⟩
  · have HD := Lib.hid (show decide (p = q) = false from decide_eq_false (fun e => hmn (by rw [← hp, ← hq, e])))
    go_wp2_with fail
    go_ret
    exact ⟨by rw [HD.out]; rfl, Below.refl _ _⟩


/-- What the reference's Sum returns. -/
def rsV (l : List Int) : Int := if (∀ z ∈ l, z ≤ 15) then ks l else 32769
theorem ks_small_all {l : List Int} (h : ks l ≤ 32768) : ∀ z ∈ l, z ≤ 15 := fun z hz => by
  have h1 := wt_le_sum z l hz
  by_cases h2 : 15 < z
  · have : wt z = 32769 := by rw [wt, if_neg (by omega), if_pos h2]
    unfold ks at h
    omega
  · omega
theorem rsV_iff (l : List Int) : rsV l ≤ 32768 ↔ ks l ≤ 32768 := by
  unfold rsV
  split
  · exact Iff.rfl
  · rename_i h
    constructor
    · intro h2; omega
    · intro h2; exact absurd (ks_small_all h2) h
theorem rsV_eq {l : List Int} (h : ks l ≤ 32768) : rsV l = ks l := if_pos (ks_small_all h)
theorem wt_pow {z : Int} (h0 : 0 < z) (h15 : z ≤ 15) : wt z = (2 : Int) ^ (15 - z).toNat := by
  rw [wt, if_neg (by omega), if_neg (by omega)]

set_option maxRecDepth 100000 in
set_option maxHeartbeats 1000000 in
theorem rsum_call (m : List Int) (hm : Lng m) (w : World) :
    Calls Try.prog 35 #[.agg (lg m)] w fun e w' => e = .returned (.int .i64 (rsV m)) ∧ Below w.heap.size w w' := by
  go_enter Try.func35, Try.ntmps35
  go_wp2_with fail
  have hg := heap_alloc_last w (.cells (lg m) 23)
  have hb := (Below.refl w.heap.size w).alloc (Nat.le_refl _) (.cells (lg m) 23)
  generalize w.alloc (.cells (lg m) 23) = w1 at hg hb ⊢
  have HB := Lib.hid hb
  clear hb
  go_loopw [3, 4] (fun s i wr => ∃ k : Nat, k ≤ 258 ∧ i = .int .i64 k ∧ s = .int .i64 (ksT m k) ∧ (∀ z ∈ m.take k, z ≤ 15) ∧ wr = w1) (fun _ i _ => 258 - (intOf i).toNat)
  case atStart => exact ⟨0, by omega, rfl, by rw [ksT_zero], by simp, rfl⟩
  case round =>
    obtain ⟨k, hk, rfl, rfl, hal, rfl⟩ := hrel
    have HAL := Lib.hid hal
    clear hal
    by_cases hlt : k < 258
    · have hcl := lg_cell hg hm k hlt
      have hbm := hm.bd k
      have hs := ksT_bd m k
      have hkl : k < m.length := by rw [hm.1]; exact hlt
      have HT := Lib.hid (ksT_step m k hkl)
      have HN := Lib.hid (show 15 < m.getD k 0 → rsV m = 32769 from fun h => if_neg fun h2 => by
        have hmem : m.getD k 0 ∈ m := by
          rw [List.getD_eq_getElem?_getD, List.getElem?_eq_getElem hkl]
          exact List.getElem_mem hkl
        have := h2 _ hmem
        omega)
      have HNX := Lib.hid (show m.getD k 0 ≤ 15 → ∀ z ∈ m.take (k + 1), z ≤ 15 from fun h z hz => by
        rw [List.take_add_one, List.getElem?_eq_getElem hkl, List.mem_append] at hz
        rcases hz with hz | hz
        · exact HAL.out z hz
        · rw [List.getD_eq_getElem?_getD, List.getElem?_eq_getElem hkl, Option.getD_some] at h
          simp at hz
          omega)
      clear hkl
      generalize m.getD k 0 = M at hcl hbm HT HN HNX
      by_cases h15 : 15 < M
      · have HE := Lib.hid (HN.out h15)
        generalize ksT m k = R at hs HT ⊢
        go_wp2_with fail
        go_ret
        exact ⟨by rw [HE.out]; rfl, HB.out⟩
      · by_cases h0 : 0 < M
        · have hk1 := wt_bd M
          have HK := Lib.hid (wt_pow h0 (by omega))
          have HX := Lib.hid (HNX.out (by omega))
          generalize wt M = X at HT hk1 HK
          generalize ksT m k = R at hs HT ⊢
          go_wp2_with fail
          have hx : wrap64 (2 ^ (15 - M).toNat) = X := by
            rw [← HK.out]
            unfold wrap64
            omega
          have hx2 : wrap64 (R + X) = R + X := by unfold wrap64; omega
          rw [hx, hx2, HT.out]
          exact ⟨⟨k + 1, by omega, by go_num, rfl, HX.out, by trivial⟩, by simp [intOf]; omega⟩
        · have HK := Lib.hid (show wt M = 0 from if_pos (by omega))
          have HX := Lib.hid (HNX.out (by omega))
          generalize ksT m k = R at hs HT ⊢
          go_wp2_with fail
          exact ⟨⟨k + 1, by omega, by go_num, by rw [← HT.out, HK.out, Int.add_zero], HX.out, by trivial⟩, by simp [intOf]; omega⟩
    · obtain rfl : k = 258 := by omega
      have hs := ksT_bd m 258
      have hE : rsV m = ksT m 258 := by
        have h2 := HAL.out
        rw [List.take_of_length_le (by rw [hm.1]; exact Nat.le_refl _)] at h2
        rw [rsV, if_pos h2, ksT_all m 258 (by rw [hm.1]; exact Nat.le_refl _)]
      have HE := Lib.hid hE
      clear hE
      generalize ksT m 258 = R at hs HE ⊢
      go_wp2_with fail
      go_ret
      exact ⟨by rw [HE.out]; rfl, HB.out⟩
end Go.Proofs.Ytnpohkaicfcidaa
