/- Law HistogramOrder: too many numbers; a number that is no symbol. -/
import Derived.Test.YtlbgnichgjancaaWk
set_option linter.unusedVariables false
set_option linter.unusedSimpArgs false
namespace Go.Proofs.Ytlbgnichgjancaa
open Go.RowKit

theorem order_out (sp : Option Addr) (n c : Nat) (i k at_ : Int) (w : World) (hn : 300 < n) (h63 : n ≤ 9223372036854775807) :
    Calls Try.prog 4 #[.slice sp n c, .int .i64 i, .int .i64 k, .int .i64 at_] w fun e w' => e = .returned (.bool true) ∧ Below w.heap.size w w' := by
  go_enter Try.func4, Try.ntmps4
  go_wp2_with (refine (wakes_call _).mono ?_; rintro e w7 ⟨rfl, hb7⟩)
  go_ret
  exact ⟨rfl, hb7⟩

theorem zT_vt : VT zT := fun z hz => by rw [List.eq_of_mem_replicate hz]; omega
theorem zT_sum : zT.sum = 0 := by decide +kernel
theorem addN_z_vt (q : List Int) (hq : q.length ≤ 1000000) : VT (addN zT q) := by
  rw [vt_at _ (by rw [addN_length]; exact zT_tal.1)]
  intro i hi
  rw [addN_get _ _ i (by rw [zT_tal.1]; exact hi), zT_get]
  have := cntN_le q i
  omega
theorem z_ok (q : List Int) (hq : q.length ≤ 1000000) : addOk zT q ↔ Sy q := ⟨fun h => h.2.1, fun h => ⟨zT_vt, h, addN_z_vt q hq⟩⟩
theorem sy_no {q : List Int} {k : Nat} (hk : k < q.length) (h : ¬ (0 ≤ q.getD k 0 ∧ q.getD k 0 < 258)) : ¬ Sy (q.take (k + 1)) := fun hs => h (by
  have := hs (q.getD k 0) (by rw [take_step q k hk]; simp)
  exact this)
theorem sy_before {q : List Int} {k : Nat} (h : ¬ Sy (q.take k)) : ¬ Sy (q.take (k + 1)) := fun hs => h (fun z hz => hs z ((List.take_prefix_take_left (by omega)).subset hz))

set_option maxRecDepth 100000 in
set_option maxHeartbeats 2000000 in
theorem order_no (sp : Option Addr) (n c : Nat) (i k at_ : Int) (w : World) (q : List Int) (hl : q.length = n) (hs : Src w .i64 sp q) (hn : n ≤ 300) (hq : ¬ Sy q) :
    Calls Try.prog 4 #[.slice sp n c, .int .i64 i, .int .i64 k, .int .i64 at_] w fun e w' => e = .returned (.bool true) ∧ Below w.heap.size w w' := by
  have hof := of_call sp n c q w hl hs (by omega)
  have ho : ¬ addOk zT q := fun h => hq ((z_ok q (by omega)).1 h)
  rw [(add_no ho).1, (add_no ho).2] at hof
  have HL := Lib.hid hl
  have HS := Lib.hid hs
  have HQ := Lib.hid hq
  clear hl hs hq ho
  have hz := talZ
  go_enter Try.func4, Try.ntmps4
  go_wp2_with fail
  refine hof.mono ?_
  rintro e w1 ⟨rfl, hb1⟩
  have HB1 := Lib.hid hb1
  clear hb1 hof
  go_upto_region 4 with (refine wpList_store_row rfl 23 _ _ rfl w1.heap.size (tl zT) rfl rfl 23 (tl zT) (heap_alloc_last w1 _) (talIk zT_tal) rfl (tl_all _) ?_)
  rw [World.setRow_alloc_new]
  have hn2 := heap_alloc_last w1 (.cells (tl zT) 23)
  have hl2 := below_al w1 (.cells (tl zT) 23)
  generalize w1.alloc (.cells (tl zT) 23) = w2 at hn2 hl2 ⊢
  have HB2 := Lib.hid (HB1.out.trans (hl2.mono HB1.out.size))
  have HG2 := Lib.hid hn2
  clear hl2 hn2 HB1
  go_wp2_with fail
  go_loopw [11, 12] (fun b j wr => ∃ k : Nat, k ≤ n ∧ j = .int .i64 k ∧ b = .bool (decide (Sy (q.take k))) ∧ wr = w2) (fun _ j _ => n - (intOf j).toNat)
  case atStart => exact ⟨0, by omega, rfl, rfl, rfl⟩
  case round =>
    obtain ⟨k, hk, rfl, rfl, hwr⟩ := hrel
    subst hwr
    by_cases hlt : k < n
    · obtain ⟨g, o, rfl, hc⟩ := (HS.out.below HB2.out).get (j := k) (by rw [HL.out]; exact hlt)
      by_cases hsy : Sy (q.take k)
      · rw [decide_eq_true hsy]
        by_cases hz1 : 0 ≤ q.getD k 0 ∧ q.getD k 0 < 258
        · have HD := Lib.hid (decide_eq_true (sy_step (by rw [HL.out]; exact hlt) hsy hz1))
          generalize q.getD k 0 = Z at hc hz1
          obtain ⟨z1, z2⟩ := hz1
          have e1 : decide ((0 : Int) ≤ Z) = true := decide_eq_true z1
          go_wp2_with fail
          exact ⟨⟨k + 1, by omega, by go_num, by rw [HD.out], by trivial⟩, by simp [intOf]; omega⟩
        · have HD := Lib.hid (decide_eq_false (sy_no (by rw [HL.out]; exact hlt) hz1))
          generalize q.getD k 0 = Z at hc hz1
          by_cases z1 : 0 ≤ Z
          · have z2 : ¬ Z < 258 := fun h => hz1 ⟨z1, h⟩
            have e1 : decide ((0 : Int) ≤ Z) = true := decide_eq_true z1
            go_wp2_with fail
            exact ⟨⟨k + 1, by omega, by go_num, by rw [HD.out], by trivial⟩, by simp [intOf]; omega⟩
          · have e1 : decide ((0 : Int) ≤ Z) = false := decide_eq_false z1
            go_wp2_with fail
            exact ⟨⟨k + 1, by omega, by go_num, by rw [HD.out], by trivial⟩, by simp [intOf]; omega⟩
      · have HD := Lib.hid (decide_eq_false (sy_before (k := k) hsy))
        rw [decide_eq_false hsy]
        go_wp2_with fail
        exact ⟨⟨k + 1, by omega, by go_num, by rw [HD.out], by trivial⟩, by simp [intOf]; omega⟩
    · obtain rfl : k = n := by omega
      have hsy : decide (Sy (q.take k)) = false := decide_eq_false (by rw [List.take_of_length_le (by rw [HL.out]; exact Nat.le_refl _)]; exact HQ.out)
      rw [hsy]
      have hn2 := HG2.out
      have heq := fun w => run_eqi_tal w zT_tal zT_tal
      rw [decide_eq_true rfl] at heq
      clear hsy
      go_wp2_with (refine wpList_load_row_g 6 true rfl 59 rfl _ rfl rfl 23 _ rfl w1.heap.size rfl 23 (tl zT) (0, 0) _ hn2 Try.underlying23 rfl (talIk zT_tal) ?_)
      refine (wakes_call _).mono ?_
      rintro e w7 ⟨rfl, hb7⟩
      have HB7 := Lib.hid (HB2.out.trans (hb7.mono HB2.out.size))
      clear hb7
      go_wp2_with fail
      go_ret
      exact ⟨rfl, HB7.out⟩
end Go.Proofs.Ytlbgnichgjancaa
