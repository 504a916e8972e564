/- Law KraftPairs. -/
import Derived.Test.YtcekjibkifdchaaKrK
import Derived.Test.YtcekjibkifdchaaKrM
import Derived.Test.YtcekjibkifdchaaOl
set_option linter.unusedVariables false
set_option linter.unusedSimpArgs false
namespace Go.Proofs.Ytcekjibkifdchaa
open Go.RowKit

set_option maxRecDepth 100000 in
set_option maxHeartbeats 2000000 in
theorem pairs_no (l : List Int) (hl : Lng l) (h : ks l ≠ 32768) (w : World) :
    Calls Try.prog 5 #[.agg (lg l)] w fun e w' => e = .returned (.bool true) ∧ Below w.heap.size w w' := by
  have hwk := wakes_call
  have hkL := fun w => complete_call l hl w
  have htL := fun w => table_call l hl w
  rw [decide_eq_false h] at hkL
  have ht : tableV l = false := by rw [tableV, decide_eq_false h, Bool.false_and]
  rw [ht] at htL
  clear ht h
  go_enter Try.func5, Try.ntmps5
  go_upto_region 1 with fail
  have hb := below_al w (.cells (lg l) 23)
  have hg := heap_alloc_last w (.cells (lg l) 23)
  generalize w.alloc (.cells (lg l) 23) = w1 at hb hg ⊢
  have HB := Lib.hid hb
  clear hb
  go_wp2_with (first
    | (refine wpList_load_row rfl 23 _ rfl w.heap.size rfl 23 (lg l) (0, 0) _ hg Try.underlying23 rfl (lngIk hl) ?_)
    | (with_reducible refine (hkL _).mono ?_
       rintro e z1 ⟨rfl, hb⟩
       replace HB := Lib.hid (HB.out.trans (hb.mono HB.out.size))
       replace hg := heap_on hb hg
       clear hb hkL)
    | (with_reducible refine (htL _).mono ?_
       rintro e z2 ⟨rfl, hb⟩
       replace HB := Lib.hid (HB.out.trans (hb.mono HB.out.size))
       clear hb htL)
    | (with_reducible refine (hwk _).mono ?_
       rintro e z3 ⟨rfl, hb⟩))
  go_ret
  exact ⟨rfl, HB.out.trans (hb.mono HB.out.size)⟩

set_option maxRecDepth 100000 in
set_option maxHeartbeats 2000000 in
theorem pairs_yes (l : List Int) (hl : Lng l) (h : ks l = 32768) (w : World) :
    Calls Try.prog 5 #[.agg (lg l)] w fun e w' => e = .returned (.bool true) ∧ Below w.heap.size w w' := by
  have hzX := sxtZ
  have hwk := wakes_call
  have hkL := fun w => complete_call l hl w
  have hfL := fun w => fits_call l hl w
  rw [decide_eq_true h] at hkL
  rw [decide_eq_true (show ks l ≤ 32768 by omega)] at hfL
  have hcL := fun w => counts_call l hl w
  have hN := cntT_sxt l 258 (by omega)
  have HEV := Lib.hid (even_last hl h)
  have HSO := Lib.hid (some_len hl h)
  have HSW := Lib.hid (ccS_whole hl h)
  have HSB := Lib.hid (ccS_bd hl)
  have HGT := Lib.hid (show ∀ i, i < 16 → (cntT l 258).getD i 0 = cc l i 258 from fun i hi => row16_get (fun i => cc l i 258) i hi)
  generalize cntT l 258 = c at hcL hN HGT
  clear h
  go_enter Try.func5, Try.ntmps5
  go_upto_region 1 with fail
  have hb := below_al w (.cells (lg l) 23)
  have hg := heap_alloc_last w (.cells (lg l) 23)
  generalize w.alloc (.cells (lg l) 23) = w1 at hb hg ⊢
  have HB := Lib.hid hb
  clear hb
  go_upto_region 4 with (first
    | (refine wpList_load_row rfl 23 _ rfl w.heap.size rfl 23 (lg l) (0, 0) _ hg Try.underlying23 rfl (lngIk hl) ?_)
    | (with_reducible refine (hkL _).mono ?_
       rintro e z1 ⟨rfl, hb⟩
       replace HB := Lib.hid (HB.out.trans (hb.mono HB.out.size))
       replace hg := heap_on hb hg
       clear hb hkL)
    | (with_reducible refine (hcL _).mono ?_
       rintro e z2 ⟨rfl, hb⟩
       replace HB := Lib.hid (HB.out.trans (hb.mono HB.out.size))
       replace hg := heap_on hb hg
       clear hb hcL)
    | (refine wpList_store_row rfl 30 _ _ rfl z2.heap.size (xl c) rfl rfl 30 (xl zX) (heap_alloc_last z2 _) (sxtIk hN) (by rw [xl_size zX_sxt, xl_size hN]) (xl_all _) ?_))
  rw [World.setRow_alloc_new]
  have hbx := below_al z2 (.cells (xl c) 30)
  have hgc := heap_alloc_last z2 (.cells (xl c) 30)
  replace hg := heap_on hbx hg
  replace HB := Lib.hid (HB.out.trans (hbx.mono HB.out.size))
  generalize z2.alloc (.cells (xl c) 30) = z3 at hbx hgc hg HB ⊢
  simp only [Act.put]
  clear hbx hzX
  have HC := Lib.hid (show ∀ i : Nat, i < 16 → z3.cell? ⟨z2.heap.size, i, none⟩ = some (.int .i64 (cc l i 258)) from fun i hi => by rw [← HGT.out i hi]; exact xl_cell hgc hN i hi)
  clear hgc
  go_upto_region 6 with fail
  go_loopw [4, 5] (fun v4 v5 wr => ∃ n : Nat, n ≤ 16 ∧ v5 = .int .i64 n ∧ v4 = .int .i64 (ccS l n) ∧ wr = z3) (fun _ v5 _ => 16 - (intOf v5).toNat)
  case atStart => exact ⟨0, by omega, rfl, rfl, rfl⟩
  case round =>
    obtain ⟨n, hn, rfl, rfl, rfl⟩ := hrel
    by_cases hlt : n < 16
    · have hcl := HC.out n hlt
      have hs := HSB.out n
      have hc := cc_bd l n 258
      have HS := Lib.hid (show ccS l n + cc l n 258 = ccS l (n + 1) from rfl)
      generalize cc l n 258 = X at hcl hc HS
      generalize ccS l n = S at hs HS ⊢
      go_wp2_with fail
      exact ⟨⟨n + 1, by omega, by go_num, by rw [← HS.out], by trivial⟩, by simp [intOf]; omega⟩
    · obtain rfl : n = 16 := by omega
      rw [HSW.out]
      go_upto_region 10 with fail
      go_loopw [6] (fun v6 wy => ∃ n : Nat, n ≤ 15 ∧ v6 = .int .i64 n ∧ wy = wr ∧ ∀ j : Nat, n < j → j ≤ 15 → cc l j 258 = 0) (fun v6 _ => (intOf v6).toNat)
      case atStart => exact ⟨15, by omega, rfl, rfl, fun j h1 h2 => by omega⟩
      case round =>
        obtain ⟨n, hn, rfl, rfl, hz⟩ := hrel
        have HZ := Lib.hid hz
        clear hz
        by_cases hn0 : n = 0
        · subst hn0
          exact (HSO.out (fun j h1 h2 => HZ.out j h1 h2)).elim
        · have hcl := HC.out n (by omega)
          have hc := cc_bd l n 258
          have HE := Lib.hid (HEV.out n (by omega) hn HZ.out)
          have HNX := Lib.hid (show cc l n 258 = 0 → ∀ j : Nat, n - 1 < j → j ≤ 15 → cc l j 258 = 0 from fun h0 j h1 h2 => by
            by_cases e : j = n
            · rw [e]; exact h0
            · exact HZ.out j (by omega) h2)
          generalize cc l n 258 = X at hcl hc HE HNX
          by_cases hX : X = 0
          · subst hX
            go_wp2_with fail
            exact ⟨⟨n - 1, by omega, by go_num, by trivial, HNX.out rfl⟩, by simp [intOf]; omega⟩
          · obtain ⟨m, hm⟩ := HE.out
            have hev : X % 2 = 0 := by omega
            have hev2 : Int.tmod X 2 = 0 := by rw [Int.tmod_eq_emod_of_nonneg hc.1]; exact hev
            have hX0 : 0 < X := by omega
            clear HE hm
            go_wp2_with (first
              | (refine wpList_load_row_g 9 true rfl 44 rfl _ rfl rfl 23 _ rfl w.heap.size rfl 23 (lg l) (0, 0) _ hg Try.underlying23 rfl (lngIk hl) ?_)
              | (with_reducible refine (hfL _).mono ?_
                 rintro e y1 ⟨rfl, hb⟩
                 replace HB := Lib.hid (HB.out.trans (hb.mono HB.out.size))
                 clear hb hfL)
              | (with_reducible refine (hwk _).mono ?_
                 rintro e y2 ⟨rfl, hb⟩))
            go_ret
            exact ⟨rfl, HB.out.trans (hb.mono HB.out.size)⟩
theorem pairs_call (l : List Int) (hl : Lng l) (w : World) :
    Calls Try.prog 5 #[.agg (lg l)] w fun e w' => e = .returned (.bool true) ∧ Below w.heap.size w w' := by
  by_cases h : ks l = 32768
  · exact pairs_yes l hl h w
  · exact pairs_no l hl h w
end Go.Proofs.Ytcekjibkifdchaa
