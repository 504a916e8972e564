/- The reference's Valid; Sum of both. -/
import Derived.Test.YtlbgnichgjancaaHg
set_option linter.unusedVariables false
set_option linter.unusedSimpArgs false
namespace Go.Proofs.Ytlbgnichgjancaa
open Go.RowKit

theorem vt_at (l : List Int) (h : l.length = 258) : VT l ↔ ∀ i, i < 258 → 0 ≤ l.getD i 0 ∧ l.getD i 0 ≤ 2147483647 := by
  constructor
  · intro hv i _
    exact hv.get i
  · intro hv z hz
    obtain ⟨i, hi, rfl⟩ := List.getElem_of_mem hz
    have := hv i (by omega)
    simpa [List.getD_eq_getElem?_getD, hi] using this
theorem vt_no {l : List Int} (h : l.length = 258) (i : Nat) (hi : i < 258) (hn : l.getD i 0 < 0 ∨ 2147483647 < l.getD i 0) : decide (VT l) = false := by
  rw [decide_eq_false_iff_not]
  intro hv
  have := hv.get i
  omega

set_option maxRecDepth 100000 in
set_option maxHeartbeats 1000000 in
theorem rvalid_call (l : List Int) (h : Tal l) (w : World) :
    Calls Try.prog 13 #[.agg (tl l)] w fun e w' => e = .returned (.bool (decide (VT l))) ∧ Below w.heap.size w w' := by
  go_enter Try.func13, Try.ntmps13
  go_wp2_with fail
  have hg := heap_alloc_last w (.cells (tl l) 23)
  have hb := (Below.refl w.heap.size w).alloc (Nat.le_refl _) (.cells (tl l) 23)
  generalize w.alloc (.cells (tl l) 23) = w1 at hg hb ⊢
  have HB := Lib.hid hb
  clear hb
  go_loopw [3] (fun i wr => ∃ k : Nat, k ≤ 258 ∧ i = .int .i64 k ∧ wr = w1 ∧ ∀ j, j < k → 0 ≤ l.getD j 0 ∧ l.getD j 0 ≤ 2147483647) (fun i _ => 258 - (intOf i).toNat)
  case atStart => exact ⟨0, by omega, rfl, rfl, fun j hj => by omega⟩
  case round =>
    obtain ⟨k, hk, rfl, rfl, hv⟩ := hrel
    have HV := Lib.hid hv
    clear hv
    by_cases hlt : k < 258
    · have hcl := tl_cell hg h k hlt
      have hbd := h.bd k
      have hno := vt_no (l := l) h.1 k hlt
      have HN := Lib.hid hno
      have HK := Lib.hid (show ∀ (h1 : 0 ≤ l.getD k 0) (h2 : l.getD k 0 ≤ 2147483647), ∀ j, j < k + 1 → 0 ≤ l.getD j 0 ∧ l.getD j 0 ≤ 2147483647 from fun h1 h2 j hj => by
        by_cases hjk : j = k
        · subst hjk; exact ⟨h1, h2⟩
        · exact HV.out j (by omega))
      clear hno
      generalize l.getD k 0 = V at hcl hbd HN HK
      by_cases h1 : V < 0
      · go_wp2_with fail
        go_ret
        exact ⟨by rw [HN.out (.inl h1)]; rfl, HB.out⟩
      · by_cases h2 : 2147483647 < V
        · go_wp2_with fail
          go_ret
          exact ⟨by rw [HN.out (.inr h2)]; rfl, HB.out⟩
        · go_wp2_with fail
          exact ⟨⟨k + 1, by omega, by go_num, by trivial, HK.out (by omega) (by omega)⟩, by simp [intOf]; omega⟩
    · obtain rfl : k = 258 := by omega
      have hd : decide (VT l) = true := by
        rw [decide_eq_true_eq, vt_at l h.1]
        exact HV.out
      go_wp2_with fail
      go_ret
      exact ⟨by rw [hd]; rfl, HB.out⟩

/-! Sum. -/
theorem sum_take (l : List Int) (hv : VT l) (k : Nat) : 0 ≤ (l.take k).sum ∧ (l.take k).sum ≤ 2147483647 * k := by
  induction k with
  | zero => simp
  | succ k ih =>
    by_cases hk : k < l.length
    · rw [List.take_add_one, List.getElem?_eq_getElem hk]
      simp only [Option.toList_some, List.sum_append, List.sum_cons, List.sum_nil]
      have := hv _ (List.getElem_mem hk)
      omega
    · rw [List.take_of_length_le (by omega)] at ih ⊢
      omega
theorem sum_step (l : List Int) (k : Nat) (hk : k < l.length) : (l.take k).sum + l.getD k 0 = (l.take (k + 1)).sum := by
  have e : l.getD k 0 = l[k] := by simp [List.getD_eq_getElem?_getD, hk]
  rw [e, List.take_add_one, List.getElem?_eq_getElem hk, List.sum_append]
  simp only [Option.toList_some, List.sum_cons, List.sum_nil, Int.add_zero]
/-- The sum, or 0. -/
def sumV (l : List Int) : Int := if VT l then l.sum else 0

set_option maxRecDepth 100000 in
set_option maxHeartbeats 1000000 in
theorem sum_call (l : List Int) (h : Tal l) (w : World) :
    Calls Try.prog 14 #[.agg (tl l)] w fun e w' => e = .returned (.int .i64 (sumV l)) ∧ Below w.heap.size w w' := by
  go_enter Try.func14, Try.ntmps14
  go_upto_region 1 with fail
  have hg := heap_alloc_last w (.cells (tl l) 23)
  have hb := (Below.refl w.heap.size w).alloc (Nat.le_refl _) (.cells (tl l) 23)
  generalize w.alloc (.cells (tl l) 23) = w1 at hg hb ⊢
  have HB := Lib.hid hb
  clear hb
  by_cases hv : VT l
  · have hS : sumV l = l.sum := if_pos hv
    have hvc := valid_call l h w1
    rw [decide_eq_true hv] at hvc
    go_upto_region 4 with (first
      | (refine wpList_load_row rfl 23 _ rfl w.heap.size rfl 23 (tl l) (0, 0) _ hg Try.underlying23 rfl (talIk h) ?_)
      | (refine hvc.mono ?_; rintro e w2 ⟨rfl, hb2⟩))
    have hg2 := heap_on hb2 hg
    have HB2 := Lib.hid (HB.out.trans (hb2.mono HB.out.size))
    clear hb2 hvc HB
    go_wp2_with (refine wpList_load_row rfl 23 _ rfl w.heap.size rfl 23 (tl l) (0, 0) _ hg2 Try.underlying23 rfl (talIk h) ?_)
    go_loopw [3, 10] (fun s i wr => ∃ k : Nat, k ≤ 258 ∧ i = .int .i64 k ∧ wr = w2 ∧ s = .int .i64 (l.take k).sum) (fun _ i _ => 258 - (intOf i).toNat)
    case atStart => exact ⟨0, by omega, rfl, rfl, rfl⟩
    case round =>
      obtain ⟨k, hk, rfl, rfl, rfl⟩ := hrel
      by_cases hlt : k < 258
      · have hix := fun w => run_index_tal w h k hlt
        have hbd := hv.get k
        have hs := sum_take l hv k
        have HS := Lib.hid (sum_step l k (by rw [h.1]; exact hlt))
        generalize l.getD k 0 = V at hix hbd HS
        generalize (l.take k).sum = S at hs HS ⊢
        go_wp2_with fail
        exact ⟨⟨k + 1, by omega, by go_num, by trivial, by rw [← HS.out]⟩, by simp [intOf]; omega⟩
      · obtain rfl : k = 258 := by omega
        have ht : (l.take 258).sum = l.sum := by rw [List.take_of_length_le (by rw [h.1]; exact Nat.le_refl _)]
        rw [ht]
        have HT := Lib.hid hS
        clear hS ht
        go_wp2_with fail
        go_ret
        exact ⟨by rw [HT.out]; rfl, HB2.out⟩
  · have hS : sumV l = 0 := if_neg hv
    have HS0 := Lib.hid hS
    clear hS
    have hvc := valid_call l h w1
    rw [decide_eq_false hv] at hvc
    go_wp2_with (first
      | (refine wpList_load_row rfl 23 _ rfl w.heap.size rfl 23 (tl l) (0, 0) _ hg Try.underlying23 rfl (talIk h) ?_)
      | (refine hvc.mono ?_; rintro e w2 ⟨rfl, hb2⟩))
    go_ret
    exact ⟨by rw [HS0.out]; rfl, HB.out.trans (hb2.mono HB.out.size)⟩

set_option maxRecDepth 100000 in
set_option maxHeartbeats 1000000 in
theorem rsum_call (l : List Int) (h : Tal l) (w : World) :
    Calls Try.prog 15 #[.agg (tl l)] w fun e w' => e = .returned (.int .i64 (sumV l)) ∧ Below w.heap.size w w' := by
  go_enter Try.func15, Try.ntmps15
  go_wp2_with fail
  have hg := heap_alloc_last w (.cells (tl l) 23)
  have hb := (Below.refl w.heap.size w).alloc (Nat.le_refl _) (.cells (tl l) 23)
  generalize w.alloc (.cells (tl l) 23) = w1 at hg hb ⊢
  by_cases hv : VT l
  · have hS : sumV l = l.sum := if_pos hv
    have hvc := fun w => rvalid_call l h w
    rw [decide_eq_true hv] at hvc
    go_loopw [3, 4] (fun s i wr => ∃ k : Nat, k ≤ 258 ∧ i = .int .i64 k ∧ s = .int .i64 (l.take k).sum ∧ wr.heap[w.heap.size]? = some (.cells (tl l) 23 (0, 0)) ∧ Below w.heap.size w wr) (fun _ i _ => 258 - (intOf i).toNat)
    case atStart => exact ⟨0, by omega, rfl, rfl, hg, hb⟩
    case round =>
      obtain ⟨k, hk, rfl, rfl, hg1, hb1⟩ := hrel
      have HB1 := Lib.hid hb1
      clear hb1
      by_cases hlt : k < 258
      · have hbd := hv.get k
        have hs := sum_take l hv k
        have HS := Lib.hid (sum_step l k (by rw [h.1]; exact hlt))
        have hcl := fun (w' : World) (hg2 : w'.heap[w.heap.size]? = some (.cells (tl l) 23 (0, 0))) => tl_cell hg2 h k hlt
        generalize l.getD k 0 = V at hcl hbd HS
        generalize (l.take k).sum = S at hs HS ⊢
        have HC := Lib.hid hcl
        clear hcl
        go_wp2_with (first
          | (refine wpList_load_row_g 2 true rfl 7 rfl _ rfl (decide_eq_true (by omega)) 23 _ rfl w.heap.size rfl 23 (tl l) (0, 0) _ hg1 Try.underlying23 rfl (talIk h) ?_)
          | (refine (hvc _).mono ?_; rintro e w2 ⟨rfl, hb2⟩
             have hg2 := heap_on hb2 hg1
             have hcl := HC.out w2 hg2
             have HB2 := Lib.hid (HB1.out.trans (hb2.mono HB1.out.size))
             clear hb2))
        exact ⟨⟨k + 1, by omega, by go_num, by rw [← HS.out], hg2, HB2.out⟩, by simp [intOf]; omega⟩
      · obtain rfl : k = 258 := by omega
        have ht : (l.take 258).sum = l.sum := by rw [List.take_of_length_le (by rw [h.1]; exact Nat.le_refl _)]
        rw [ht]
        have HT := Lib.hid hS
        clear hS ht
        go_wp2_with fail
        go_ret
        exact ⟨by rw [HT.out]; rfl, HB1.out⟩
  · have hS : sumV l = 0 := if_neg hv
    have HS0 := Lib.hid hS
    clear hS
    have hvc := rvalid_call l h w1
    rw [decide_eq_false hv] at hvc
    have HB := Lib.hid hb
    clear hb
    go_loopw [3, 4] (fun s i wr => i = .int .i64 0 ∧ s = .int .i64 0 ∧ wr = w1) (fun _ i _ => 0)
    case atStart => exact ⟨rfl, rfl, rfl⟩
    case round =>
      obtain ⟨rfl, rfl, rfl⟩ := hrel
      go_wp2_with (first
        | (refine wpList_load_row_g 2 true rfl 7 rfl _ rfl rfl 23 _ rfl w.heap.size rfl 23 (tl l) (0, 0) _ hg Try.underlying23 rfl (talIk h) ?_)
        | (refine hvc.mono ?_; rintro e w2 ⟨rfl, hb2⟩))
      go_ret
      exact ⟨by rw [HS0.out]; rfl, HB.out.trans (hb2.mono HB.out.size)⟩
end Go.Proofs.Ytlbgnichgjancaa
