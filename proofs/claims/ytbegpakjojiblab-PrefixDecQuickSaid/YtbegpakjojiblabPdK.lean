/- winepressref08: Share, Sum, Table (after XKt, over XCnK's weights). -/
import Derived.Test.YtbegpakjojiblabPdN
import Derived.RegionTactic
import Derived.Deep.RegionHeld3
import Derived.Deep.DeepMust
import Derived.Deep.CutBlock
import Derived.Deep.DeepCutAuto
set_option linter.unusedVariables false
set_option linter.unusedSimpArgs false
namespace Go.Proofs.Ytbegpakjojiblab
open Go.RowKit

/-- 32768 halved k times. -/
def hv (k : Nat) : Int := 32768 / 2 ^ k
theorem hv_step (k : Nat) : hv k / 2 = hv (k + 1) := by
  unfold hv
  rw [Int.pow_succ, Int.ediv_ediv_of_nonneg (by exact Int.le_of_lt (Int.pow_pos (by decide)))]
theorem hv_bd (k : Nat) : 0 ≤ hv k ∧ hv k ≤ 32768 := by
  unfold hv
  refine ⟨Int.ediv_nonneg (by decide) (Int.le_of_lt (Int.pow_pos (by decide))), ?_⟩
  exact Int.ediv_le_self _ (by decide)
theorem hv_wt {z : Int} (h1 : ¬ z ≤ 0) (h2 : ¬ 15 < z) : hv z.toNat = wt z := by
  rcases mid_cases h1 h2 with rfl | rfl | rfl | rfl | rfl | rfl | rfl | rfl | rfl | rfl | rfl | rfl | rfl | rfl | rfl <;> decide
theorem hv_quo (k : Nat) : Int.tdiv (hv k) 2 = hv (k + 1) := by
  have := hv_bd k
  rw [Int.tdiv_eq_ediv_of_nonneg this.1, hv_step]

set_option maxRecDepth 100000 in
set_option maxHeartbeats 1000000 in
theorem share_call (z : Int) (h : (Lit.int .u8 z).wf = true) (w : World) :
    Calls Try.prog 20 #[.int .u8 z] w fun e w' => e = .returned (.int .i64 (wt z)) ∧ Below w.heap.size w w' := by
  have hb := bounds_u8 h
  by_cases h0 : z ≤ 0
  · have hw : wt z = 0 := if_pos h0
    have HW := Lib.hid hw
    obtain rfl : z = 0 := by omega
    clear hw
    go_enter Try.func20, Try.ntmps20
    go_wp2_with fail
    go_ret
    exact ⟨by rw [HW.out]; rfl, Below.refl _ _⟩
  · by_cases h1 : 15 < z
    · have hw : wt z = 32769 := by rw [wt, if_neg h0, if_pos h1]
      have HW := Lib.hid hw
      have h2 : z ≠ 0 := by omega
      clear hw
      go_enter Try.func20, Try.ntmps20
      go_wp2_with fail
      go_ret
      exact ⟨by rw [HW.out]; rfl, Below.refl _ _⟩
    · have HW := Lib.hid (hv_wt h0 h1)
      have h2 : z ≠ 0 := by omega
      obtain ⟨n, rfl⟩ : ∃ n : Nat, z = n := ⟨z.toNat, by omega⟩
      have hn : 0 < n ∧ n ≤ 15 := by omega
      go_enter Try.func20, Try.ntmps20
      go_wp2_with fail
      go_loopw [3, 4] (fun v i wr => ∃ k : Nat, k ≤ n ∧ i = .int .u8 k ∧ wr = w ∧ v = .int .i64 (hv k)) (fun _ i _ => n - (intOf i).toNat)
      case atStart => exact ⟨0, by omega, rfl, rfl, rfl⟩
      case round =>
        obtain ⟨k, hk, rfl, rfl, rfl⟩ := hrel
        by_cases hlt : k < n
        · have hs := hv_bd k
          have HS := Lib.hid (hv_step k)
          generalize hv k = S at hs HS ⊢
          go_wp2_with fail
          exact ⟨⟨k + 1, by omega, by go_num, by trivial, by rw [← HS.out]⟩, by simp [intOf]; omega⟩
        · obtain rfl : k = n := by omega
          go_wp2_with fail
          go_ret
          exact ⟨by rw [← HW.out]; rfl, Below.refl _ _⟩

set_option maxRecDepth 100000 in
set_option maxHeartbeats 1000000 in
theorem r8sum_call (l : List Int) (h : Lng l) (w : World) :
    Calls Try.prog 9 #[.agg (lg l)] w fun e w' => e = .returned (.int .i64 (ks l)) ∧ Below w.heap.size w w' := by
  go_enter Try.func9, Try.ntmps9
  go_wp2_with fail
  have hg := heap_alloc_last w (.cells (lg l) 23)
  have hb := (Below.refl w.heap.size w).alloc (Nat.le_refl _) (.cells (lg l) 23)
  generalize w.alloc (.cells (lg l) 23) = w1 at hg hb ⊢
  have HB := Lib.hid hb
  clear hb
  go_loopw [3, 4] (fun s i wr => ∃ k : Nat, k ≤ 258 ∧ i = .int .i64 k ∧ wr.heap[w.heap.size]? = some (.cells (lg l) 23 (0, 0)) ∧ Below w.heap.size w wr ∧ s = .int .i64 (ksT l k)) (fun _ i _ => 258 - (intOf i).toNat)
  case atStart => exact ⟨0, by omega, rfl, hg, HB.out, rfl⟩
  case round =>
    obtain ⟨k, hk, rfl, hg1, hb, rfl⟩ := hrel
    have HBr := Lib.hid hb
    clear hb
    by_cases hlt : k < 258
    · have hcl := lg_cell hg1 h k hlt
      have hc := fun w => share_call (l.getD k 0) (h.get k) w
      have hs := ksT_bd l k
      have HS := Lib.hid (ksT_step l k (by rw [h.1]; exact hlt))
      have hwb := wt_bd (l.getD k 0)
      generalize l.getD k 0 = V at hcl hc HS hwb
      generalize wt V = X at hc HS hwb
      generalize ksT l k = S at hs HS ⊢
      have HG := Lib.hid hg1
      clear hg1 hg
      go_wp2_with (refine (hc _).mono ?_; rintro e w2 ⟨rfl, hb2⟩)
      exact ⟨⟨k + 1, by omega, by go_num, heap_on hb2 HG.out, HBr.out.trans (hb2.mono HBr.out.size), by rw [← HS.out]⟩, by simp [intOf]; omega⟩
    · obtain rfl : k = 258 := by omega
      have HT := Lib.hid (ksT_all l 258 (by rw [h.1]; exact Nat.le_refl _))
      generalize ksT l 258 = S at HT ⊢
      go_wp2_with fail
      go_ret
      exact ⟨by rw [← HT.out]; rfl, HBr.out⟩

set_option maxRecDepth 100000 in
set_option maxHeartbeats 1000000 in
theorem rtable_call (l : List Int) (h : Lng l) (w : World) :
    Calls Try.prog 4 #[.agg (lg l)] w fun e w' => e = .returned (.bool (tableV l)) ∧ Below w.heap.size w w' := by
  have hs := ks_bd h
  go_enter Try.func4, Try.ntmps4
  go_upto_region 1 with fail
  have hg := heap_alloc_last w (.cells (lg l) 23)
  have hb := (Below.refl w.heap.size w).alloc (Nat.le_refl _) (.cells (lg l) 23)
  generalize w.alloc (.cells (lg l) 23) = w1 at hg hb ⊢
  have HB := Lib.hid hb
  have hc := fun w => r8sum_call l h w
  have HV := Lib.hid (show tableV l = (decide (ks l = 32768) && !decide (l.getD 257 0 = 0)) from rfl)
  have hbd := h.bd 257
  have HC := Lib.hid (fun (w' : World) (hg2 : w'.heap[w.heap.size]? = some (.cells (lg l) 23 (0, 0))) => lg_cell hg2 h 257 (by omega))
  generalize l.getD 257 0 = V at HC HV hbd
  generalize ks l = S at hs hc HV ⊢
  clear hb
  by_cases hS : S = 32768
  · subst hS
    go_wp2_with (first
      | (refine wpList_load_row rfl 23 _ rfl w.heap.size rfl 23 (lg l) (0, 0) _ hg Try.underlying23 rfl (lngIk h) ?_)
      | (refine (hc _).mono ?_; rintro e w2 ⟨rfl, hb2⟩
         have hcl := HC.out w2 (heap_on hb2 hg)
         have HB2 := Lib.hid (HB.out.trans (hb2.mono HB.out.size))
         clear hb2 hg))
    go_ret
    exact ⟨by rw [HV.out]; simp; rfl, HB2.out⟩
  · go_wp2_with (first
      | (refine wpList_load_row rfl 23 _ rfl w.heap.size rfl 23 (lg l) (0, 0) _ hg Try.underlying23 rfl (lngIk h) ?_)
      | (refine (hc _).mono ?_; rintro e w2 ⟨rfl, hb2⟩))
    go_ret
    exact ⟨by rw [HV.out]; simp [hS], HB.out.trans (hb2.mono HB.out.size)⟩
end Go.Proofs.Ytbegpakjojiblab
