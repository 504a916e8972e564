/- The reference's Valid; Cost of both. -/
import Derived.Test.YtcekjibkifdchaaKr
import Derived.Deep.QuietTactic
import Derived.BigQuiet
set_option linter.unusedVariables false
set_option linter.unusedSimpArgs false
namespace Go.Proofs.Ytcekjibkifdchaa
open Go.RowKit

theorem vt_at (l : List Int) (h : l.length = 258) : VT l ↔ ∀ i, i < 258 → 0 ≤ l.getD i 0 ∧ l.getD i 0 ≤ 2147483647 := by
  constructor
  · intro hv i _
    exact hv.get i
  · intro hv z hz
    obtain ⟨i, hi, rfl⟩ := List.getElem_of_mem hz
    have := hv i (by omega)
    simpa [List.getD_eq_getElem?_getD, hi] using this
theorem vt_no {l : List Int} (h : l.length = 258) (i : Nat) (hi : i < 258) (hn : l.getD i 0 < 0 ∨ 2147483647 < l.getD i 0) : decide (VT l) = false := by
  rw [decide_eq_false_iff_not]
  intro hv
  have := hv.get i
  omega

set_option maxRecDepth 100000 in
set_option maxHeartbeats 1000000 in
theorem rvalid_call (l : List Int) (h : Tal l) (w : World) :
    Calls Try.prog 23 #[.agg (tl l)] w fun e w' => e = .returned (.bool (decide (VT l))) ∧ Below w.heap.size w w' := by
  go_enter Try.func23, Try.ntmps23
  go_wp2_with fail
  have hg := heap_alloc_last w (.cells (tl l) 25)
  have hb := (Below.refl w.heap.size w).alloc (Nat.le_refl _) (.cells (tl l) 25)
  generalize w.alloc (.cells (tl l) 25) = w1 at hg hb ⊢
  have HB := Lib.hid hb
  clear hb
  go_loopw [3] (fun i wr => ∃ k : Nat, k ≤ 258 ∧ i = .int .i64 k ∧ wr = w1 ∧ ∀ j, j < k → 0 ≤ l.getD j 0 ∧ l.getD j 0 ≤ 2147483647) (fun i _ => 258 - (intOf i).toNat)
  case atStart => exact ⟨0, by omega, rfl, rfl, fun j hj => by omega⟩
  case round =>
    obtain ⟨k, hk, rfl, rfl, hv⟩ := hrel
    have HV := Lib.hid hv
    clear hv
    by_cases hlt : k < 258
    · have hcl := tl_cell hg h k hlt
      have hbd := h.bd k
      have hno := vt_no (l := l) h.1 k hlt
      have HN := Lib.hid hno
      have HK := Lib.hid (show ∀ (h1 : 0 ≤ l.getD k 0) (h2 : l.getD k 0 ≤ 2147483647), ∀ j, j < k + 1 → 0 ≤ l.getD j 0 ∧ l.getD j 0 ≤ 2147483647 from fun h1 h2 j hj => by
        by_cases hjk : j = k
        · subst hjk; exact ⟨h1, h2⟩
        · exact HV.out j (by omega))
      clear hno
      generalize l.getD k 0 = V at hcl hbd HN HK
      by_cases h1 : V < 0
      · go_wp2_with fail
        go_ret
        exact ⟨by rw [HN.out (.inl h1)]; rfl, HB.out⟩
      · by_cases h2 : 2147483647 < V
        · go_wp2_with fail
          go_ret
          exact ⟨by rw [HN.out (.inr h2)]; rfl, HB.out⟩
        · go_wp2_with fail
          exact ⟨⟨k + 1, by omega, by go_num, by trivial, HK.out (by omega) (by omega)⟩, by simp [intOf]; omega⟩
    · obtain rfl : k = 258 := by omega
      have hd : decide (VT l) = true := by
        rw [decide_eq_true_eq, vt_at l h.1]
        exact HV.out
      go_wp2_with fail
      go_ret
      exact ⟨by rw [hd]; rfl, HB.out⟩

/-- A sum over the first k. -/
def sumR : Nat → (Nat → Int) → Int
  | 0, _ => 0
  | k + 1, f => sumR k f + f k
/-- The total of the first k symbols. -/
def totR (l m : List Int) (k : Nat) : Int := sumR k fun s => l.getD s 0 * m.getD s 0
theorem totR_succ (l m : List Int) (k : Nat) : totR l m (k + 1) = totR l m k + l.getD k 0 * m.getD k 0 := rfl
theorem tot_one {l m : List Int} (hv : VT l) (hm : Lng m) (k : Nat) : 0 ≤ l.getD k 0 * m.getD k 0 ∧ l.getD k 0 * m.getD k 0 ≤ 547608330240 := by
  have h1 := hv.get k
  have h2 := hm.bd k
  refine ⟨Int.mul_nonneg h1.1 h2.1, ?_⟩
  exact Int.le_trans (Int.mul_le_mul h1.2 h2.2 h2.1 (by omega)) (by omega)
theorem totR_bd {l m : List Int} (hv : VT l) (hm : Lng m) (k : Nat) : 0 ≤ totR l m k ∧ totR l m k ≤ 547608330240 * k := by
  induction k with
  | zero => exact ⟨Int.le_refl _, Int.le_refl _⟩
  | succ k ih =>
    have := tot_one hv hm k
    rw [totR_succ]
    omega
/-- The total, or 0. -/
def totV (l m : List Int) : Int := if VT l then totR l m 258 else 0

set_option maxRecDepth 100000 in
set_option maxHeartbeats 1000000 in
theorem cost_call (l m : List Int) (h : Tal l) (hm : Lng m) (w : World) :
    Calls Try.prog 16 #[.agg (tl l), .agg (lg m)] w fun e w' => e = .returned (.int .i64 (totV l m)) ∧ Below w.heap.size w w' := by
  go_enter Try.func16, Try.ntmps16
  go_upto_region 1 with fail
  have hg := heap_alloc2_old w (.cells (tl l) 25) (.cells (lg m) 23)
  have hg2 := heap_alloc2_new w (.cells (tl l) 25) (.cells (lg m) 23)
  have hb : Below w.heap.size w ((w.alloc (.cells (tl l) 25)).alloc (.cells (lg m) 23)) := ((Below.refl _ _).alloc (Nat.le_refl _) _).alloc (by simp) _
  generalize (w.alloc (.cells (tl l) 25)).alloc (.cells (lg m) 23) = w1 at hg hg2 hb ⊢
  have hvc := valid_call l h w1
  by_cases hv : VT l
  · have HS := Lib.hid (show totV l m = totR l m 258 from if_pos hv)
    rw [decide_eq_true hv] at hvc
    go_upto_region 3 with (first
      | (refine wpList_load_row rfl 25 _ rfl w.heap.size rfl 25 (tl l) (0, 0) _ hg Try.underlying25 rfl (talIk h) ?_)
      | (refine hvc.mono ?_; rintro e w2 ⟨rfl, hb2⟩))
    have hg3 := heap_on hb2 hg
    have hg4 := heap_on hb2 hg2
    have HB2 := Lib.hid (hb.trans (hb2.mono hb.size))
    clear hb2 hvc hb hg hg2
    go_wp2_with (refine wpList_load_row rfl 25 _ rfl w.heap.size rfl 25 (tl l) (0, 0) _ hg3 Try.underlying25 rfl (talIk h) ?_)
    go_loopw [5, 12] (fun s i wr => ∃ k : Nat, k ≤ 258 ∧ i = .int .i64 k ∧ s = .int .i64 (totR l m k) ∧ wr = w2) (fun _ i _ => 258 - (intOf i).toNat)
    case atStart => exact ⟨0, by omega, rfl, rfl, rfl⟩
    case round =>
      obtain ⟨k, hk, rfl, rfl, rfl⟩ := hrel
      by_cases hlt : k < 258
      · have hix := fun w => run_index_tal w h k hlt
        have hcl := lg_cell hg4 hm k hlt
        have hbd := h.bd k
        have hbm := hm.bd k
        have hone := tot_one hv hm k
        have hs := totR_bd hv hm k
        have HT := Lib.hid (totR_succ l m k)
        generalize l.getD k 0 = V at hix hbd hone HT
        generalize m.getD k 0 = M at hcl hbm hone HT
        obtain ⟨T, hT⟩ : ∃ T, T = V * M := ⟨_, rfl⟩
        rw [← hT] at hone HT
        have hw : IntKind.i64.wrap (V * M) = T := by rw [← hT, IntKind.wrap_i64]; omega
        clear hT
        generalize totR l m k = R at hs HT ⊢
        go_wp2_with fail
        exact ⟨⟨k + 1, by omega, by go_num, by rw [HT.out], by trivial⟩, by simp [intOf]; omega⟩
      · obtain rfl : k = 258 := by omega
        have hs := totR_bd hv hm 258
        go_wp2_with fail
        go_ret
        exact ⟨by rw [HS.out]; rfl, HB2.out⟩
  · have HS := Lib.hid (show totV l m = 0 from if_neg hv)
    rw [decide_eq_false hv] at hvc
    go_wp2_with (first
      | (refine wpList_load_row rfl 25 _ rfl w.heap.size rfl 25 (tl l) (0, 0) _ hg Try.underlying25 rfl (talIk h) ?_)
      | (refine hvc.mono ?_; rintro e w2 ⟨rfl, hb2⟩))
    go_ret
    exact ⟨by rw [HS.out]; rfl, hb.trans (hb2.mono hb.size)⟩

set_option maxRecDepth 100000 in
set_option maxHeartbeats 1000000 in
theorem rcost_call (l m : List Int) (h : Tal l) (hm : Lng m) (w : World) :
    Calls Try.prog 17 #[.agg (tl l), .agg (lg m)] w fun e w' => e = .returned (.int .i64 (totV l m)) ∧ Below w.heap.size w w' := by
  go_enter Try.func17, Try.ntmps17
  go_upto_region 1 with fail
  have hg := heap_alloc2_old w (.cells (tl l) 25) (.cells (lg m) 23)
  have hg2 := heap_alloc2_new w (.cells (tl l) 25) (.cells (lg m) 23)
  have hb : Below w.heap.size w ((w.alloc (.cells (tl l) 25)).alloc (.cells (lg m) 23)) := ((Below.refl _ _).alloc (Nat.le_refl _) _).alloc (by simp) _
  generalize (w.alloc (.cells (tl l) 25)).alloc (.cells (lg m) 23) = w1 at hg hg2 hb ⊢
  by_cases hv : VT l
  · have HS := Lib.hid (show totV l m = totR l m 258 from if_pos hv)
    have hvc := fun w => rvalid_call l h w
    rw [decide_eq_true hv] at hvc
    go_wp2_with fail
    go_loopw [5, 6] (fun s i wr => ∃ k : Nat, k ≤ 258 ∧ i = .int .i64 k ∧ s = .int .i64 (totR l m k) ∧ wr.heap[w.heap.size]? = some (.cells (tl l) 25 (0, 0)) ∧ wr.heap[w.heap.size + 1]? = some (.cells (lg m) 23 (0, 0)) ∧ Below w.heap.size w wr) (fun _ i _ => 258 - (intOf i).toNat)
    case atStart => exact ⟨0, by omega, rfl, rfl, hg, hg2, hb⟩
    case round =>
      obtain ⟨k, hk, rfl, rfl, hg1, hg3, hb1⟩ := hrel
      have HB1 := Lib.hid hb1
      clear hb1
      by_cases hlt : k < 258
      · have hcl := fun (w' : World) (hg2 : w'.heap[w.heap.size]? = some (.cells (tl l) 25 (0, 0))) => tl_cell hg2 h k hlt
        have hcm := fun (w' : World) (hg2 : w'.heap[w.heap.size + 1]? = some (.cells (lg m) 23 (0, 0))) => lg_cell hg2 hm k hlt
        have hbd := h.bd k
        have hbm := hm.bd k
        have hone := tot_one hv hm k
        have hs := totR_bd hv hm k
        have HT := Lib.hid (totR_succ l m k)
        generalize l.getD k 0 = V at hcl hbd hone HT
        generalize m.getD k 0 = M at hcm hbm hone HT
        obtain ⟨T, hT⟩ : ∃ T, T = V * M := ⟨_, rfl⟩
        rw [← hT] at hone HT
        have hw : IntKind.i64.wrap (V * M) = T := by rw [← hT, IntKind.wrap_i64]; omega
        clear hT
        generalize totR l m k = R at hs HT ⊢
        have HC := Lib.hid hcl
        have HM := Lib.hid hcm
        clear hcl hcm
        go_upto_region 5 with (first
          | (refine wpList_load_row_g 2 true rfl 9 rfl _ rfl (decide_eq_true (by omega)) 25 _ rfl w.heap.size rfl 25 (tl l) (0, 0) _ hg1 Try.underlying25 rfl (talIk h) ?_)
          | (refine (hvc _).mono ?_; rintro e w2 ⟨rfl, hb2⟩
             have hg4 := heap_on hb2 hg1
             have hg5 := heap_on hb2 hg3
             have hcl := HC.out w2 hg4
             have hcm := HM.out w2 hg5
             have HB2 := Lib.hid (HB1.out.trans (hb2.mono HB1.out.size))
             clear hb2))
        go_quiet (fail)
        go_wp2_with fail
        exact ⟨⟨k + 1, by omega, by go_num, by rw [HT.out], hg4, hg5, HB2.out.drewN _⟩, by simp [intOf]; omega⟩
      · obtain rfl : k = 258 := by omega
        have hs := totR_bd hv hm 258
        have HT := Lib.hid hs
        clear hs
        generalize totR l m 258 = R at HS HT ⊢
        go_wp2_with fail
        go_ret
        exact ⟨by rw [HS.out]; rfl, HB1.out⟩
  · have HS0 := Lib.hid (show totV l m = 0 from if_neg hv)
    have hvc := rvalid_call l h w1
    rw [decide_eq_false hv] at hvc
    have HB := Lib.hid hb
    clear hb
    go_wp2_with fail
    go_loopw [5, 6] (fun s i wr => i = .int .i64 0 ∧ s = .int .i64 0 ∧ wr = w1) (fun _ i _ => 0)
    case atStart => exact ⟨rfl, rfl, rfl⟩
    case round =>
      obtain ⟨rfl, rfl, rfl⟩ := hrel
      go_wp2_with (first
        | (refine wpList_load_row_g 2 true rfl 9 rfl _ rfl rfl 25 _ rfl w.heap.size rfl 25 (tl l) (0, 0) _ hg Try.underlying25 rfl (talIk h) ?_)
        | (refine hvc.mono ?_; rintro e w2 ⟨rfl, hb2⟩))
      go_ret
      exact ⟨by rw [HS0.out]; rfl, HB.out.trans (hb2.mono HB.out.size)⟩
end Go.Proofs.Ytcekjibkifdchaa
