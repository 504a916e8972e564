/- The reference's Read, whole. -/
import Derived.Test.YtnpohkaicfcidaaPeJ
set_option linter.unusedVariables false
set_option linter.unusedSimpArgs false
namespace Go.Proofs.Ytnpohkaicfcidaa
open Go.RowKit

set_option maxRecDepth 100000 in
set_option maxHeartbeats 2000000 in
theorem rread_no (l : List Int) (h : Lng l) (sp : Option Addr) (n cap : Nat) (hn : n ≤ 1000) (M : Int) (hbad : ¬ (ks l ≤ 32768 ∧ 0 ≤ M ∧ M ≤ 8 * (n : Int))) (w : World) :
    Calls Try.prog 13 #[.agg (lg l), .slice sp n cap, .int .i64 M] w fun e w' => e = .returned (.tuple #[.slice none 0 0, .int .i64 2]) ∧ Below w.heap.size w w' := by
  have hrv := fun W => rvalid_call l h W
  have hg := heap_alloc_last w (.cells (lg l) 23)
  have HB := Lib.hid ((Below.refl w.heap.size w).alloc (Nat.le_refl _) (.cells (lg l) 23))
  by_cases hv : ks l ≤ 32768
  · rw [decide_eq_true hv] at hrv
    by_cases h0 : M < 0
    · have d1 : decide (M < 0) = true := decide_eq_true h0
      go_enter Try.func13, Try.ntmps13
      go_upto_region 1 with fail
      generalize w.alloc (.cells (lg l) 23) = w1 at hg HB ⊢
      go_wp2_with (first
        | (refine wpList_load_row rfl 23 _ rfl w.heap.size rfl 23 (lg l) (0, 0) _ hg Try.underlying23 rfl (lngIk h) ?_)
        | (with_reducible refine (hrv _).mono ?_; rintro e w2 ⟨rfl, hb2⟩))
      go_returns
      exact ⟨rfl, HB.out.trans (hb2.mono HB.out.size)⟩
    · have d1 : decide (M < 0) = false := decide_eq_false h0
      have d2 : decide (8 * (n : Int) < M) = true := decide_eq_true (by omega)
      clear hbad
      go_enter Try.func13, Try.ntmps13
      go_upto_region 1 with fail
      generalize w.alloc (.cells (lg l) 23) = w1 at hg HB ⊢
      go_wp2_with (first
        | (refine wpList_load_row rfl 23 _ rfl w.heap.size rfl 23 (lg l) (0, 0) _ hg Try.underlying23 rfl (lngIk h) ?_)
        | (with_reducible refine (hrv _).mono ?_; rintro e w2 ⟨rfl, hb2⟩))
      go_returns
      exact ⟨rfl, HB.out.trans (hb2.mono HB.out.size)⟩
  · rw [decide_eq_false hv] at hrv
    clear hbad hv
    go_enter Try.func13, Try.ntmps13
    go_upto_region 1 with fail
    generalize w.alloc (.cells (lg l) 23) = w1 at hg HB ⊢
    go_wp2_with (first
      | (refine wpList_load_row rfl 23 _ rfl w.heap.size rfl 23 (lg l) (0, 0) _ hg Try.underlying23 rfl (lngIk h) ?_)
      | (with_reducible refine (hrv _).mono ?_; rintro e w2 ⟨rfl, hb2⟩))
    go_returns
    exact ⟨rfl, HB.out.trans (hb2.mono HB.out.size)⟩
theorem rread_call (l : List Int) (h : Lng l) (sp : Option Addr) (n cap : Nat) (bl : List Int) (hl : bl.length = n) (hby : Byts bl) (hn : n ≤ 1000) (M : Int) (w : World) (hs : Src w .u8 sp bl) :
    Calls Try.prog 13 #[.agg (lg l), .slice sp n cap, .int .i64 M] w fun e w' => ∃ A c, e = .returned (.tuple #[.slice (ad0 A) ((rdR l bl M).getD []).length c, .int .i64 (if (rdR l bl M).isSome then 0 else 2)]) ∧ NewO w w' A c ((rdR l bl M).getD []) := by
  by_cases hg : ks l ≤ 32768 ∧ 0 ≤ M ∧ M ≤ 8 * (n : Int)
  · have e : rdR l bl M = rdS l 0 0 [] ((bitsB bl).take M.toNat) := by unfold rdR; rw [hl, if_pos hg]
    rw [e]
    obtain ⟨hv, h0, h1⟩ := hg
    obtain ⟨m, rfl⟩ : ∃ m : Nat, M = (m : Int) := ⟨M.toNat, by omega⟩
    rw [Int.toNat_natCast]
    exact rread_yes l ⟨h, hv⟩ sp n cap bl hl hby hn m (by omega) w hs
  · have e : rdR l bl M = none := by unfold rdR; rw [hl, if_neg hg]
    rw [e]
    exact (rread_no l h sp n cap hn M hg w).mono fun e w' ⟨h1, h2⟩ => ⟨none, 0, h1, OwnS.nil _ _ _, (fun g e => by cases e), h2⟩
end Go.Proofs.Ytnpohkaicfcidaa
