/- firstCodes of package canonical. -/
import Derived.Test.YtbegpakjojiblabCnK
set_option linter.unusedVariables false
set_option linter.unusedSimpArgs false
namespace Go.Proofs.Ytbegpakjojiblab
open Go.RowKit

/-- The smallest code of each length. -/
def fcL (c : List Int) : Nat → Int
  | 0 => 0
  | 1 => 0
  | n + 2 => (fcL c (n + 1) + c.getD (n + 1) 0) * 2
/-- The first n of them, and zeros. -/
def fstT (c : List Int) (n : Nat) : List Int := row16 fun i => if i < n then fcL c i else 0
/-- They are not too great. -/
def FcB (c : List Int) : Prop := ∀ n, n < 16 → 0 ≤ c.getD n 0 ∧ 0 ≤ fcL c n ∧ fcL c n + c.getD n 0 ≤ 65536
theorem row16_fst (f : Nat → Int) (h : ∀ i, i < 16 → 0 ≤ f i ∧ f i ≤ 65536) : Fst (row16 f) := by
  refine ⟨by simp [row16], fun z hz => ?_⟩
  obtain ⟨i, hi, rfl⟩ := List.mem_map.1 hz
  have := h i (List.mem_range.1 hi)
  exact WalkArith.wf_u32 ⟨by omega, by omega⟩
theorem fstT_fst {c : List Int} (h : FcB c) (n : Nat) : Fst (fstT c n) := row16_fst _ fun i hi => by
  have := h i hi
  split <;> omega
theorem fstT_start (c : List Int) : fstT c 2 = zF := by
  have e : fstT c 2 = row16 fun _ => 0 := by
    refine row16_congr _ _ fun j hj => ?_
    by_cases h : j < 2
    · rw [if_pos h]
      match j, h with
      | 0, _ => rfl
      | 1, _ => rfl
    · rw [if_neg h]
  rw [e]
  rfl
theorem fstT_step (c : List Int) (n : Nat) (hn : n + 1 < 16) : (fstT c (n + 1)).set (n + 1) (fcL c (n + 1)) = fstT c (n + 2) := by
  refine row16_set _ _ (n + 1) hn _ ?_ fun j hj hne => ?_
  · rw [if_pos (by omega)]
  · by_cases h : j < n + 1
    · rw [if_pos (by omega), if_pos h]
    · rw [if_neg (by omega), if_neg h]
theorem fstT_all (c : List Int) : fstT c 16 = row16 fun i => fcL c i := row16_congr _ _ fun j hj => by rw [if_pos hj]

/-- While the first codes are computed. -/
structure Fs (w : World) (c f : List Int) (wr : World) : Prop where
  box : wr.heap[w.heap.size]? = some (.cells (xl c) 53 (0, 0))
  res : wr.heap[w.heap.size + 1]? = some (.cells (fl zF) 62 (0, 0))
  fst : wr.heap[w.heap.size + 2]? = some (.cells (fl f) 62 (0, 0))
  bel : Below w.heap.size w wr
theorem Fs.start (w : World) (c : List Int) : Fs w c zF (((w.alloc (.cells (xl c) 53)).alloc (.cells (fl zF) 62)).alloc (.cells (fl zF) 62)) := by
  refine ⟨?_, ?_, ?_, (((Below.refl _ _).alloc (Nat.le_refl _) _).alloc (by simp) _).alloc (by simp; omega) _⟩
  · rw [heap_alloc_old _ _ (by simp; omega)]
    exact heap_alloc2_old w _ _
  · rw [heap_alloc_old _ _ (by simp)]
    exact heap_alloc2_new w _ _
  · have := heap_alloc_last ((w.alloc (.cells (xl c) 53)).alloc (.cells (fl zF) 62)) (.cells (fl zF) 62)
    simpa using this
theorem Fs.set {w wr : World} {c f : List Int} (h : Fs w c f wr) (v : Nat) (z : Int) : Fs w c (f.set v z) (wr.setCell ⟨w.heap.size + 2, v, none⟩ (.int .u32 z)) :=
  ⟨by rw [heap_setCell_other _ _ _ _ (by simp)]; exact h.box, by rw [heap_setCell_other _ _ _ _ (by simp)]; exact h.res, by rw [heap_setCell_same _ _ _ _ _ _ h.fst, fl_set], h.bel.setCell (by simp) _⟩
theorem Fs.drewN {w wr : World} {c f : List Int} (h : Fs w c f wr) (n : Nat) : Fs w c f (wr.drewN n) := ⟨h.box, h.res, h.fst, h.bel.drewN n⟩
theorem Fs.drew {w wr : World} {c f : List Int} (h : Fs w c f wr) : Fs w c f wr.drew := ⟨h.box, h.res, h.fst, ⟨h.bel.os, h.bel.tape, h.bel.output, h.bel.size, h.bel.block⟩⟩

set_option maxRecDepth 100000 in
set_option maxHeartbeats 1000000 in
theorem firsts_call (c : List Int) (h : Sxt c) (hc : FcB c) (w : World) :
    Calls Try.prog 24 #[.agg (xl c)] w fun e w' => e = .returned (.agg (fl (fstT c 16))) ∧ Below w.heap.size w w' := by
  have hz := fstZ
  go_enter Try.func24, Try.ntmps24
  go_upto_region 2 with fail
  have hst := Fs.start w c
  generalize ((w.alloc (.cells (xl c) 53)).alloc (.cells (fl zF) 62)).alloc (.cells (fl zF) 62) = w1 at hst ⊢
  have HST := Lib.hid hst
  clear hst hz
  go_wp2_with fail
  go_loopw [4] (fun i wr => ∃ n : Nat, 2 ≤ n ∧ n ≤ 16 ∧ i = .int .i64 n ∧ Fs w c (fstT c n) wr) (fun i _ => 16 - (intOf i).toNat)
  case atStart => exact ⟨2, by omega, by omega, rfl, by rw [fstT_start]; exact HST.out⟩
  case round =>
    obtain ⟨n, hn2, hn, rfl, hm⟩ := hrel
    by_cases hlt : n < 16
    · obtain ⟨p, hp⟩ : ∃ p, n = p + 1 := ⟨n - 1, by omega⟩
      have h1 := hc p (by omega)
      have hfz : wr.frozen? ⟨w.heap.size + 2, n, none⟩ = false := frozen_of_row wr (w.heap.size + 2) n _ _ hm.fst
      have c0 := fl_cell hm.fst (fstT_fst hc n) n hlt
      have c1 := xl_cell hm.box h p (by omega)
      have c2 := fl_cell hm.fst (fstT_fst hc n) p (by omega)
      have e2 : (fstT c n).getD p 0 = fcL c p := by rw [fstT, row16_get _ p (by omega), if_pos (by omega)]
      rw [e2] at c2
      have HE := Lib.hid (show (fstT c n).set n (fcL c n) = fstT c (n + 1) by rw [hp]; exact fstT_step c p (by omega))
      have HX := Lib.hid (show fcL c n = (fcL c p + c.getD p 0) * 2 by
        obtain ⟨q, rfl⟩ : ∃ q, p = q + 1 := ⟨p - 1, by omega⟩
        rw [hp]; rfl)
      have HM := Lib.hid hm
      have HP := Lib.hid hp
      have hs : IntKind.i64.wrap ((n : Int) - 1) = (p : Int) := by rw [IntKind.wrap_i64]; omega
      generalize (fstT c n).getD n 0 = Z at c0
      generalize c.getD p 0 = C at c1 h1 HX
      generalize fcL c p = X at c2 h1 HX
      have hp16 : p < 16 := by omega
      clear hm e2 hp
      go_upto_region 5 with fail
      go_region
      go_wp2_with fail
      exact ⟨⟨n + 1, by omega, by omega, by go_num, HE.out ▸ HX.out ▸ (HM.out.set n _).drew⟩, by simp [intOf]; omega⟩
    · obtain rfl : n = 16 := by omega
      have HM := Lib.hid hm
      have hf : Fst (fstT c (16)) := fstT_fst hc _
      have hg3 := hm.fst
      clear hm
      go_wp2_with (first
        | (refine wpList_load_row rfl 62 _ rfl (w.heap.size + 2) rfl 62 (fl (fstT c (16))) (0, 0) _ hg3 Try.underlying62 rfl (fstIk hf) ?_)
        | (refine wpList_store_row rfl 62 _ _ rfl (w.heap.size + 1) (fl (fstT c (16))) rfl rfl 62 (fl zF) HM.out.res (fstIk hf) (by rw [fl_size zF_fst, fl_size hf]) (fl_all _) ?_))
      refine bodyPost_ret (v := .agg (fl (fstT c (16)))) ?_ rfl ⟨rfl, HM.out.bel.setRow (by omega) _⟩
      exact results_cell_row Try.results24 _ _ (w.heap.size + 1) 62 (fl (fstT c (16))) (0, 0) _ rfl (setRow_heap _ _ _ _ _ _ HM.out.res) Try.underlying62 rfl (fstIk hf)
end Go.Proofs.Ytbegpakjojiblab
