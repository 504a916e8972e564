/- The reference's Step. -/
import Derived.Test.YtckopdifjhjppaaLtH
set_option linter.unusedVariables false
set_option linter.unusedSimpArgs false
namespace Go.Proofs.Ytckopdifjhjppaa
open Go.RowKit

set_option maxRecDepth 100000 in
set_option maxHeartbeats 2000000 in
theorem rstep_call (c : TS) (hT : Tst c) (b : Int) (w : World) :
    Calls Try.prog 9 #[.agg (tg c), .int .i64 b] w fun e w' => e = .returned (.tuple #[.agg (tg (stepS tableV c b).1), .bool (stepS tableV c b).2.1, .int .i64 (stepS tableV c b).2.2]) ∧ Below w.heap.size w w' := by
  have HDEF : Unit → stepS tableV c b = if validS tableV c = false ∨ c.y = 258 ∨ ¬ (b = 0 ∨ b = 1) then (z0, false, 2) else if wayB tableV c b = false then (z0, false, 100) else (wayS c b, decide ((wayS c b).y = 258), 0) := fun _ => rfl
  have HVI := Lib.hid (fun h : validS tableV c = true => (valid_iff (T := tableV) (c := c)).1 h)
  generalize stepS tableV c b = X at HDEF ⊢
  have hcL := hT.lng.1
  have hz := tstZ
  have hvc := fun W => rvalid_call c hT W
  generalize validS tableV c = V at HDEF HVI hvc
  go_enter Try.func9, Try.ntmps9
  go_upto_region 1 with fail
  have ha := heap_alloc2_old w (.cells (tg c) 25) (.cells (tg z0) 25)
  have hr := heap_alloc2_new w (.cells (tg c) 25) (.cells (tg z0) 25)
  have hb : Below w.heap.size w ((w.alloc (.cells (tg c) 25)).alloc (.cells (tg z0) 25)) := ((Below.refl _ _).alloc (Nat.le_refl _) _).alloc (by simp) _
  generalize (w.alloc (.cells (tg c) 25)).alloc (.cells (tg z0) 25) = w1 at ha hr hb ⊢
  have HB := Lib.hid hb
  have HR := Lib.hid hr
  have hzs := tg_size z0_len
  clear hb hr
  by_cases hbad : V = false ∨ c.y = 258 ∨ ¬ (b = 0 ∨ b = 1)
  · have HX := Lib.hid (show X = (z0, false, 2) by rw [HDEF (), if_pos hbad])
    clear HDEF HVI
    go_cut [24] (fun s wx => s = .bool true ∧ wx.heap[w.heap.size + 1]? = some (.cells (tg z0) 25 (0, 0)) ∧ Below w.heap.size w wx)
    case first =>
      cases V with
      | false =>
        go_wp2_with (first
          | (refine wpList_load_row rfl 25 _ rfl w.heap.size rfl 25 (tg c) (0, 0) _ ha Try.underlying25 rfl (tstIk hcL) ?_)
          | (with_reducible refine (hvc _).mono ?_
             rintro e w2 ⟨rfl, hb2⟩))
        go_meet
        exact ⟨rfl, heap_on hb2 HR.out, HB.out.trans (hb2.mono HB.out.size)⟩
      | true =>
        by_cases hy : c.y = 258
        · have hyb : (c.y == 258) = true := beq_iff_eq.2 hy
          clear hbad hy
          go_wp2_with (first
            | (refine wpList_load_row rfl 25 _ rfl w.heap.size rfl 25 (tg c) (0, 0) _ ha Try.underlying25 rfl (tstIk hcL) ?_)
            | (with_reducible refine (hvc _).mono ?_
               rintro e w2 ⟨rfl, hb2⟩
               obtain ⟨cy, _, _, _⟩ := tg_cells (heap_on hb2 ha) hcL))
          go_meet
          exact ⟨rfl, heap_on hb2 HR.out, HB.out.trans (hb2.mono HB.out.size)⟩
        · have hyb : (c.y == 258) = false := beq_eq_false_iff_ne.2 hy
          have hb01 : b ≠ 0 ∧ b ≠ 1 := by
            rcases hbad with h | h | h
            · cases h
            · exact absurd h hy
            · omega
          have hb0 : (b != 0) = true := by simp; exact hb01.1
          have hb1 : (b != 1) = true := by simp; exact hb01.2
          clear hbad hy hb01
          go_wp2_with (first
            | (refine wpList_load_row rfl 25 _ rfl w.heap.size rfl 25 (tg c) (0, 0) _ ha Try.underlying25 rfl (tstIk hcL) ?_)
            | (with_reducible refine (hvc _).mono ?_
               rintro e w2 ⟨rfl, hb2⟩
               obtain ⟨cy, _, _, _⟩ := tg_cells (heap_on hb2 ha) hcL))
          go_meet
          exact ⟨rfl, heap_on hb2 HR.out, HB.out.trans (hb2.mono HB.out.size)⟩
    case rest =>
      obtain ⟨rfl, hr2, hb2⟩ := hcut
      have HB2 := Lib.hid hb2
      clear hb2 hvc ha
      go_wp2_with (refine wpList_store_row rfl 25 _ _ rfl (w.heap.size + 1) (tg z0) rfl rfl 25 (tg z0) hr2 tstI rfl (tg_all _) ?_)
      refine bodyPost_ret (v := .tuple #[.agg (tg z0), .bool false, .int .i64 2]) ?_ rfl ⟨by rw [HX.out], HB2.out.setRow (by omega) _⟩
      exact results_cell_tmp2 Try.results9 _ _ (w.heap.size + 1) 25 (tg z0) (0, 0) _ _ _ rfl rfl rfl (setRow_heap _ _ _ _ _ _ hr2) Try.underlying25 rfl tstI
  · -- GOOD
    have hVt : V = true := by
      cases V with
      | false => exact absurd (.inl rfl) hbad
      | true => rfl
    subst hVt
    have hy : c.y ≠ 258 := fun e => hbad (.inr (.inl e))
    have hbit : b = 0 ∨ b = 1 := by
      by_cases e : b = 0 ∨ b = 1
      · exact e
      · exact absurd (.inr (.inr e)) hbad
    obtain ⟨f, k, hrc, _⟩ := HVI.out rfl
    have HDEF2 : Unit → X = if wayB tableV c b = false then (z0, false, 100) else (wayS c b, decide ((wayS c b).y = 258), 0) := fun _ => by rw [HDEF (), if_neg hbad]
    have HWC0 := Lib.hid (fun W => way_call c f k hrc hy b hbit W)
    have hDL : (wayS c b).L.length = 258 := by rw [wayS_len]; exact hcL
    have hyb : (c.y == 258) = false := beq_eq_false_iff_ne.2 hy
    clear HDEF HVI hbad hy hrc
    generalize wayS c b = D at HDEF2 HWC0 hDL
    generalize wayB tableV c b = ok at HDEF2 HWC0
    have HWC := Lib.hid HWC0.out
    clear HWC0
    have hb01 : (b != 0 && b != 1) = false := by rcases hbit with rfl | rfl <;> rfl
    have hbz : (b != 0) = true → (b != 1) = false := by rcases hbit with rfl | rfl <;> simp
    go_cut [24] (fun s wx => s = .bool false ∧ wx.heap[w.heap.size]? = some (.cells (tg c) 25 (0, 0)) ∧ wx.heap[w.heap.size + 1]? = some (.cells (tg z0) 25 (0, 0)) ∧ Below w.heap.size w wx)
    case first =>
      rcases hbit with rfl | rfl
      · clear hb01 hbz
        go_wp2_with (first
          | (refine wpList_load_row rfl 25 _ rfl w.heap.size rfl 25 (tg c) (0, 0) _ ha Try.underlying25 rfl (tstIk hcL) ?_)
          | (with_reducible refine (hvc _).mono ?_
             rintro e w2 ⟨rfl, hb2⟩
             obtain ⟨cy, _, _, _⟩ := tg_cells (heap_on hb2 ha) hcL))
        go_meet
        exact ⟨rfl, heap_on hb2 ha, heap_on hb2 HR.out, HB.out.trans (hb2.mono HB.out.size)⟩
      · clear hb01 hbz
        go_wp2_with (first
          | (refine wpList_load_row rfl 25 _ rfl w.heap.size rfl 25 (tg c) (0, 0) _ ha Try.underlying25 rfl (tstIk hcL) ?_)
          | (with_reducible refine (hvc _).mono ?_
             rintro e w2 ⟨rfl, hb2⟩
             obtain ⟨cy, _, _, _⟩ := tg_cells (heap_on hb2 ha) hcL))
        go_meet
        exact ⟨rfl, heap_on hb2 ha, heap_on hb2 HR.out, HB.out.trans (hb2.mono HB.out.size)⟩
    case rest =>
      obtain ⟨rfl, ha2, hr2, hb2⟩ := hcut
      have HB2 := Lib.hid hb2
      have HR2 := Lib.hid hr2
      clear hb2 hvc ha hr2 hbz hb01
      go_upto_region 4 with (first
        | (refine wpList_load_row rfl 25 _ rfl w.heap.size rfl 25 (tg c) (0, 0) _ ha2 Try.underlying25 rfl (tstIk hcL) ?_)
        | (with_reducible refine (HWC.out _).mono ?_
           rintro e w3 ⟨rfl, hb3⟩)
        | (refine wpList_store_row rfl 25 _ _ rfl w3.heap.size (tg D) rfl rfl 25 (tg z0) (heap_alloc_last w3 _) (tstIk hDL) (by rw [tg_size z0_len, tg_size hDL]) (tg_all _) ?_))
      rw [World.setRow_alloc_new]
      have h7 := heap_alloc_last w3 (.cells (tg D) 25)
      have hb4 := hb3.alloc (o := .cells (tg D) 25) hb3.size
      have hr3 := heap_on hb4 HR2.out
      have HB3 := Lib.hid (HB2.out.trans (hb4.mono HB2.out.size))
      have hlt7 : w.heap.size + 1 < w3.heap.size := Nat.lt_of_lt_of_le (Array.getElem?_eq_some_iff.1 HR2.out).1 hb3.size
      obtain ⟨g7, hg7⟩ : ∃ g7, g7 = w3.heap.size := ⟨_, rfl⟩
      rw [← hg7] at h7 hlt7 ⊢
      clear hg7 hb3 hb4 ha2 HB2 HR2
      generalize w3.alloc (.cells (tg D) 25) = w4 at h7 hr3 HB3 ⊢
      cases ok with
      | false =>
        have HX := Lib.hid (show X = (z0, false, 100) by rw [HDEF2 (), if_pos rfl])
        clear HDEF2
        go_wp2_with (refine wpList_store_row rfl 25 _ _ rfl (w.heap.size + 1) (tg z0) rfl rfl 25 (tg z0) hr3 tstI rfl (tg_all _) ?_)
        refine bodyPost_ret (v := .tuple #[.agg (tg z0), .bool false, .int .i64 100]) ?_ rfl ⟨by rw [HX.out], HB3.out.setRow (by omega) _⟩
        exact results_cell_tmp2 Try.results9 _ _ (w.heap.size + 1) 25 (tg z0) (0, 0) _ _ _ rfl rfl rfl (setRow_heap _ _ _ _ _ _ hr3) Try.underlying25 rfl tstI
      | true =>
        have HX := Lib.hid (show X = (D, decide (D.y = 258), 0) by rw [HDEF2 (), if_neg (by decide)])
        have HDEC := Lib.hid (show decide (D.y = 258) = (D.y == 258) from rfl)
        clear HDEF2
        go_upto_region 6 with fail
        refine wp_region_noPanic ?_
        refine wp_region_held_drew (S := fun W => W.heap[g7]? = some (.cells (tg D) 25 (0, 0)) ∧ Below w.heap.size w W) (by kernel_rfl) ⟨h7, HB3.out.drew⟩ (fun hHeld => ?_)
        refine wpAnyH_take (i := 0) (v := .agg (tgl D).toArray) rfl (by kernel_rfl) (by kernel_rfl) (by kernel_rfl) (fun _ _ _ h => h) (yieldsIf_load_mid rfl 25 _ rfl g7 0 rfl (tgl D) _ (fun W hW => tg_whole hW.1) Try.underlying25 rfl (by rw [tgl_len hDL]; exact tstI)) (by assumption) ?_
        try simp only [Act.put, List.getElem_toArray, List.getElem_cons_succ, List.getElem_cons_zero, List.setIfInBounds_toArray, List.set_cons_zero, List.set_cons_succ]
        refine wpAnyH_take (i := 1) (v := ?_) rfl (by kernel_rfl) (by kernel_rfl) (by kernel_rfl) (fun _ _ _ h => h) (Or.inl ⟨by rfl, ?_⟩) (by assumption) ?_
        rotate_left
        · (intro W hSw; go_simp) <;> with_reducible rfl
        try simp only [Act.put, List.getElem_toArray, List.getElem_cons_succ, List.getElem_cons_zero, List.setIfInBounds_toArray, List.set_cons_zero, List.set_cons_succ]
        refine wpAnyH_take (i := 2) (v := ?_) rfl (by kernel_rfl) (by kernel_rfl) (by kernel_rfl) (fun _ _ _ h => h) (Or.inl ⟨by rfl, ?_⟩) (by assumption) ?_
        rotate_left
        · (intro W hSw; have hcW := (tg_cells hSw.1 hDL).1; go_simp) <;> with_reducible rfl
        try simp only [Act.put, List.getElem_toArray, List.getElem_cons_succ, List.getElem_cons_zero, List.setIfInBounds_toArray, List.set_cons_zero, List.set_cons_succ]
        refine wpAnyH_take (i := 3) (v := ?_) rfl (by kernel_rfl) (by kernel_rfl) (by kernel_rfl) (fun _ _ _ h => h) (Or.inl ⟨by rfl, ?_⟩) (by assumption) ?_
        rotate_left
        · (intro W hSw; go_simp) <;> with_reducible rfl
        try simp only [Act.put, List.getElem_toArray, List.getElem_cons_succ, List.getElem_cons_zero, List.setIfInBounds_toArray, List.set_cons_zero, List.set_cons_succ]
        refine wpAnyH_ready (rs := [4]) (by kernel_rfl) (by simp) ?_
        refine AllReadyH.cons (o := _) rfl (fun K hK => ?_) (AllReadyH.nil)
        rw [if_pos (by rfl)]
        refine wp_store_row 25 _ _ rfl (w.heap.size + 1) (tg D) rfl rfl 25 (tg z0) hr3 (tstIk hDL) (by rw [tg_size z0_len, tg_size hDL]) (tg_all _) ?_
        refine hK.out _ _ ⟨(setRow_other _ _ _ _ (by omega)).trans hHeld.1, hHeld.2.setRow (by omega) _⟩ (fun hHeldN => ?_)
        clear K hK hHeld
        have hHeld := hHeldN
        clear hHeldN
        try simp only [Act.put, List.getElem_toArray, List.getElem_cons_succ, List.getElem_cons_zero, List.setIfInBounds_toArray, List.set_cons_zero, List.set_cons_succ]
        refine wpAnyH_take (i := 5) (v := ?_) rfl (by kernel_rfl) (by kernel_rfl) (by kernel_rfl) (fun _ _ _ h => h) (Or.inl ⟨by rfl, ?_⟩) (by assumption) ?_
        rotate_left
        · (intro W hSw; go_simp) <;> with_reducible rfl
        try simp only [Act.put, List.getElem_toArray, List.getElem_cons_succ, List.getElem_cons_zero, List.setIfInBounds_toArray, List.set_cons_zero, List.set_cons_succ]
        refine wpAnyH_take (i := 6) (v := ?_) rfl (by kernel_rfl) (by kernel_rfl) (by kernel_rfl) (fun _ _ _ h => h) (Or.inl ⟨by rfl, ?_⟩) (by assumption) ?_
        rotate_left
        · (intro W hSw; go_simp) <;> with_reducible rfl
        try simp only [Act.put, List.getElem_toArray, List.getElem_cons_succ, List.getElem_cons_zero, List.setIfInBounds_toArray, List.set_cons_zero, List.set_cons_succ]
        refine wpAnyH_done (by kernel_rfl) ?_ _
        refine NoPanic.normal ?_
        have hrr := setRow_heap _ _ _ (tg D) _ _ hr3
        go_wp2
        refine bodyPost_ret (v := .tuple #[.agg (tg D), .bool (D.y == 258), .int .i64 0]) ?_ rfl ⟨by rw [HX.out, HDEC.out], hHeld.2⟩
        exact results_cell_tmp2 Try.results9 _ _ (w.heap.size + 1) 25 (tg D) (0, 0) _ _ _ rfl rfl rfl hrr Try.underlying25 rfl (tstIk hDL)
end Go.Proofs.Ytckopdifjhjppaa
