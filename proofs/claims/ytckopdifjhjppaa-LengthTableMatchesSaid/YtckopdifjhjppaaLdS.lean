/- Package lengthtable: Step. -/
import Derived.Test.YtckopdifjhjppaaLdV1
import Derived.Test.YtckopdifjhjppaaLdX
set_option linter.unusedVariables false
set_option linter.unusedSimpArgs false
namespace Go.Proofs.Ytckopdifjhjppaa
open Go.RowKit

theorem nxS_len {c : TS} (h : c.L.length = 258) (b : Int) : (nxS c b).L.length = 258 := by
  unfold nxS
  split
  · rw [wayS_len]; exact h
  · exact z0_len
theorem step_nx {c : TS} {b : Int} (h : ¬ (validS tableV c = false ∨ c.y = 258 ∨ ¬ (b = 0 ∨ b = 1))) : stepS tableV c b = (nxS c b, decide ((nxS c b).y = 258), nxE c b) := by
  unfold stepS nxS nxE
  rw [if_neg h]
  cases wayB tableV c b with
  | true => rfl
  | false => rfl

set_option maxRecDepth 100000 in
set_option maxHeartbeats 2000000 in
theorem step_call (c : TS) (hT : Tst c) (b : Int) (w : World) :
    Calls Try.prog 8 #[.agg (tg c), .int .i64 b] w fun e w' => e = .returned (.tuple #[.agg (tg (stepS tableV c b).1), .bool (stepS tableV c b).2.1, .int .i64 (stepS tableV c b).2.2]) ∧ Below w.heap.size w w' := by
  have HBAD : Unit → (validS tableV c = false ∨ c.y = 258 ∨ ¬ (b = 0 ∨ b = 1)) → stepS tableV c b = (z0, false, 2) := fun _ h => by unfold stepS; rw [if_pos h]
  have HGOOD : Unit → ¬ (validS tableV c = false ∨ c.y = 258 ∨ ¬ (b = 0 ∨ b = 1)) → stepS tableV c b = (nxS c b, decide ((nxS c b).y = 258), nxE c b) := fun _ h => step_nx h
  have HVI := Lib.hid (fun h : validS tableV c = true => (valid_iff (T := tableV) (c := c)).1 h)
  generalize stepS tableV c b = X at HBAD HGOOD ⊢
  have hcL := hT.lng.1
  have hz := tstZ
  have hvc := Lib.hid (fun W => valid_call c hT W)
  have hdc := Lib.hid (fun W => isDone_call c hcL W)
  have hbc := Lib.hid (fun W => isBit_call b W)
  generalize validS tableV c = V at HBAD HGOOD HVI hvc
  go_enter Try.func8, Try.ntmps8
  go_upto_region 1 with fail
  have ha := heap_alloc2_old w (.cells (tg c) 25) (.cells (tg z0) 25)
  have hr := heap_alloc2_new w (.cells (tg c) 25) (.cells (tg z0) 25)
  have hb : Below w.heap.size w ((w.alloc (.cells (tg c) 25)).alloc (.cells (tg z0) 25)) := ((Below.refl _ _).alloc (Nat.le_refl _) _).alloc (by simp) _
  generalize (w.alloc (.cells (tg c) 25)).alloc (.cells (tg z0) 25) = w1 at ha hr hb ⊢
  have HB := Lib.hid hb
  have HR := Lib.hid hr
  have hzs := tg_size z0_len
  clear hb hr
  by_cases hbad : V = false ∨ c.y = 258 ∨ ¬ (b = 0 ∨ b = 1)
  · have HX := Lib.hid (HBAD () hbad)
    clear HBAD HGOOD HVI
    go_cut [18] (fun s wx => s = .bool true ∧ wx.heap[w.heap.size + 1]? = some (.cells (tg z0) 25 (0, 0)) ∧ Below w.heap.size w wx)
    case first =>
      cases V with
      | false =>
        go_wp2_with (first
          | (refine wpList_load_row rfl 25 _ rfl w.heap.size rfl 25 (tg c) (0, 0) _ ha Try.underlying25 rfl (tstIk hcL) ?_)
          | (with_reducible refine (hvc.out _).mono ?_
             rintro e w2 ⟨rfl, hb2⟩))
        go_meet
        exact ⟨rfl, heap_on hb2 HR.out, HB.out.trans (hb2.mono HB.out.size)⟩
      | true =>
        by_cases hy : c.y = 258
        · rw [decide_eq_true hy] at hdc
          clear hbad hy
          go_wp2_with (first
            | (refine wpList_load_row rfl 25 _ rfl w.heap.size rfl 25 (tg c) (0, 0) _ ha Try.underlying25 rfl (tstIk hcL) ?_)
            | (with_reducible refine (hvc.out _).mono ?_
               rintro e w2 ⟨rfl, hb2⟩
               have ha2 := heap_on hb2 ha)
            | (refine wpList_load_row_g 3 false rfl 10 rfl _ rfl rfl 25 _ rfl w.heap.size rfl 25 (tg c) (0, 0) _ ha2 Try.underlying25 rfl (tstIk hcL) ?_)
            | (with_reducible refine (hdc.out _).mono ?_
               rintro e w3 ⟨rfl, hb3⟩))
          go_meet
          exact ⟨rfl, heap_on hb3 (heap_on hb2 HR.out), (HB.out.trans (hb2.mono HB.out.size)).trans (hb3.mono (Nat.le_trans HB.out.size hb2.size))⟩
        · have hbn : ¬ (b = 0 ∨ b = 1) := by
            rcases hbad with h | h | h
            · cases h
            · exact absurd h hy
            · exact h
          rw [decide_eq_false hy] at hdc
          rw [decide_eq_false hbn] at hbc
          clear hbad hy hbn
          go_wp2_with (first
            | (refine wpList_load_row rfl 25 _ rfl w.heap.size rfl 25 (tg c) (0, 0) _ ha Try.underlying25 rfl (tstIk hcL) ?_)
            | (with_reducible refine (hvc.out _).mono ?_
               rintro e w2 ⟨rfl, hb2⟩
               have ha2 := heap_on hb2 ha)
            | (refine wpList_load_row_g 3 false rfl 10 rfl _ rfl rfl 25 _ rfl w.heap.size rfl 25 (tg c) (0, 0) _ ha2 Try.underlying25 rfl (tstIk hcL) ?_)
            | (with_reducible refine (hdc.out _).mono ?_
               rintro e w3 ⟨rfl, hb3⟩)
            | (with_reducible refine (hbc.out _).mono ?_
               rintro e w4 ⟨rfl, rfl⟩))
          go_meet
          exact ⟨rfl, heap_on hb3 (heap_on hb2 HR.out), (HB.out.trans (hb2.mono HB.out.size)).trans (hb3.mono (Nat.le_trans HB.out.size hb2.size))⟩
    case rest =>
      obtain ⟨rfl, hr2, hb2⟩ := hcut
      have HB2 := Lib.hid hb2
      clear hb2 hvc hdc hbc ha
      go_wp2_with (first
        | (refine wpList_build_is rfl 25 _ rfl _ _ (fun W => build_0 W) rfl ?_)
        | (refine wpList_store_row rfl 25 _ _ rfl (w.heap.size + 1) (tg z0) rfl rfl 25 (tg z0) hr2 tstI rfl (tg_all _) ?_))
      refine bodyPost_ret (v := .tuple #[.agg (tg z0), .bool false, .int .i64 2]) ?_ rfl ⟨by rw [HX.out], HB2.out.setRow (by omega) _⟩
      exact results_cell_tmp2 Try.results8 _ _ (w.heap.size + 1) 25 (tg z0) (0, 0) _ _ _ rfl rfl rfl (setRow_heap _ _ _ _ _ _ hr2) Try.underlying25 rfl tstI
  · have hVt : V = true := by
      cases V with
      | false => exact absurd (.inl rfl) hbad
      | true => rfl
    subst hVt
    have hy : c.y ≠ 258 := fun e => hbad (.inr (.inl e))
    have hbit : b = 0 ∨ b = 1 := by
      by_cases e : b = 0 ∨ b = 1
      · exact e
      · exact absurd (.inr (.inr e)) hbad
    obtain ⟨f, k, hrc, _⟩ := HVI.out rfl
    have HX := Lib.hid (HGOOD () hbad)
    have HNC0 := Lib.hid (fun W => next_call c f k hrc hy b hbit W)
    have hDL : (nxS c b).L.length = 258 := nxS_len hcL b
    rw [decide_eq_false hy] at hdc
    rw [decide_eq_true hbit] at hbc
    clear HBAD HGOOD HVI hbad hy hrc hbit
    generalize nxS c b = D at HX HNC0 hDL
    generalize nxE c b = E at HX HNC0
    have HNC := Lib.hid HNC0.out
    clear HNC0
    go_cut [18] (fun s wx => s = .bool false ∧ wx.heap[w.heap.size]? = some (.cells (tg c) 25 (0, 0)) ∧ wx.heap[w.heap.size + 1]? = some (.cells (tg z0) 25 (0, 0)) ∧ Below w.heap.size w wx)
    case first =>
      go_wp2_with (first
        | (refine wpList_load_row rfl 25 _ rfl w.heap.size rfl 25 (tg c) (0, 0) _ ha Try.underlying25 rfl (tstIk hcL) ?_)
        | (with_reducible refine (hvc.out _).mono ?_
           rintro e w2 ⟨rfl, hb2⟩
           have ha2 := heap_on hb2 ha)
        | (refine wpList_load_row_g 3 false rfl 10 rfl _ rfl rfl 25 _ rfl w.heap.size rfl 25 (tg c) (0, 0) _ ha2 Try.underlying25 rfl (tstIk hcL) ?_)
        | (with_reducible refine (hdc.out _).mono ?_
           rintro e w3 ⟨rfl, hb3⟩)
        | (with_reducible refine (hbc.out _).mono ?_
           rintro e w4 ⟨rfl, rfl⟩))
      go_meet
      exact ⟨rfl, heap_on hb3 ha2, heap_on hb3 (heap_on hb2 HR.out), (HB.out.trans (hb2.mono HB.out.size)).trans (hb3.mono (Nat.le_trans HB.out.size hb2.size))⟩
    case rest =>
      obtain ⟨rfl, ha2, hr2, hb2⟩ := hcut
      have HB2 := Lib.hid hb2
      have HR2 := Lib.hid hr2
      clear hb2 hvc hdc hbc ha hr2
      go_upto_region 4 with (first
        | (refine wpList_load_row rfl 25 _ rfl w.heap.size rfl 25 (tg c) (0, 0) _ ha2 Try.underlying25 rfl (tstIk hcL) ?_)
        | (with_reducible refine (HNC.out _).mono ?_
           rintro e w3 ⟨rfl, hb3⟩
           have hr3a := heap_on hb3 HR2.out)
        | (refine wpList_store_row rfl 25 _ _ rfl (w.heap.size + 1) (tg D) rfl rfl 25 (tg z0) hr3a (tstIk hDL) (by rw [tg_size z0_len, tg_size hDL]) (tg_all _) ?_))
      try simp only [Act.put]
      have hr3 := setRow_heap _ _ _ (tg D) _ _ hr3a
      have HB3 := Lib.hid ((HB2.out.trans (hb3.mono HB2.out.size)).setRow (g := w.heap.size + 1) (by omega) (tg D))
      have HID := Lib.hid (fun W => isDone_call D hDL W)
      clear hb3 hr3a ha2 HB2 HR2
      generalize w3.setRow (w.heap.size + 1) (tg D) = w4 at hr3 HB3 ⊢
      refine wp_region_noPanic ?_
      refine wp_region_held_drew (S := fun W => W.heap[w.heap.size + 1]? = some (.cells (tg D) 25 (0, 0)) ∧ Below w.heap.size w W) (by kernel_rfl) ⟨hr3, HB3.out.drew⟩ (fun hHeld => ?_)
      refine wpAnyH_take (i := 0) (v := .agg (tg D)) rfl (by kernel_rfl) (by kernel_rfl) (by kernel_rfl) (fun _ _ _ h => h) (yieldsIf_load_mid rfl 25 _ rfl (w.heap.size + 1) 0 rfl (tgl D) _ (fun W hW => tg_whole hW.1) Try.underlying25 rfl (by rw [tgl_len hDL]; exact tstI)) (by assumption) ?_
      try simp only [Act.put, List.getElem_toArray, List.getElem_cons_succ, List.getElem_cons_zero, List.setIfInBounds_toArray, List.set_cons_zero, List.set_cons_succ]
      refine wpAnyH_take (i := 1) (v := .agg (tg D)) rfl (by kernel_rfl) (by kernel_rfl) (by kernel_rfl) (fun _ _ _ h => h) (yieldsIf_load_mid rfl 25 _ rfl (w.heap.size + 1) 0 rfl (tgl D) _ (fun W hW => tg_whole hW.1) Try.underlying25 rfl (by rw [tgl_len hDL]; exact tstI)) (by assumption) ?_
      try simp only [Act.put, List.getElem_toArray, List.getElem_cons_succ, List.getElem_cons_zero, List.setIfInBounds_toArray, List.set_cons_zero, List.set_cons_succ]
      refine wpAnyH_take (i := 3) (v := ?_) rfl (by kernel_rfl) (by kernel_rfl) (by kernel_rfl) (fun _ _ _ h => h) (Or.inl ⟨by rfl, ?_⟩) (by assumption) ?_
      rotate_left
      · (intro W hSw; go_simp) <;> with_reducible rfl
      try simp only [Act.put, List.getElem_toArray, List.getElem_cons_succ, List.getElem_cons_zero, List.setIfInBounds_toArray, List.set_cons_zero, List.set_cons_succ]
      refine wpAnyH_ready (rs := [2]) (by kernel_rfl) (by simp) ?_
      refine AllReadyH.cons (o := _) rfl (fun K hK => ?_) (AllReadyH.nil)
      go_simp
      go_at_call 24
      refine (HID.out _).mono ?_
      rintro e w5 ⟨rfl, hb5⟩
      refine hK.out _ _ ⟨heap_on hb5 hHeld.1, hHeld.2.trans (hb5.mono hHeld.2.size)⟩ (fun hHeldN => ?_)
      clear K hK hHeld
      have hHeld := hHeldN
      clear hHeldN
      try simp only [Act.put, List.getElem_toArray, List.getElem_cons_succ, List.getElem_cons_zero, List.setIfInBounds_toArray, List.set_cons_zero, List.set_cons_succ]
      have hr4 := hHeld.1
      refine wpAnyH_ready (rs := [4]) (by kernel_rfl) (by simp) ?_
      refine AllReadyH.cons (o := _) rfl (fun K hK => ?_) (AllReadyH.nil)
      rw [if_pos (by rfl)]
      refine wp_store_row 25 _ _ rfl (w.heap.size + 1) (tg D) rfl rfl 25 (tg D) hr4 (tstIk hDL) rfl (tg_all _) ?_
      refine hK.out _ _ ⟨setRow_heap _ _ _ _ _ _ hr4, hHeld.2.setRow (by omega) _⟩ (fun hHeldN => ?_)
      clear K hK hHeld
      have hHeld := hHeldN
      clear hHeldN
      try simp only [Act.put, List.getElem_toArray, List.getElem_cons_succ, List.getElem_cons_zero, List.setIfInBounds_toArray, List.set_cons_zero, List.set_cons_succ]
      refine wpAnyH_take (i := 5) (v := ?_) rfl (by kernel_rfl) (by kernel_rfl) (by kernel_rfl) (fun _ _ _ h => h) (Or.inl ⟨by rfl, ?_⟩) (by assumption) ?_
      rotate_left
      · (intro W hSw; go_simp) <;> with_reducible rfl
      try simp only [Act.put, List.getElem_toArray, List.getElem_cons_succ, List.getElem_cons_zero, List.setIfInBounds_toArray, List.set_cons_zero, List.set_cons_succ]
      refine wpAnyH_take (i := 6) (v := ?_) rfl (by kernel_rfl) (by kernel_rfl) (by kernel_rfl) (fun _ _ _ h => h) (Or.inl ⟨by rfl, ?_⟩) (by assumption) ?_
      rotate_left
      · (intro W hSw; go_simp) <;> with_reducible rfl
      try simp only [Act.put, List.getElem_toArray, List.getElem_cons_succ, List.getElem_cons_zero, List.setIfInBounds_toArray, List.set_cons_zero, List.set_cons_succ]
      refine wpAnyH_done (by kernel_rfl) ?_ _
      refine NoPanic.normal ?_
      go_wp2
      refine bodyPost_ret (v := .tuple #[.agg (tg D), .bool (decide (D.y = 258)), .int .i64 E]) ?_ rfl ⟨by rw [HX.out], hHeld.2⟩
      exact results_cell_tmp2 Try.results8 _ _ (w.heap.size + 1) 25 (tg D) (0, 0) _ _ _ rfl rfl rfl hHeld.1 Try.underlying25 rfl (tstIk hDL)
end Go.Proofs.Ytckopdifjhjppaa
