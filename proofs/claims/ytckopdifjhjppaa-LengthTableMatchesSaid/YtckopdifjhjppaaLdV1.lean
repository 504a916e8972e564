/- Package lengthtable: Valid at all states. -/
import Derived.Test.YtckopdifjhjppaaLdV0
set_option linter.unusedVariables false
set_option linter.unusedSimpArgs false
namespace Go.Proofs.Ytckopdifjhjppaa
open Go.RowKit

set_option maxRecDepth 100000 in
set_option maxHeartbeats 2000000 in
theorem valid_high (c : TS) (hT : Tst c) (hlow : ¬ (0 ≤ c.t ∧ c.t < 4)) (w : World) :
    Calls Try.prog 13 #[.agg (tg c)] w fun e w' => e = .returned (.bool (validS tableV c)) ∧ Below w.heap.size w w' := by
  have HDEF : Unit → validS tableV c = if 0 ≤ c.t ∧ c.t < 4 then (if 0 ≤ c.n ∧ c.n < 2 ^ c.t.toNat then decide (c = ⟨z0.L, 0, c.t, c.n, 0⟩) else false) else if c.y = 258 then (if tableV c.L then decide (c = dnS c.L) else false) else if c.t = 4 ∨ c.t = 5 then (if knB c.L c.y then decide (OnP c) else false) else false := fun _ => by rw [← vD_eq hT.lng]; rfl
  generalize validS tableV c = X at HDEF ⊢
  have hcL := hT.lng.1
  go_enter Try.func13, Try.ntmps13
  go_upto_region 1 with fail
  have ha := heap_alloc_last w (.cells (tg c) 25)
  have HB := Lib.hid ((Below.refl w.heap.size w).alloc (Nat.le_refl _) (.cells (tg c) 25))
  generalize w.alloc (.cells (tg c) 25) = w1 at ha HB ⊢
  obtain ⟨cy, ct, cn, ca⟩ := tg_cells ha hcL
  have HDEF2 : Unit → X = if c.y = 258 then (if tableV c.L then decide (c = dnS c.L) else false) else if c.t = 4 ∨ c.t = 5 then (if knB c.L c.y then decide (OnP c) else false) else false := fun _ => by rw [HDEF (), if_neg hlow]
  clear HDEF
  have hc45 : (c.t = 4 ∨ c.t = 5) ∨ ¬ (c.t = 4 ∨ c.t = 5) := Classical.em _
  go_cut [3] (fun s wx => s = .bool false ∧ wx = w1)
  case first =>
    by_cases h0 : 0 ≤ c.t
    · have e1 : decide (0 ≤ c.t) = true := decide_eq_true h0
      have e2 : decide (c.t < 4) = false := decide_eq_false (by omega)
      go_wp2_with fail
      go_meet
      exact ⟨rfl, rfl⟩
    · have e1 : decide (0 ≤ c.t) = false := decide_eq_false h0
      go_wp2_with fail
      go_meet
      exact ⟨rfl, rfl⟩
  case rest =>
    obtain ⟨rfl, hwc⟩ := hcut
    obtain rfl : w1 = wc := hwc.symm
    clear hlow cy ct cn ca
    have HDC := Lib.hid (fun W => isDone_call c hcL W)
    have HTC := Lib.hid (fun W => table_call c.L hT.lng W)
    by_cases hy : c.y = 258
    · have HDEF3 : Unit → X = if tableV c.L then decide (c = dnS c.L) else false := fun _ => by rw [HDEF2 (), if_pos hy]
      have hd : decide (c.y = 258) = true := decide_eq_true hy
      rw [hd] at HDC
      clear HDEF2 hd hc45
      go_upto_region 4 with (first
        | (refine wpList_load_row rfl 25 _ rfl w.heap.size rfl 25 (tg c) (0, 0) _ ha Try.underlying25 rfl (tstIk hcL) ?_)
        | (with_reducible refine (HDC.out _).mono ?_
           rintro e w2 ⟨rfl, hb2⟩
           have ha2 := heap_on hb2 ha
           have HB2 := Lib.hid (HB.out.trans (hb2.mono HB.out.size))))
      clear hb2 ha HB
      by_cases htab : tableV c.L = true
      · have HX := Lib.hid (show X = decide (c = dnS c.L) by rw [HDEF3 (), if_pos htab])
        have HEQ := Lib.hid (fun W => run_eqi_tst W hT (dnS_tst hT.lng))
        rw [htab] at HTC
        clear HDEF3
        generalize decide (c = dnS c.L) = D at HX HEQ
        refine wp_region_noPanic ?_
        refine wp_region_held_drew (S := fun W => W.heap[w.heap.size]? = some (.cells (tg c) 25 (0, 0)) ∧ Below w.heap.size w W) (by kernel_rfl) ⟨ha2, HB2.out.drew⟩ (fun hHeld => ?_)
        refine wpAnyH_take (i := 0) (v := ?_) rfl (by kernel_rfl) (by kernel_rfl) (by kernel_rfl) (fun _ _ _ h => h) (Or.inl ⟨by rfl, ?_⟩) (by assumption) ?_
        rotate_left
        · (intro W hSw; go_simp) <;> with_reducible rfl
        try simp only [Act.put, List.getElem_toArray, List.getElem_cons_succ, List.getElem_cons_zero, List.setIfInBounds_toArray, List.set_cons_zero, List.set_cons_succ]
        refine wpAnyH_take (i := 1) (v := .agg ((lg c.L).toList).toArray) rfl (by kernel_rfl) (by kernel_rfl) (by kernel_rfl) (fun _ _ _ h => h) (yieldsIf_load_mid rfl 23 _ rfl w.heap.size 0 rfl ((lg c.L).toList) _ (fun W hW => tg_range hW.1 hcL) Try.underlying23 rfl (by rw [Array.length_toList]; exact lngIk hT.lng)) (by assumption) ?_
        try simp only [Act.put, List.getElem_toArray, List.getElem_cons_succ, List.getElem_cons_zero, List.setIfInBounds_toArray, List.set_cons_zero, List.set_cons_succ]
        refine wpAnyH_ready (rs := [2]) (by kernel_rfl) (by simp) ?_
        refine AllReadyH.cons (o := _) rfl (fun K hK => ?_) (AllReadyH.nil)
        go_simp
        go_at_call 28
        refine (HTC.out _).mono ?_
        rintro e w5 ⟨rfl, hb5⟩
        refine hK.out _ _ ⟨heap_on hb5 hHeld.1, hHeld.2.trans (hb5.mono hHeld.2.size)⟩ (fun hHeldN => ?_)
        clear K hK hHeld
        have hHeld := hHeldN
        clear hHeldN
        try simp only [Act.put, List.getElem_toArray, List.getElem_cons_succ, List.getElem_cons_zero, List.setIfInBounds_toArray, List.set_cons_zero, List.set_cons_succ]
        refine wpAnyH_take (i := 3) (v := ?_) rfl (by kernel_rfl) (by kernel_rfl) (by kernel_rfl) (fun _ _ _ h => h) (Or.inl ⟨by rfl, ?_⟩) (by assumption) ?_
        rotate_left
        · (intro W hSw; go_simp) <;> with_reducible rfl
        try simp only [Act.put, List.getElem_toArray, List.getElem_cons_succ, List.getElem_cons_zero, List.setIfInBounds_toArray, List.set_cons_zero, List.set_cons_succ]
        refine wpAnyH_take (i := 4) (v := .agg (tg c)) rfl (by kernel_rfl) (by kernel_rfl) (by kernel_rfl) (fun _ _ _ h => h) (yieldsIf_load_mid rfl 25 _ rfl w.heap.size 0 rfl (tgl c) _ (fun W hW => tg_whole hW.1) Try.underlying25 rfl (by rw [tgl_len hcL]; exact tstI)) (by assumption) ?_
        try simp only [Act.put, List.getElem_toArray, List.getElem_cons_succ, List.getElem_cons_zero, List.setIfInBounds_toArray, List.set_cons_zero, List.set_cons_succ]
        refine wpAnyH_take (i := 5) (v := ?_) rfl (by kernel_rfl) (by kernel_rfl) (by kernel_rfl) (fun _ _ _ h => h) (Or.inl ⟨by rfl, ?_⟩) (by assumption) ?_
        rotate_left
        · (intro W hSw; go_simp) <;> with_reducible rfl
        try simp only [Act.put, List.getElem_toArray, List.getElem_cons_succ, List.getElem_cons_zero, List.setIfInBounds_toArray, List.set_cons_zero, List.set_cons_succ]
        refine wpAnyH_take (i := 6) (v := .agg ((lg c.L).toList).toArray) rfl (by kernel_rfl) (by kernel_rfl) (by kernel_rfl) (fun _ _ _ h => h) (yieldsIf_load_mid rfl 23 _ rfl w.heap.size 0 rfl ((lg c.L).toList) _ (fun W hW => tg_range hW.1 hcL) Try.underlying23 rfl (by rw [Array.length_toList]; exact lngIk hT.lng)) (by assumption) ?_
        try simp only [Act.put, List.getElem_toArray, List.getElem_cons_succ, List.getElem_cons_zero, List.setIfInBounds_toArray, List.set_cons_zero, List.set_cons_succ]
        refine wpAnyH_ready (rs := [7]) (by kernel_rfl) (by simp) ?_
        refine AllReadyH.cons (o := _) rfl (fun K hK => ?_) (AllReadyH.nil)
        go_simp
        go_at_call 32
        refine (doneWith_call c.L hT.lng _).mono ?_
        rintro e w6 ⟨rfl, hb6⟩
        refine hK.out _ _ ⟨heap_on hb6 hHeld.1, hHeld.2.trans (hb6.mono hHeld.2.size)⟩ (fun hHeldN => ?_)
        clear K hK hHeld
        have hHeld := hHeldN
        clear hHeldN
        try simp only [Act.put, List.getElem_toArray, List.getElem_cons_succ, List.getElem_cons_zero, List.setIfInBounds_toArray, List.set_cons_zero, List.set_cons_succ]
        refine wpAnyH_take (i := 8) (v := ?_) rfl (by kernel_rfl) (by kernel_rfl) (by kernel_rfl) (fun _ _ _ h => h) (Or.inl ⟨by rfl, ?_⟩) (by assumption) ?_
        rotate_left
        · (intro W hSw; have heq := HEQ.out; go_simp) <;> with_reducible rfl
        try simp only [Act.put, List.getElem_toArray, List.getElem_cons_succ, List.getElem_cons_zero, List.setIfInBounds_toArray, List.set_cons_zero, List.set_cons_succ]
        refine wpAnyH_take (i := 9) (v := ?_) rfl (by kernel_rfl) (by kernel_rfl) (by kernel_rfl) (fun _ _ _ h => h) (Or.inl ⟨by rfl, ?_⟩) (by assumption) ?_
        rotate_left
        · (intro W hSw; go_simp) <;> with_reducible rfl
        try simp only [Act.put, List.getElem_toArray, List.getElem_cons_succ, List.getElem_cons_zero, List.setIfInBounds_toArray, List.set_cons_zero, List.set_cons_succ]
        refine wpAnyH_take (i := 10) (v := ?_) rfl (by kernel_rfl) (by kernel_rfl) (by kernel_rfl) (fun _ _ _ h => h) (Or.inl ⟨by rfl, ?_⟩) (by assumption) ?_
        rotate_left
        · (intro W hSw; go_simp) <;> with_reducible rfl
        try simp only [Act.put, List.getElem_toArray, List.getElem_cons_succ, List.getElem_cons_zero, List.setIfInBounds_toArray, List.set_cons_zero, List.set_cons_succ]
        refine wpAnyH_done (by kernel_rfl) ?_ _
        refine NoPanic.normal ?_
        go_wp2
        go_ret
        exact ⟨by rw [HX.out]; rfl, hHeld.2⟩
      · have htab2 : tableV c.L = false := by simpa using htab
        have HX := Lib.hid (show X = false by rw [HDEF3 (), if_neg htab])
        rw [htab2] at HTC
        clear HDEF3
        refine wp_region_noPanic ?_
        refine wp_region_held_drew (S := fun W => W.heap[w.heap.size]? = some (.cells (tg c) 25 (0, 0)) ∧ Below w.heap.size w W) (by kernel_rfl) ⟨ha2, HB2.out.drew⟩ (fun hHeld => ?_)
        refine wpAnyH_take (i := 0) (v := ?_) rfl (by kernel_rfl) (by kernel_rfl) (by kernel_rfl) (fun _ _ _ h => h) (Or.inl ⟨by rfl, ?_⟩) (by assumption) ?_
        rotate_left
        · (intro W hSw; go_simp) <;> with_reducible rfl
        try simp only [Act.put, List.getElem_toArray, List.getElem_cons_succ, List.getElem_cons_zero, List.setIfInBounds_toArray, List.set_cons_zero, List.set_cons_succ]
        refine wpAnyH_take (i := 1) (v := .agg ((lg c.L).toList).toArray) rfl (by kernel_rfl) (by kernel_rfl) (by kernel_rfl) (fun _ _ _ h => h) (yieldsIf_load_mid rfl 23 _ rfl w.heap.size 0 rfl ((lg c.L).toList) _ (fun W hW => tg_range hW.1 hcL) Try.underlying23 rfl (by rw [Array.length_toList]; exact lngIk hT.lng)) (by assumption) ?_
        try simp only [Act.put, List.getElem_toArray, List.getElem_cons_succ, List.getElem_cons_zero, List.setIfInBounds_toArray, List.set_cons_zero, List.set_cons_succ]
        refine wpAnyH_ready (rs := [2]) (by kernel_rfl) (by simp) ?_
        refine AllReadyH.cons (o := _) rfl (fun K hK => ?_) (AllReadyH.nil)
        go_simp
        go_at_call 28
        refine (HTC.out _).mono ?_
        rintro e w5 ⟨rfl, hb5⟩
        refine hK.out _ _ ⟨heap_on hb5 hHeld.1, hHeld.2.trans (hb5.mono hHeld.2.size)⟩ (fun hHeldN => ?_)
        clear K hK hHeld
        have hHeld := hHeldN
        clear hHeldN
        try simp only [Act.put, List.getElem_toArray, List.getElem_cons_succ, List.getElem_cons_zero, List.setIfInBounds_toArray, List.set_cons_zero, List.set_cons_succ]
        refine wpAnyH_take (i := 3) (v := ?_) rfl (by kernel_rfl) (by kernel_rfl) (by kernel_rfl) (fun _ _ _ h => h) (Or.inl ⟨by rfl, ?_⟩) (by assumption) ?_
        rotate_left
        · (intro W hSw; go_simp) <;> with_reducible rfl
        try simp only [Act.put, List.getElem_toArray, List.getElem_cons_succ, List.getElem_cons_zero, List.setIfInBounds_toArray, List.set_cons_zero, List.set_cons_succ]
        refine wpAnyH_take (i := 4) (v := undef) rfl (by kernel_rfl) (by kernel_rfl) (by kernel_rfl) (fun _ _ _ h => h) (Or.inr ⟨by rfl, rfl⟩) (by assumption) ?_
        try simp only [Act.put, List.getElem_toArray, List.getElem_cons_succ, List.getElem_cons_zero, List.setIfInBounds_toArray, List.set_cons_zero, List.set_cons_succ]
        refine wpAnyH_take (i := 5) (v := undef) rfl (by kernel_rfl) (by kernel_rfl) (by kernel_rfl) (fun _ _ _ h => h) (Or.inr ⟨by rfl, rfl⟩) (by assumption) ?_
        try simp only [Act.put, List.getElem_toArray, List.getElem_cons_succ, List.getElem_cons_zero, List.setIfInBounds_toArray, List.set_cons_zero, List.set_cons_succ]
        refine wpAnyH_take (i := 6) (v := undef) rfl (by kernel_rfl) (by kernel_rfl) (by kernel_rfl) (fun _ _ _ h => h) (Or.inr ⟨by rfl, rfl⟩) (by assumption) ?_
        try simp only [Act.put, List.getElem_toArray, List.getElem_cons_succ, List.getElem_cons_zero, List.setIfInBounds_toArray, List.set_cons_zero, List.set_cons_succ]
        refine wpAnyH_take (i := 7) (v := undef) rfl (by kernel_rfl) (by kernel_rfl) (by kernel_rfl) (fun _ _ _ h => h) (Or.inr ⟨by rfl, rfl⟩) (by assumption) ?_
        try simp only [Act.put, List.getElem_toArray, List.getElem_cons_succ, List.getElem_cons_zero, List.setIfInBounds_toArray, List.set_cons_zero, List.set_cons_succ]
        refine wpAnyH_take (i := 8) (v := undef) rfl (by kernel_rfl) (by kernel_rfl) (by kernel_rfl) (fun _ _ _ h => h) (Or.inr ⟨by rfl, rfl⟩) (by assumption) ?_
        try simp only [Act.put, List.getElem_toArray, List.getElem_cons_succ, List.getElem_cons_zero, List.setIfInBounds_toArray, List.set_cons_zero, List.set_cons_succ]
        refine wpAnyH_take (i := 9) (v := ?_) rfl (by kernel_rfl) (by kernel_rfl) (by kernel_rfl) (fun _ _ _ h => h) (Or.inl ⟨by rfl, ?_⟩) (by assumption) ?_
        rotate_left
        · (intro W hSw; go_simp) <;> with_reducible rfl
        try simp only [Act.put, List.getElem_toArray, List.getElem_cons_succ, List.getElem_cons_zero, List.setIfInBounds_toArray, List.set_cons_zero, List.set_cons_succ]
        refine wpAnyH_take (i := 10) (v := ?_) rfl (by kernel_rfl) (by kernel_rfl) (by kernel_rfl) (fun _ _ _ h => h) (Or.inl ⟨by rfl, ?_⟩) (by assumption) ?_
        rotate_left
        · (intro W hSw; go_simp) <;> with_reducible rfl
        try simp only [Act.put, List.getElem_toArray, List.getElem_cons_succ, List.getElem_cons_zero, List.setIfInBounds_toArray, List.set_cons_zero, List.set_cons_succ]
        refine wpAnyH_done (by kernel_rfl) ?_ _
        refine NoPanic.normal ?_
        go_wp2
        go_ret
        exact ⟨by rw [HX.out]; rfl, hHeld.2⟩
    · have HDEF3 : Unit → X = if c.t = 4 ∨ c.t = 5 then (if knB c.L c.y then decide (OnP c) else false) else false := fun _ => by rw [HDEF2 (), if_neg hy]
      have hd : decide (c.y = 258) = false := decide_eq_false hy
      rw [hd] at HDC
      clear HDEF2 hd
      go_upto_region 5 with (first
        | (refine wpList_load_row rfl 25 _ rfl w.heap.size rfl 25 (tg c) (0, 0) _ ha Try.underlying25 rfl (tstIk hcL) ?_)
        | (with_reducible refine (HDC.out _).mono ?_
           rintro e w2 ⟨rfl, hb2⟩
           have ha2 := heap_on hb2 ha
           have HB2 := Lib.hid (HB.out.trans (hb2.mono HB.out.size))))
      clear hb2 ha HB
      obtain ⟨cy, ct, cn, ca⟩ := tg_cells ha2 hcL
      rcases hc45 with h45 | h45
      · have HDEF4 : Unit → X = if knB c.L c.y then decide (OnP c) else false := fun _ => by rw [HDEF3 (), if_pos h45]
        clear HDEF3
        go_cut [45] (fun s wx => s = .bool true ∧ wx = w2)
        case first =>
          rcases h45 with e | e
          · have e1 : (c.t == 4) = true := beq_iff_eq.2 e
            go_wp2_with fail
            go_meet
            exact ⟨rfl, rfl⟩
          · have e1 : (c.t == 4) = false := beq_eq_false_iff_ne.2 (by omega)
            have e2 : (c.t == 5) = true := beq_iff_eq.2 e
            go_wp2_with fail
            go_meet
            exact ⟨rfl, rfl⟩
        case rest =>
          obtain ⟨rfl, hwc⟩ := hcut
          obtain rfl : w2 = wc := hwc.symm
          have hrg := tg_range ha2 hcL
          have HKC := Lib.hid (fun W => isKnown_call c.L hT.lng c.y W)
          have HKN := Lib.hid (show knB c.L c.y = true → 0 ≤ c.y ∧ c.y ≤ 258 from fun h => by have := (knB_iff _ _).1 h; exact ⟨this.1, by have := this.2.1; omega⟩)
          generalize knB c.L c.y = kn at HKC HDEF4 HKN
          cases kn with
          | false =>
            have HX := Lib.hid (show X = false by rw [HDEF4 (), if_neg (by decide)])
            clear HDEF4
            go_wp2_with (first
              | (refine wpList_load_mid rfl 23 _ rfl w.heap.size 0 rfl (lg c.L).toList _ hrg Try.underlying23 rfl (by rw [Array.length_toList]; exact lngIk hT.lng) ?_)
              | (with_reducible refine (HKC.out _).mono ?_
                 rintro e w3 ⟨rfl, hb3⟩))
            go_ret
            exact ⟨by rw [HX.out]; rfl, HB2.out.trans (hb3.mono HB2.out.size)⟩
          | true =>
            have HX := Lib.hid (show X = decide (OnP c) by rw [HDEF4 (), if_pos rfl])
            have HOC := Lib.hid (fun W => isOnWay_call c hT (HKN.out rfl) W)
            generalize decide (OnP c) = O at HX HOC
            clear HDEF4
            go_wp2_with (first
              | (refine wpList_load_mid rfl 23 _ rfl w.heap.size 0 rfl (lg c.L).toList _ hrg Try.underlying23 rfl (by rw [Array.length_toList]; exact lngIk hT.lng) ?_)
              | (with_reducible refine (HKC.out _).mono ?_
                 rintro e w3 ⟨rfl, hb3⟩
                 have ha3 := heap_on hb3 ha2
                 have HB3 := Lib.hid (HB2.out.trans (hb3.mono HB2.out.size)))
              | (refine wpList_load_row_g 5 true rfl 59 rfl _ rfl rfl 25 _ rfl w.heap.size rfl 25 (tg c) (0, 0) _ ha3 Try.underlying25 rfl (tstIk hcL) ?_)
              | (with_reducible refine (HOC.out _).mono ?_
                 rintro e w4 ⟨rfl, hb4⟩))
            go_ret
            exact ⟨by rw [HX.out]; rfl, HB3.out.trans (hb4.mono HB3.out.size)⟩
      · have HX := Lib.hid (show X = false by rw [HDEF3 (), if_neg h45])
        have e1 : (c.t == 4) = false := beq_eq_false_iff_ne.2 (by omega)
        have e2 : (c.t == 5) = false := beq_eq_false_iff_ne.2 (by omega)
        clear HDEF3 h45
        go_wp2_with fail
        go_ret
        exact ⟨by rw [HX.out]; rfl, HB2.out⟩

theorem valid_call (c : TS) (hT : Tst c) (w : World) :
    Calls Try.prog 13 #[.agg (tg c)] w fun e w' => e = .returned (.bool (validS tableV c)) ∧ Below w.heap.size w w' := by
  by_cases h : 0 ≤ c.t ∧ c.t < 4
  · have ht : c.t = 0 ∨ c.t = 1 ∨ c.t = 2 ∨ c.t = 3 := by omega
    rcases ht with e | e | e | e
    · exact valid_low0 c hT e w
    · exact valid_low1 c hT e w
    · exact valid_low2 c hT e w
    · exact valid_low3 c hT e w
  · exact valid_high c hT h w
end Go.Proofs.Ytckopdifjhjppaa
