/- Law PrefixDecAny out of the contracts (genda.py). -/
import Derived.Test.YtbegpakjojiblaaPdP
import Derived.Deep.MidRow
set_option linter.unusedVariables false
set_option linter.unusedSimpArgs false
namespace Go.Proofs.Ytbegpakjojiblaa
open Go.RowKit

set_option maxRecDepth 100000 in
set_option maxHeartbeats 4000000 in
theorem any_call (CN : NewC) (CV : ValC) (CS : StpC) (CW : WkC) (l : List Int) (h : Lng l) (sp : Option Addr) (n cap : Nat) (q : List Int) (hq : q.length = n) (hn : n ≤ 9223372036854775807) (w : World) (hs : Src w .i64 sp q) :
    Calls Try.prog 3 #[.agg (lg l), .slice sp n cap] w fun e w' => e = .returned (.bool true) ∧ Below w.heap.size w w' := by
  have HWK := Lib.hid (fun W => CW W)
  have hnc := fun W => CN l h W
  have HT := Lib.hid (show tableV l = true → (if tableV l then l else zL) = l ∧ (if tableV l then (0 : Int) else 2) = 0 from fun e => by rw [e]; exact ⟨rfl, rfl⟩)
  have hL1 : Lng (if tableV l then l else zL) := by split; exact h; exact zL_lng
  generalize (if tableV l then l else zL) = L1 at hnc HT hL1
  generalize (if tableV l then (0 : Int) else 2) = E1 at hnc HT
  have hrt := fun W => rtable_call l h W
  have HS := Lib.hid hs
  have HQ := Lib.hid hq
  clear hs hq
  have hzT := stZ
  have hz0 := sg_size zL_lng 0 0
  have hz1 := sg_size hL1 0 0
  have hg := heap_alloc_last w (.cells (lg l) 23)
  have HB := Lib.hid ((Below.refl w.heap.size w).alloc (Nat.le_refl _) (.cells (lg l) 23))
  go_enter Try.func3, Try.ntmps3
  go_upto_region 1 with fail
  generalize w.alloc (.cells (lg l) 23) = w1 at hg HB ⊢
  go_upto_region 2 with (first
    | (refine wpList_load_row rfl 23 _ rfl w.heap.size rfl 23 (lg l) (0, 0) _ hg Try.underlying23 rfl (lngIk h) ?_)
    | ((with_reducible refine (hnc _).mono ?_); rintro e w2 ⟨rfl, hb2⟩)
    | (refine wpList_store_row rfl 26 _ _ rfl w2.heap.size (sg L1 0 0) rfl rfl 26 (sg zL 0 0) (heap_alloc_last w2 _) (stIk hL1 0 0) (by rw [hz0, hz1]) (sg_all _ _ _) ?_))
  rw [World.setRow_alloc_new]
  try simp only [Act.put]
  have hby := hb2.alloc (o := .cells (sg L1 0 0) 26) hb2.size
  have h5 := heap_alloc_last w2 (.cells (sg L1 0 0) 26)
  have hg3 := heap_on hby hg
  have HB3 := Lib.hid (HB.out.trans (hby.mono HB.out.size))
  obtain ⟨g5, hg5⟩ : ∃ g5, g5 = w2.heap.size := ⟨_, rfl⟩
  have hlt5 : w.heap.size < g5 := by
    have := hb2.size
    have := (Array.getElem?_eq_some_iff.1 hg).1
    omega
  rw [← hg5] at h5 ⊢
  clear hg5 hb2 hby hg HB hnc
  generalize w2.alloc (.cells (sg L1 0 0) 26) = w3 at h5 hg3 HB3 ⊢
  by_cases hn3 : 300 < n
  · have d1 : decide ((300 : Int) < (n : Int)) = true := decide_eq_true (by omega)
    clear HT hrt
    go_wp2_with (with_reducible refine (HWK.out _).mono ?_; rintro e z ⟨rfl, hb⟩)
    go_ret
    exact ⟨rfl, HB3.out.trans (hb.mono HB3.out.size)⟩
  have d1 : decide ((300 : Int) < (n : Int)) = false := decide_eq_false (by omega)
  have d1n : decide (300 < n) = false := decide_eq_false (by omega)
  cases htab : tableV l with
  | false =>
    rw [htab] at hrt
    clear HT htab
    go_wp2_with (first
      | (refine wpList_load_row_g 3 false rfl 20 rfl _ rfl rfl 23 _ rfl w.heap.size rfl 23 (lg l) (0, 0) _ hg3 Try.underlying23 rfl (lngIk h) ?_)
      | ((with_reducible refine (hrt _).mono ?_)
         rintro e w4 ⟨rfl, hb4⟩
         have HB4 := Lib.hid (HB3.out.trans (hb4.mono HB3.out.size))
         clear hb4)
      | ((with_reducible refine (HWK.out _).mono ?_)
         rintro e z ⟨rfl, hb⟩))
    go_ret
    exact ⟨rfl, HB4.out.trans (hb.mono HB4.out.size)⟩
  | true =>
  obtain ⟨rfl, rfl⟩ := HT.out htab
  have hTL : TL L1 := ⟨h, htab⟩
  rw [htab] at hrt
  clear HT htab
  go_upto_region 4 with (first
    | (refine wpList_load_row_g 3 false rfl 20 rfl _ rfl rfl 23 _ rfl w.heap.size rfl 23 (lg L1) (0, 0) _ hg3 Try.underlying23 rfl (lngIk h) ?_)
    | ((with_reducible refine (hrt _).mono ?_)
       rintro e w4 ⟨rfl, hb4⟩
       have HB4 := Lib.hid (HB3.out.trans (hb4.mono HB3.out.size))
       have H5 := Lib.hid (heap_on hb4 h5)
       have HG := Lib.hid (heap_on hb4 hg3)
       clear hb4))
  clear hrt h5 hg3 d1 d1n HB3
  go_wp2_with fail
  go_loopw [7, 8] (fun s v wr => ∃ (i c m : Nat), i ≤ n ∧ v = .int .i64 i ∧ s = .int .i64 m ∧ Pre L1 c m ∧ wr.heap[g5]? = some (.cells (sg L1 c m) 26 (0, 0)) ∧ wr.heap[w.heap.size]? = some (.cells (lg L1) 23 (0, 0)) ∧ Below w.heap.size w wr) (fun _ v _ => n - (intOf v).toNat)
  case atStart => exact ⟨0, 0, 0, by omega, rfl, rfl, Pre.zero, H5.out, HG.out, HB4.out⟩
  case round =>
    obtain ⟨i, c, m, hi, rfl, rfl, hp, hx, hgl, hb⟩ := hrel
    clear H5 HG HB4
    have HP := Lib.hid (fun _ : Unit => hp)
    have HX := Lib.hid hx
    have HL := Lib.hid hgl
    have HB := Lib.hid hb
    have hz5 : g5 < wr.heap.size := (Array.getElem?_eq_some_iff.1 hx).1
    have hm14 := hp.le
    have hc15 : c < 32768 := Nat.lt_of_lt_of_le hp.lt (Nat.le_trans (Nat.pow_le_pow_right (by omega) hm14) (by decide))
    clear hp hx hgl hb
    by_cases hlt : i < n
    · obtain ⟨g, o, rfl, hcb⟩ := HS.out.get (show i < q.length by rw [HQ.out]; exact hlt)
      have HCELL := Lib.hid (show ∀ W : World, Below w.heap.size w W → W.cell? ⟨g, o + i, none⟩ = some (.int .i64 (q.getD i 0)) from fun W hW => by
        obtain ⟨g2, o2, e, h⟩ := (HS.out.below hW).get (show i < q.length by rw [HQ.out]; exact hlt)
        injection e with e
        injection e with e1 e2
        subst e1 e2
        exact h)
      generalize q.getD i 0 = x at HCELL
      clear hcb
      have hy := i64_and1 x
      have hstep := fun W => CS L1 h (c : Int) (m : Int) (bits BinOp.and IntKind.i64 x 1) (WalkArith.wf_i64 ⟨by omega, by omega⟩) (WalkArith.wf_i64 ⟨by omega, by omega⟩) (WalkArith.wf_i64 ⟨by omega, by omega⟩) W
      have htell := stC_tell hTL (HP.out ()) (b := bits BinOp.and IntKind.i64 x 1) (by omega)
      obtain ⟨c2, m2, s2, dn, hst⟩ : ∃ c2 m2 s2 dn, stC L1 (c : Int) (m : Int) (bits BinOp.and IntKind.i64 x 1) = (c2, m2, s2, dn) := ⟨_, _, _, _, rfl⟩
      rw [hst] at hstep htell
      have HSTP := Lib.hid hstep
      have HTELL := Lib.hid (fun _ : Unit => htell)
      clear hstep htell hst hy HP
      go_upto_region 10 with fail
      go_cut [9, 10, 11] (fun s9 s10 s11 wx => ∃ g9 : Nat, s9 = .pointer (some ⟨g9, 0, none⟩) ∧ s10 = .int .i64 s2 ∧ s11 = .bool dn ∧ wx.heap[g9]? = some (.cells (sg L1 c2 m2) 26 (0, 0)) ∧ g5 < g9 ∧ wx.heap[g5]? = some (.cells (sg L1 c m) 26 (0, 0)) ∧ wx.heap[w.heap.size]? = some (.cells (lg L1) 23 (0, 0)) ∧ Below w.heap.size w wx)
      case first =>
        refine wp_region_noPanic ?_
        refine wp_region_held_drew (S := fun W => W.heap[g5]? = some (.cells (sg L1 c m) 26 (0, 0)) ∧ W.heap[w.heap.size]? = some (.cells (lg L1) 23 (0, 0)) ∧ Below w.heap.size w W) (by kernel_rfl) ⟨HX.out, HL.out, HB.out.drew⟩ (fun hHeld => ?_)
        refine wpAnyH_take (i := 0) (v := .agg (sg L1 c m)) rfl (by kernel_rfl) (by kernel_rfl) (by kernel_rfl) (fun _ _ _ h => h) (yieldsIf_load_mid rfl 26 _ rfl g5 0 rfl (sgl L1 c m) _ (fun W hW => sg_whole hW.1) Try.underlying26 rfl (by rw [sgl_len h]; exact stI)) (by assumption) ?_
        try simp only [Act.put, List.getElem_toArray, List.getElem_cons_succ, List.getElem_cons_zero, List.setIfInBounds_toArray, List.set_cons_zero, List.set_cons_succ]
        refine wpAnyH_take (i := 1) (v := ?_) rfl (by kernel_rfl) (by kernel_rfl) (by kernel_rfl) (fun _ _ _ h => h) (Or.inl ⟨by rfl, ?_⟩) (by assumption) ?_
        rotate_left
        · (intro W hSw; go_simp) <;> with_reducible rfl
        try simp only [Act.put, List.getElem_toArray, List.getElem_cons_succ, List.getElem_cons_zero, List.setIfInBounds_toArray, List.set_cons_zero, List.set_cons_succ]
        refine wpAnyH_take (i := 2) (v := ?_) rfl (by kernel_rfl) (by kernel_rfl) (by kernel_rfl) (fun _ _ _ h => h) (Or.inl ⟨by rfl, ?_⟩) (by assumption) ?_
        rotate_left
        · (intro W hSw; go_simp) <;> with_reducible rfl
        try simp only [Act.put, List.getElem_toArray, List.getElem_cons_succ, List.getElem_cons_zero, List.setIfInBounds_toArray, List.set_cons_zero, List.set_cons_succ]
        refine wpAnyH_take (i := 3) (v := ?_) rfl (by kernel_rfl) (by kernel_rfl) (by kernel_rfl) (fun _ _ _ h => h) (Or.inl ⟨by rfl, ?_⟩) (by assumption) ?_
        rotate_left
        · (intro W hSw; have hcW := HCELL.out W hSw.2.2; go_simp) <;> with_reducible rfl
        try simp only [Act.put, List.getElem_toArray, List.getElem_cons_succ, List.getElem_cons_zero, List.setIfInBounds_toArray, List.set_cons_zero, List.set_cons_succ]
        refine wpAnyH_take (i := 4) (v := ?_) rfl (by kernel_rfl) (by kernel_rfl) (by kernel_rfl) (fun _ _ _ h => h) (Or.inl ⟨by rfl, ?_⟩) (by assumption) ?_
        rotate_left
        · (intro W hSw; have hcW := HCELL.out W hSw.2.2; go_simp) <;> with_reducible rfl
        try simp only [Act.put, List.getElem_toArray, List.getElem_cons_succ, List.getElem_cons_zero, List.setIfInBounds_toArray, List.set_cons_zero, List.set_cons_succ]
        refine wpAnyH_take (i := 5) (v := ?_) rfl (by kernel_rfl) (by kernel_rfl) (by kernel_rfl) (fun _ _ _ h => h) (Or.inl ⟨by rfl, ?_⟩) (by assumption) ?_
        rotate_left
        · (intro W hSw; go_simp) <;> with_reducible rfl
        try simp only [Act.put, List.getElem_toArray, List.getElem_cons_succ, List.getElem_cons_zero, List.setIfInBounds_toArray, List.set_cons_zero, List.set_cons_succ]
        refine wpAnyH_ready (rs := [6, 11]) (by kernel_rfl) (by simp) ?_
        refine AllReadyH.cons (o := _) rfl (fun K hK => ?_) (AllReadyH.cons (o := _) rfl (fun K hK => ?_) (AllReadyH.nil))
        · go_simp
          go_at_call 7
          refine (HSTP.out _).mono ?_
          rintro e w5 ⟨rfl, hb5⟩
          have hle5 : wr.heap.size ≤ w5.heap.size := hb5.size
          refine hK.out _ _ ⟨heap_on hb5 hHeld.1, heap_on hb5 hHeld.2.1, hHeld.2.2.trans (hb5.mono hHeld.2.2.size)⟩ (fun hHeldN => ?_)
          clear hK K hHeld
          have hHeld := hHeldN
          clear hHeldN
          try simp only [Act.put, List.getElem_toArray, List.getElem_cons_succ, List.getElem_cons_zero, List.setIfInBounds_toArray, List.set_cons_zero, List.set_cons_succ]
          refine wpAnyH_take (i := 7) (v := ?_) rfl (by kernel_rfl) (by kernel_rfl) (by kernel_rfl) (fun _ _ _ h => h) (Or.inl ⟨by rfl, ?_⟩) (by assumption) ?_
          rotate_left
          · (intro W hSw; go_simp) <;> with_reducible rfl
          try simp only [Act.put, List.getElem_toArray, List.getElem_cons_succ, List.getElem_cons_zero, List.setIfInBounds_toArray, List.set_cons_zero, List.set_cons_succ]
          refine wpAnyH_take (i := 8) (v := ?_) rfl (by kernel_rfl) (by kernel_rfl) (by kernel_rfl) (fun _ _ _ h => h) (Or.inl ⟨by rfl, ?_⟩) (by assumption) ?_
          rotate_left
          · (intro W hSw; go_simp) <;> with_reducible rfl
          try simp only [Act.put, List.getElem_toArray, List.getElem_cons_succ, List.getElem_cons_zero, List.setIfInBounds_toArray, List.set_cons_zero, List.set_cons_succ]
          refine wpAnyH_take (i := 9) (v := ?_) rfl (by kernel_rfl) (by kernel_rfl) (by kernel_rfl) (fun _ _ _ h => h) (Or.inl ⟨by rfl, ?_⟩) (by assumption) ?_
          rotate_left
          · (intro W hSw; go_simp) <;> with_reducible rfl
          try simp only [Act.put, List.getElem_toArray, List.getElem_cons_succ, List.getElem_cons_zero, List.setIfInBounds_toArray, List.set_cons_zero, List.set_cons_succ]
          refine wpAnyH_take (i := 10) (v := ?_) rfl (by kernel_rfl) (by kernel_rfl) (by kernel_rfl) (fun _ _ _ h => h) (Or.inl ⟨by rfl, ?_⟩) (by assumption) ?_
          rotate_left
          · (intro W hSw; go_simp) <;> with_reducible rfl
          try simp only [Act.put, List.getElem_toArray, List.getElem_cons_succ, List.getElem_cons_zero, List.setIfInBounds_toArray, List.set_cons_zero, List.set_cons_succ]
          refine wpAnyH_ready (rs := [11]) (by kernel_rfl) (by simp) ?_
          refine AllReadyH.cons (o := _) rfl (fun K hK => ?_) (AllReadyH.nil)
          go_simp
          have hr7 := heap_alloc_last w5 (.cells (sg zL 0 0) 26)
          refine hK.out _ _ ⟨heap_on (below_al w5 _) hHeld.1, heap_on (below_al w5 _) hHeld.2.1, hHeld.2.2.alloc hHeld.2.2.size _⟩ (fun hHeldN => ?_)
          clear K hK hHeld
          have hHeld := hHeldN
          clear hHeldN
          try simp only [Act.put, List.getElem_toArray, List.getElem_cons_succ, List.getElem_cons_zero, List.setIfInBounds_toArray, List.set_cons_zero, List.set_cons_succ]
          refine wpAnyH_ready (rs := [12]) (by kernel_rfl) (by simp) ?_
          refine AllReadyH.cons (o := _) rfl (fun K hK => ?_) (AllReadyH.nil)
          rw [if_pos (by rfl)]
          refine wp_store_row 26 _ _ rfl w5.heap.size (sg L1 c2 m2) rfl rfl 26 (sg zL 0 0) hr7 (stIk h c2 m2) (by rw [hz0, sg_size h]) (sg_all _ _ _) ?_
          refine hK.out _ _ ⟨(setRow_other _ _ _ _ (by omega)).trans hHeld.1, (setRow_other _ _ _ _ (by omega)).trans hHeld.2.1, hHeld.2.2.setRow (by omega) _⟩ (fun hHeldN => ?_)
          clear K hK hHeld
          have hHeld := hHeldN
          clear hHeldN
          try simp only [Act.put, List.getElem_toArray, List.getElem_cons_succ, List.getElem_cons_zero, List.setIfInBounds_toArray, List.set_cons_zero, List.set_cons_succ]
          refine wpAnyH_take (i := 13) (v := ?_) rfl (by kernel_rfl) (by kernel_rfl) (by kernel_rfl) (fun _ _ _ h => h) (Or.inl ⟨by rfl, ?_⟩) (by assumption) ?_
          rotate_left
          · (intro W hSw; go_simp) <;> with_reducible rfl
          try simp only [Act.put, List.getElem_toArray, List.getElem_cons_succ, List.getElem_cons_zero, List.setIfInBounds_toArray, List.set_cons_zero, List.set_cons_succ]
          refine wpAnyH_take (i := 14) (v := ?_) rfl (by kernel_rfl) (by kernel_rfl) (by kernel_rfl) (fun _ _ _ h => h) (Or.inl ⟨by rfl, ?_⟩) (by assumption) ?_
          rotate_left
          · (intro W hSw; go_simp) <;> with_reducible rfl
          try simp only [Act.put, List.getElem_toArray, List.getElem_cons_succ, List.getElem_cons_zero, List.setIfInBounds_toArray, List.set_cons_zero, List.set_cons_succ]
          refine wpAnyH_done (by kernel_rfl) ?_ _
          refine NoPanic.normal ?_
          have hrr := setRow_heap _ _ _ (sg L1 c2 m2) _ _ hr7
          go_wp2
          go_meet
          exact ⟨w5.heap.size, rfl, rfl, rfl, hrr, by omega, hHeld.1, hHeld.2.1, hHeld.2.2⟩
        · go_simp
          have hr70 := heap_alloc_last wr.drew (.cells (sg zL 0 0) 26)
          refine hK.out _ _ ⟨heap_on (below_al wr.drew _) hHeld.1, heap_on (below_al wr.drew _) hHeld.2.1, hHeld.2.2.alloc hHeld.2.2.size _⟩ (fun hHeldN => ?_)
          clear K hK hHeld
          have hHeld := hHeldN
          clear hHeldN
          try simp only [Act.put, List.getElem_toArray, List.getElem_cons_succ, List.getElem_cons_zero, List.setIfInBounds_toArray, List.set_cons_zero, List.set_cons_succ]
          refine wpAnyH_ready (rs := [6]) (by kernel_rfl) (by simp) ?_
          refine AllReadyH.cons (o := _) rfl (fun K hK => ?_) (AllReadyH.nil)
          go_simp
          go_at_call 7
          refine (HSTP.out _).mono ?_
          rintro e w5 ⟨rfl, hb5⟩
          have hr7 := heap_on hb5 hr70
          refine hK.out _ _ ⟨heap_on hb5 hHeld.1, heap_on hb5 hHeld.2.1, hHeld.2.2.trans (hb5.mono hHeld.2.2.size)⟩ (fun hHeldN => ?_)
          clear hK K hHeld hr70
          have hHeld := hHeldN
          clear hHeldN
          try simp only [Act.put, List.getElem_toArray, List.getElem_cons_succ, List.getElem_cons_zero, List.setIfInBounds_toArray, List.set_cons_zero, List.set_cons_succ]
          refine wpAnyH_take (i := 7) (v := ?_) rfl (by kernel_rfl) (by kernel_rfl) (by kernel_rfl) (fun _ _ _ h => h) (Or.inl ⟨by rfl, ?_⟩) (by assumption) ?_
          rotate_left
          · (intro W hSw; go_simp) <;> with_reducible rfl
          try simp only [Act.put, List.getElem_toArray, List.getElem_cons_succ, List.getElem_cons_zero, List.setIfInBounds_toArray, List.set_cons_zero, List.set_cons_succ]
          refine wpAnyH_take (i := 8) (v := ?_) rfl (by kernel_rfl) (by kernel_rfl) (by kernel_rfl) (fun _ _ _ h => h) (Or.inl ⟨by rfl, ?_⟩) (by assumption) ?_
          rotate_left
          · (intro W hSw; go_simp) <;> with_reducible rfl
          try simp only [Act.put, List.getElem_toArray, List.getElem_cons_succ, List.getElem_cons_zero, List.setIfInBounds_toArray, List.set_cons_zero, List.set_cons_succ]
          refine wpAnyH_take (i := 9) (v := ?_) rfl (by kernel_rfl) (by kernel_rfl) (by kernel_rfl) (fun _ _ _ h => h) (Or.inl ⟨by rfl, ?_⟩) (by assumption) ?_
          rotate_left
          · (intro W hSw; go_simp) <;> with_reducible rfl
          try simp only [Act.put, List.getElem_toArray, List.getElem_cons_succ, List.getElem_cons_zero, List.setIfInBounds_toArray, List.set_cons_zero, List.set_cons_succ]
          refine wpAnyH_take (i := 10) (v := ?_) rfl (by kernel_rfl) (by kernel_rfl) (by kernel_rfl) (fun _ _ _ h => h) (Or.inl ⟨by rfl, ?_⟩) (by assumption) ?_
          rotate_left
          · (intro W hSw; go_simp) <;> with_reducible rfl
          try simp only [Act.put, List.getElem_toArray, List.getElem_cons_succ, List.getElem_cons_zero, List.setIfInBounds_toArray, List.set_cons_zero, List.set_cons_succ]
          refine wpAnyH_ready (rs := [12]) (by kernel_rfl) (by simp) ?_
          refine AllReadyH.cons (o := _) rfl (fun K hK => ?_) (AllReadyH.nil)
          rw [if_pos (by rfl)]
          refine wp_store_row 26 _ _ rfl wr.heap.size (sg L1 c2 m2) rfl rfl 26 (sg zL 0 0) hr7 (stIk h c2 m2) (by rw [hz0, sg_size h]) (sg_all _ _ _) ?_
          refine hK.out _ _ ⟨(setRow_other _ _ _ _ (by omega)).trans hHeld.1, (setRow_other _ _ _ _ (by omega)).trans hHeld.2.1, hHeld.2.2.setRow (by omega) _⟩ (fun hHeldN => ?_)
          clear K hK hHeld
          have hHeld := hHeldN
          clear hHeldN
          try simp only [Act.put, List.getElem_toArray, List.getElem_cons_succ, List.getElem_cons_zero, List.setIfInBounds_toArray, List.set_cons_zero, List.set_cons_succ]
          refine wpAnyH_take (i := 13) (v := ?_) rfl (by kernel_rfl) (by kernel_rfl) (by kernel_rfl) (fun _ _ _ h => h) (Or.inl ⟨by rfl, ?_⟩) (by assumption) ?_
          rotate_left
          · (intro W hSw; go_simp) <;> with_reducible rfl
          try simp only [Act.put, List.getElem_toArray, List.getElem_cons_succ, List.getElem_cons_zero, List.setIfInBounds_toArray, List.set_cons_zero, List.set_cons_succ]
          refine wpAnyH_take (i := 14) (v := ?_) rfl (by kernel_rfl) (by kernel_rfl) (by kernel_rfl) (fun _ _ _ h => h) (Or.inl ⟨by rfl, ?_⟩) (by assumption) ?_
          rotate_left
          · (intro W hSw; go_simp) <;> with_reducible rfl
          try simp only [Act.put, List.getElem_toArray, List.getElem_cons_succ, List.getElem_cons_zero, List.setIfInBounds_toArray, List.set_cons_zero, List.set_cons_succ]
          refine wpAnyH_done (by kernel_rfl) ?_ _
          refine NoPanic.normal ?_
          have hrr := setRow_heap _ _ _ (sg L1 c2 m2) _ _ hr7
          go_wp2
          go_meet
          exact ⟨wr.heap.size, rfl, rfl, rfl, hrr, by omega, hHeld.1, hHeld.2.1, hHeld.2.2⟩
      case rest =>
        obtain ⟨g9, rfl, rfl, rfl, h9, h95, h5, hgl, hb⟩ := hcut
        have HB2 := Lib.hid hb
        have H5 := Lib.hid h5
        have HL2 := Lib.hid hgl
        clear hb h5 hgl HX HL HB HCELL HSTP
        have hkw : IntKind.i64.wrap ((m : Int) + 1) = (m : Int) + 1 := IntWalk.i64_in _ (by omega)
        have hne : ((m : Int) + 1 != (m : Int) + 1) = false := by simp
        have hd15 : decide ((15 : Int) < (m : Int) + 1) = false := decide_eq_false (by omega)
        rcases HTELL.out () with ⟨s, e, hs258, hls, _, hm15⟩ | ⟨c3, e, hc3, hp3⟩
        · injection e with e1 e2
          injection e2 with e2 e3
          injection e3 with e3 e4
          subst e1 e2 e3 e4
          have hls2 : L1.getD s 0 = (m : Int) + 1 := by omega
          have HVC := Lib.hid (fun W => show Calls Try.prog 8 #[.agg (sg L1 0 0)] W fun e w' => e = .returned (.bool true) ∧ Below W.heap.size W w' from by
            have h := CV L1 h 0 0 (by decide) (by decide) W
            rw [show valC L1 0 0 = true from Pre.zero.valid hTL] at h
            exact h)
          have HLC := Lib.hid (fun (W : World) (hW : W.heap[w.heap.size]? = some (.cells (lg L1) 23 (0, 0))) => show W.cell? ⟨w.heap.size, s, none⟩ = some (.int .u8 ((m : Int) + 1)) from by
            have := lg_cell hW h s hs258
            rw [hls2] at this
            exact this)
          have hsI : (s : Int) < 258 := by omega
          have ds0 : decide ((s : Int) < 0) = false := decide_eq_false (by omega)
          have ds1 : decide ((258 : Int) ≤ (s : Int)) = false := decide_eq_false (by omega)
          clear HTELL hls hls2
          go_upto_region 12 with fail
          go_wp2_with (first
            | (refine wpList_load_row_g 2 false rfl 49 rfl _ rfl rfl 26 _ rfl g9 rfl 26 (sg L1 0 0) (0, 0) _ h9 Try.underlying26 rfl (stIk h 0 0) ?_)
            | fail)
          with_reducible refine (HVC.out _).mono ?_
          rintro e z ⟨rfl, hbz⟩
          have H9Z := Lib.hid (heap_on hbz h9)
          have H5Z := Lib.hid (heap_on hbz H5.out)
          have HLz := Lib.hid (heap_on hbz HL2.out)
          have HBz := Lib.hid (HB2.out.trans (hbz.mono HB2.out.size))
          have hcl := HLC.out z HLz.out
          clear hbz h9 HVC H5 HL2 HB2
          go_upto_region 16 with fail
          clear hcl
          have h9z := H9Z.out
          have h5z := H5Z.out
          go_upto_region 9 with (first
            | (refine wpList_load_row rfl 26 _ rfl g9 rfl 26 (sg L1 0 0) (0, 0) _ h9z Try.underlying26 rfl (stIk h 0 0) ?_)
            | (refine wpList_store_row rfl 26 _ _ rfl g5 (sg L1 0 0) rfl rfl 26 (sg L1 c m) h5z (stIk h 0 0) (by rw [sg_size h, sg_size h]) (sg_all L1 0 0) ?_))
          try simp only [Act.put]
          have HX2 := Lib.hid (setRow_heap _ _ _ (sg L1 0 0) _ _ h5z)
          have HL3 := Lib.hid ((setRow_other _ _ _ (sg L1 0 0) (by omega : w.heap.size ≠ g5)).trans HLz.out)
          have HB3 := Lib.hid (HBz.out.setRow (g := g5) (by omega) (sg L1 0 0))
          clear h5z h9z H9Z H5Z HLz HBz
          go_wp2_with fail
          exact ⟨⟨i + 1, 0, 0, by omega, by go_num, rfl, Pre.zero, HX2.out, HL3.out, HB3.out⟩, by simp [intOf]; omega⟩
        · injection e with e1 e2
          injection e2 with e2 e3
          injection e3 with e3 e4
          have hm1 : ((m + 1 : Nat) : Int) = (m : Int) + 1 := by omega
          rw [hm1] at e2
          subst e1 e2 e3 e4
          have hm2 := hp3.le
          have hc3b : c3 < 32768 := Nat.lt_of_lt_of_le hp3.lt (Nat.le_trans (Nat.pow_le_pow_right (by omega) hm2) (by decide))
          have HP3 := Lib.hid (fun _ : Unit => hp3)
          have HM1 := Lib.hid hm1
          have HVC := Lib.hid (fun W => show Calls Try.prog 8 #[.agg (sg L1 (c3 : Int) ((m : Int) + 1))] W fun e w' => e = .returned (.bool true) ∧ Below W.heap.size W w' from by
            have h2 := CV L1 h (c3 : Int) ((m : Int) + 1) (WalkArith.wf_i64 ⟨by omega, by omega⟩) (WalkArith.wf_i64 ⟨by omega, by omega⟩) W
            have h3 := hp3.valid hTL
            rw [hm1] at h3
            rw [h3] at h2
            exact h2)
          clear HTELL hc3 hp3 hm1
          go_upto_region 12 with fail
          go_wp2_with (first
            | (refine wpList_load_row_g 2 false rfl 49 rfl _ rfl rfl 26 _ rfl g9 rfl 26 (sg L1 (c3 : Int) ((m : Int) + 1)) (0, 0) _ h9 Try.underlying26 rfl (stIk h (c3 : Int) ((m : Int) + 1)) ?_)
            | fail)
          with_reducible refine (HVC.out _).mono ?_
          rintro e z ⟨rfl, hbz⟩
          have H9Z := Lib.hid (heap_on hbz h9)
          have H5Z := Lib.hid (heap_on hbz H5.out)
          have HLz := Lib.hid (heap_on hbz HL2.out)
          have HBz := Lib.hid (HB2.out.trans (hbz.mono HB2.out.size))
          have hbit := (sg_cells H9Z.out h).2
          clear hbz h9 HVC H5 HL2 HB2
          go_upto_region 16 with fail
          clear hbit
          have h9z := H9Z.out
          have h5z := H5Z.out
          go_upto_region 9 with (first
            | (refine wpList_load_row rfl 26 _ rfl g9 rfl 26 (sg L1 (c3 : Int) ((m : Int) + 1)) (0, 0) _ h9z Try.underlying26 rfl (stIk h (c3 : Int) ((m : Int) + 1)) ?_)
            | (refine wpList_store_row rfl 26 _ _ rfl g5 (sg L1 (c3 : Int) ((m : Int) + 1)) rfl rfl 26 (sg L1 c m) h5z (stIk h (c3 : Int) ((m : Int) + 1)) (by rw [sg_size h, sg_size h]) (sg_all L1 (c3 : Int) ((m : Int) + 1)) ?_))
          try simp only [Act.put]
          have HX2 := Lib.hid (setRow_heap _ _ _ (sg L1 (c3 : Int) ((m : Int) + 1)) _ _ h5z)
          have HL3 := Lib.hid ((setRow_other _ _ _ (sg L1 (c3 : Int) ((m : Int) + 1)) (by omega : w.heap.size ≠ g5)).trans HLz.out)
          have HB3 := Lib.hid (HBz.out.setRow (g := g5) (by omega) (sg L1 (c3 : Int) ((m : Int) + 1)))
          clear h5z h9z H9Z H5Z HLz HBz
          go_wp2_with fail
          exact ⟨⟨i + 1, c3, m + 1, by omega, by go_num, by rw [HM1.out], HP3.out (), by rw [HM1.out]; exact HX2.out, HL3.out, HB3.out⟩, by simp [intOf]; omega⟩
    · obtain rfl : i = n := by omega
      clear HP HX HL
      go_wp2_with (with_reducible refine (HWK.out _).mono ?_; rintro e z ⟨rfl, hb⟩)
      go_ret
      exact ⟨rfl, HB.out.trans (hb.mono HB.out.size)⟩
end Go.Proofs.Ytbegpakjojiblaa
