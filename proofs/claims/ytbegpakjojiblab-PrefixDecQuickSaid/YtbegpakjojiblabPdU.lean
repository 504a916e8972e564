/- Law PrefixDecQuick out of the contracts. -/
import Derived.Test.YtbegpakjojiblabPdP
import Derived.Deep.MidRow
set_option linter.unusedVariables false
set_option linter.unusedSimpArgs false
namespace Go.Proofs.Ytbegpakjojiblab
open Go.RowKit

theorem quick_bit (x i : Nat) (hi : i < 9) : (2 * ((x / 2 ^ (9 - i) : Nat) : Int) + (((x / 2 ^ (8 - i) : Nat) : Int) % 2)) = ((x / 2 ^ (8 - i) : Nat) : Int) := by
  have e : x / 2 ^ (9 - i) = x / 2 ^ (8 - i) / 2 := by rw [Nat.div_div_eq_div_mul, ← Nat.pow_succ]; congr 2; omega
  rw [e]
  omega
set_option maxRecDepth 100000 in
set_option maxHeartbeats 4000000 in
theorem quick_call (CN : NewC) (CS : StpC) (CQ : QckC) (CW : WkC) (l : List Int) (h : Lng l) (N : Int) (hN : 0 ≤ N ∧ N ≤ 65535) (w : World) :
    Calls Try.prog 3 #[.agg (lg l), .int .u16 N] w fun e w' => e = .returned (.bool true) ∧ Below w.heap.size w w' := by
  have HWK := Lib.hid (fun W => CW W)
  have hrt := fun W => rtable_call l h W
  have HG := Lib.hid (heap_alloc_last w (.cells (lg l) 23))
  have HB := Lib.hid ((Below.refl w.heap.size w).alloc (Nat.le_refl _) (.cells (lg l) 23))
  go_enter Try.func3, Try.ntmps3
  go_upto_region 1 with fail
  generalize w.alloc (.cells (lg l) 23) = w1 at HG HB ⊢
  cases htab : tableV l with
  | false =>
    rw [htab] at hrt
    clear htab
    go_wp2_with (first
      | (refine wpList_load_row rfl 23 _ rfl w.heap.size rfl 23 (lg l) (0, 0) _ HG.out Try.underlying23 rfl (lngIk h) ?_)
      | ((with_reducible refine (hrt _).mono ?_)
         rintro e w4 ⟨rfl, hb4⟩
         have HB4 := Lib.hid (HB.out.trans (hb4.mono HB.out.size))
         clear hb4)
      | ((with_reducible refine (HWK.out _).mono ?_)
         rintro e z ⟨rfl, hb⟩))
    go_ret
    exact ⟨rfl, HB4.out.trans (hb.mono HB4.out.size)⟩
  | true =>
  have hTL : TL l := ⟨h, htab⟩
  have HNC := Lib.hid (fun W => show Calls Try.prog 7 #[.agg (lg l)] W fun e w' => e = .returned (.tuple #[.agg (sg l 0 0), .int .i64 0]) ∧ Below W.heap.size W w' from by
    have := CN l h W
    rw [htab] at this
    exact this)
  have HQC := Lib.hid (fun W => show Calls Try.prog 6 #[.agg (lg l)] W fun e w' => e = .returned (.tuple #[.agg (qg (quF l)), .int .i64 0]) ∧ Below W.heap.size W w' from by
    have := CQ l h W
    rw [htab] at this
    exact this)
  rw [htab] at hrt
  clear htab
  have hzT := stZ
  have hz0 := sg_size zL_lng 0 0
  have hz1 := sg_size h 0 0
  have hzQ := qgZ
  have hq0 := qg_size zQ
  have hq1 := qg_size (quF l)
  go_upto_region 3 with (first
    | (refine wpList_load_row rfl 23 _ rfl w.heap.size rfl 23 (lg l) (0, 0) _ HG.out Try.underlying23 rfl (lngIk h) ?_)
    | ((with_reducible refine (hrt _).mono ?_)
       rintro e w2 ⟨rfl, hb2⟩))
  replace HG := Lib.hid (heap_on hb2 HG.out)
  replace HB := Lib.hid (HB.out.trans (hb2.mono HB.out.size))
  clear hb2 hrt
  go_upto_region 4 with (first
    | (refine wpList_load_row rfl 23 _ rfl w.heap.size rfl 23 (lg l) (0, 0) _ HG.out Try.underlying23 rfl (lngIk h) ?_)
    | ((with_reducible refine (HQC.out _).mono ?_)
       rintro e w3 ⟨rfl, hb3⟩)
    | (refine wpList_store_row rfl 29 _ _ rfl w3.heap.size (qg (quF l)) rfl rfl 29 (qg zQ) (heap_alloc_last w3 _) (qgIk _) (by rw [hq0, hq1]) (qg_all _) ?_))
  rw [World.setRow_alloc_new]
  try simp only [Act.put]
  have hby := hb3.alloc (o := .cells (qg (quF l)) 29) hb3.size
  have hq := heap_alloc_last w3 (.cells (qg (quF l)) 29)
  obtain ⟨gq, hgq⟩ : ∃ gq, gq = w3.heap.size := ⟨_, rfl⟩
  rw [← hgq] at hq ⊢
  replace HG := Lib.hid (heap_on hby HG.out)
  replace HB := Lib.hid (HB.out.trans (hby.mono HB.out.size))
  have HQ := Lib.hid hq
  clear hgq hby hb3 hq hzQ hq0 hq1 HQC
  generalize w3.alloc (.cells (qg (quF l)) 29) = w4 at HG HB HQ ⊢
  go_upto_region 5 with (first
    | (refine wpList_load_row rfl 23 _ rfl w.heap.size rfl 23 (lg l) (0, 0) _ HG.out Try.underlying23 rfl (lngIk h) ?_)
    | ((with_reducible refine (HNC.out _).mono ?_)
       rintro e w5 ⟨rfl, hb5⟩)
    | (refine wpList_store_row rfl 34 _ _ rfl w5.heap.size (sg l 0 0) rfl rfl 34 (sg zL 0 0) (heap_alloc_last w5 _) (stIk h 0 0) (by rw [hz0, hz1]) (sg_all _ _ _) ?_))
  rw [World.setRow_alloc_new]
  try simp only [Act.put]
  have hw7 : w.heap.size ≤ w5.heap.size := Nat.le_trans HB.out.size hb5.size
  have hby := hb5.alloc (o := .cells (sg l 0 0) 34) hb5.size
  have h7 := heap_alloc_last w5 (.cells (sg l 0 0) 34)
  obtain ⟨g7, hg7⟩ : ∃ g7, g7 = w5.heap.size := ⟨_, rfl⟩
  rw [← hg7] at h7 hw7 ⊢
  replace HB := Lib.hid (HB.out.trans (hby.mono HB.out.size))
  have hq := heap_on hby HQ.out
  have H7 := Lib.hid h7
  clear hg7 hby hb5 h7 HQ HNC HG
  generalize w5.alloc (.cells (sg l 0 0) 34) = w6 at HB H7 hq ⊢
  obtain ⟨M, rfl⟩ : ∃ M : Nat, N = (M : Int) := ⟨N.toNat, by omega⟩
  obtain ⟨x, hx⟩ : ∃ x, x = M % 512 := ⟨_, rfl⟩
  have hxI : (M : Int) % 512 = (x : Int) := by omega
  have hx5 : x < 512 := by omega
  have hx5I : (x : Int) < 512 := by omega
  obtain ⟨q0, q1⟩ := qg_cells hq x hx5
  rw [Nat.mul_comm] at q0 q1
  clear hq hx
  obtain ⟨Y1, Y2, hY⟩ : ∃ Y1 Y2, quF l x = (Y1, Y2) := ⟨_, _, rfl⟩
  rw [hY] at q0 q1
  have HYS := Lib.hid (show ∀ s, fndQ l (x : Int) 258 = some s → Y1 = (s : Int) ∧ Y2 = l.getD s 0 from fun s e => by
    unfold quF at hY
    rw [e] at hY
    injection hY with h1 h2
    exact ⟨h1.symm, h2.symm⟩)
  have HYN := Lib.hid (show fndQ l (x : Int) 258 = none → Y1 = 0 ∧ Y2 = 0 from fun e => by
    unfold quF at hY
    rw [e] at hY
    injection hY with h1 h2
    exact ⟨h1.symm, h2.symm⟩)
  clear hY
  go_upto_region 6 with fail
  have h9 := heap_alloc_last w6 (.cells #[.int .i64 Y1, .int .i64 Y2] 28)
  have hal := below_al w6 (.cells #[.int .i64 Y1, .int .i64 Y2] 28)
  obtain ⟨g9, hg9⟩ : ∃ g9, g9 = w6.heap.size := ⟨_, rfl⟩
  have hlt79 : g7 < g9 := by rw [hg9]; exact (Array.getElem?_eq_some_iff.1 H7.out).1
  rw [← hg9] at h9 ⊢
  replace H7 := Lib.hid (heap_on hal H7.out)
  replace HB := Lib.hid (HB.out.trans (hal.mono HB.out.size))
  have H9 := Lib.hid h9
  clear hg9 hal h9 q0 q1
  generalize w6.alloc (.cells #[.int .i64 Y1, .int .i64 Y2] 28) = w7 at H7 H9 HB ⊢
  go_wp2_with fail
  rw [hxI]
  go_loopw [10] (fun v wr => ∃ (i c : Nat), i ≤ 9 ∧ v = .int .i64 i ∧ c = x / 2 ^ (9 - i) ∧ Pre l c i ∧ wr.heap[g7]? = some (.cells (sg l c i) 34 (0, 0)) ∧ wr.heap[g9]? = some (.cells #[.int .i64 Y1, .int .i64 Y2] 28 (0, 0)) ∧ Below w.heap.size w wr) (fun v _ => 9 - (intOf v).toNat)
  case atStart => exact ⟨0, 0, by omega, rfl, by rw [Nat.div_eq_of_lt (by simpa using hx5)], Pre.zero, H7.out, H9.out, HB.out⟩
  case round =>
    obtain ⟨i, c, hi, rfl, hc, hp, hx7, hx9, hb⟩ := hrel
    clear H7 H9 HB
    have HP := Lib.hid (fun _ : Unit => hp)
    have HX7 := Lib.hid hx7
    have HX9 := Lib.hid hx9
    have HB := Lib.hid hb
    have hm14 := hp.le
    have hc15 : c < 32768 := Nat.lt_of_lt_of_le hp.lt (Nat.le_trans (Nat.pow_le_pow_right (by omega) hm14) (by decide))
    have HC := Lib.hid hc
    clear hp hx9 hb hc
    by_cases hlt : i < 9
    · have hsh : (x : Int) / 2 ^ (8 - i) = ((x / 2 ^ (8 - i) : Nat) : Int) := by simp
      have hqb := quick_bit x i hlt
      have hqs := fun s => quick_some hTL x i s hx5 hlt
      rw [← HC.out] at hqb
      have HY0 := Lib.hid (show x / 2 ^ (8 - i) = x / 2 ^ (9 - (i + 1)) by rw [show 9 - (i + 1) = 8 - i by omega])
      generalize x / 2 ^ (8 - i) = Y0 at hsh hqb hqs HY0
      have hand := i64_and1 (Y0 : Int)
      obtain ⟨b, hbb⟩ : ∃ b : Int, b = (Y0 : Int) % 2 := ⟨_, rfl⟩
      rw [← hbb] at hand hqb
      have hb01 : b = 0 ∨ b = 1 := by omega
      have hstep := fun W => CS l h (c : Int) (i : Int) b (WalkArith.wf_i64 ⟨by omega, by omega⟩) (WalkArith.wf_i64 ⟨by omega, by omega⟩) (WalkArith.wf_i64 ⟨by omega, by omega⟩) W
      have htell := stC_tell hTL (HP.out ()) (b := b) hb01
      obtain ⟨c2, m2, s2, dn, hst⟩ : ∃ c2 m2 s2 dn, stC l (c : Int) (i : Int) b = (c2, m2, s2, dn) := ⟨_, _, _, _, rfl⟩
      rw [hst] at hstep htell
      have hi1 : ((i : Int) + 1) = ((i + 1 : Nat) : Int) := by omega
      rw [hqb, hi1] at htell
      have HSTP := Lib.hid hstep
      have HTELL := Lib.hid (fun _ : Unit => htell)
      have HQS := Lib.hid hqs
      have HI1 := Lib.hid hi1
      clear hstep htell hst HP hbb hqs hqb hi1 hb01
      go_upto_region 12 with (first
        | (refine wpList_load_row rfl 34 _ rfl g7 rfl 34 (sg l c i) (0, 0) _ hx7 Try.underlying34 rfl (stIk h c i) ?_)
        | ((with_reducible refine (HSTP.out _).mono ?_)
           rintro e w8 ⟨rfl, hb8⟩)
        | (refine wpList_store_row rfl 34 _ _ rfl w8.heap.size (sg l c2 m2) rfl rfl 34 (sg zL 0 0) (heap_alloc_last w8 _) (stIk h c2 m2) (by rw [hz0, sg_size h]) (sg_all _ _ _) ?_))
      rw [World.setRow_alloc_new]
      try simp only [Act.put]
      have hby := hb8.alloc (o := .cells (sg l c2 m2) 34) hb8.size
      have h11 := heap_alloc_last w8 (.cells (sg l c2 m2) 34)
      obtain ⟨g11, hg11⟩ : ∃ g11, g11 = w8.heap.size := ⟨_, rfl⟩
      rw [← hg11] at h11 ⊢
      replace HX7 := Lib.hid (heap_on hby HX7.out)
      replace HX9 := Lib.hid (heap_on hby HX9.out)
      replace HB := Lib.hid (HB.out.trans (hby.mono HB.out.size))
      have H11 := Lib.hid h11
      clear hg11 hby hb8 h11 hx7 HSTP hsh hand
      generalize w8.alloc (.cells (sg l c2 m2) 34) = w9 at HX7 HX9 HB H11 ⊢
      rcases HTELL.out () with ⟨s, e, hs258, hls, hfs, _⟩ | ⟨c3, e, hc3, hp3⟩
      · injection e with e1 e2
        injection e2 with e2 e3
        injection e3 with e3 e4
        subst e1 e2 e3 e4
        obtain ⟨y1, y2⟩ := HYS.out s (HQS.out s hfs)
        rw [hls] at y2
        rw [← HI1.out] at y2
        subst y1 y2
        have q0 : w9.cell? ⟨g9, 0, none⟩ = some (.int .i64 (s : Int)) := by simp [World.cell?, HX9.out]
        have q1 : w9.cell? ⟨g9, 1, none⟩ = some (.int .i64 ((i : Int) + 1)) := by simp [World.cell?, HX9.out]
        have hwk : IntKind.i64.wrap ((i : Int) + 1) = (i : Int) + 1 := IntWalk.i64_in _ (by omega)
        clear HTELL hls hfs HYS HYN HQS
        go_wp2_with (with_reducible refine (HWK.out _).mono ?_; rintro e z ⟨rfl, hbz⟩)
        go_ret
        exact ⟨rfl, HB.out.trans (hbz.mono HB.out.size)⟩
      · injection e with e1 e2
        injection e2 with e2 e3
        injection e3 with e3 e4
        rw [← HI1.out] at e2
        subst e1 e2 e3 e4
        have hcY : c3 = Y0 := by omega
        have HCY := Lib.hid (hcY.trans HY0.out)
        have HP3 := Lib.hid (fun _ : Unit => hp3)
        clear HTELL hc3 hp3 hcY
        go_upto_region 14 with fail
        have h11 := H11.out
        have hx7 := HX7.out
        go_upto_region 10 with (first
          | (refine wpList_load_row rfl 34 _ rfl g11 rfl 34 (sg l (c3 : Int) ((i : Int) + 1)) (0, 0) _ h11 Try.underlying34 rfl (stIk h (c3 : Int) ((i : Int) + 1)) ?_)
          | (refine wpList_store_row rfl 34 _ _ rfl g7 (sg l (c3 : Int) ((i : Int) + 1)) rfl rfl 34 (sg l c i) hx7 (stIk h (c3 : Int) ((i : Int) + 1)) (by rw [sg_size h, sg_size h]) (sg_all l (c3 : Int) ((i : Int) + 1)) ?_))
        try simp only [Act.put]
        have HX2 := Lib.hid (setRow_heap _ _ _ (sg l (c3 : Int) ((i : Int) + 1)) _ _ hx7)
        have HX3 := Lib.hid ((setRow_other _ _ _ (sg l (c3 : Int) ((i : Int) + 1)) (by omega : g9 ≠ g7)).trans HX9.out)
        have HB3 := Lib.hid (HB.out.setRow (g := g7) hw7 (sg l (c3 : Int) ((i : Int) + 1)))
        clear h11 hx7 H11 HX7 HX9 HB
        go_wp2_with fail
        exact ⟨⟨i + 1, c3, by omega, by go_num, HCY.out, HP3.out (), by rw [← HI1.out]; exact HX2.out, HX3.out, HB3.out⟩, by simp [intOf]; omega⟩
    · obtain rfl : i = 9 := by omega
      have hcx : c = x := by rw [HC.out]; simp
      subst hcx
      obtain ⟨rfl, rfl⟩ := HYN.out (quick_none hTL (HP.out ()))
      have q0 : wr.cell? ⟨g9, 0, none⟩ = some (.int .i64 0) := by simp [World.cell?, HX9.out]
      have q1 : wr.cell? ⟨g9, 1, none⟩ = some (.int .i64 0) := by simp [World.cell?, HX9.out]
      clear HYS HYN HP HX7 HC hx7
      go_wp2_with (with_reducible refine (HWK.out _).mono ?_; rintro e z ⟨rfl, hbz⟩)
      go_ret
      exact ⟨rfl, HB.out.trans (hbz.mono HB.out.size)⟩
end Go.Proofs.Ytbegpakjojiblab
