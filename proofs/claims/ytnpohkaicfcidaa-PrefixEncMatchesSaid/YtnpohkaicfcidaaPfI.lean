/- Package prefixenc: Read at valid lengths. -/
import Derived.Test.YtnpohkaicfcidaaPfH
set_option linter.unusedVariables false
set_option linter.unusedSimpArgs false
namespace Go.Proofs.Ytnpohkaicfcidaa
open Go.RowKit Go.Maps

set_option maxRecDepth 100000 in
set_option maxHeartbeats 4000000 in
theorem read_yes (l : List Int) (HV : VL l) (sp : Option Addr) (n cap : Nat) (bl : List Int) (hl : bl.length = n) (hby : Byts bl) (hn : n ≤ 1000) (M : Nat) (hM : M ≤ 8 * n) (w : World) (hs : Src w .u8 sp bl) :
    Calls Try.prog 12 #[.agg (lg l), .slice sp n cap, .int .i64 M] w fun e w' => ∃ A c, e = .returned (.tuple #[.slice (ad0 A) ((rdS l 0 0 [] ((bitsB bl).take M)).getD []).length c, .int .i64 (if (rdS l 0 0 [] ((bitsB bl).take M)).isSome then 0 else 2)]) ∧ NewO w w' A c ((rdS l 0 0 [] ((bitsB bl).take M)).getD []) := by
  have h := HV.lng
  obtain ⟨bits0, hbits⟩ : ∃ x, x = (bitsB bl).take M := ⟨_, rfl⟩
  rw [← hbits]
  have HBC := Lib.hid (fun (i : Nat) (hi : i < M) (W : World) (hS : Src W .u8 sp bl) => show Calls Try.prog 29 #[.slice sp n cap, .int .i64 i] W fun x w' => x = .returned (.int .u32 (bits0.getD i 0)) ∧ W = w' from by
    have h1 := bitAt_call W sp n cap bl hl hS hby i (by omega) (by omega)
    have h2 : bits0.getD i 0 = (bitsB bl).getD i 0 := by
      rw [hbits]
      simp [List.getD_eq_getElem?_getD, List.getElem?_take, hi]
    rw [h2]
    exact h1)
  have HBL := Lib.hid (show bits0.length = M by rw [hbits, List.length_take, bitsB_length, hl]; omega)
  have HBN := Lib.hid (show Bin bits0 by rw [hbits]; exact fun x hx => bitsB_bin bl x (List.mem_of_mem_take hx))
  have HS := Lib.hid hs
  clear hbits hs hby hl
  generalize hX : rdS l 0 0 [] bits0 = X
  have HX : Unit → rdS l 0 0 [] bits0 = X := fun _ => hX
  clear hX
  obtain ⟨Z, hZ⟩ : ∃ Z : Int, Z = if X.isSome then 0 else 2 := ⟨_, rfl⟩
  obtain ⟨R, hR⟩ : ∃ R : List Int, R = X.getD [] := ⟨_, rfl⟩
  rw [← hZ, ← hR]
  have HSOME := Lib.hid (show ∀ y, X = some y → R = y ∧ Z = 0 from fun y e => by rw [hZ, hR, e]; exact ⟨rfl, rfl⟩)
  have HNONE := Lib.hid (show X = none → R = [] ∧ Z = 2 from fun e => by rw [hZ, hR, e]; exact ⟨rfl, rfl⟩)
  clear hZ hR
  have hz := cdsZ
  have hcc := fun W => codes_call l h W
  have hE : codE l = 0 := if_pos HV.sum
  have hR : codR l = codT l 258 := if_pos HV.sum
  rw [hE, hR] at hcc
  have hcd := codT_cds HV 258
  have hcs := cl_size hcd
  have hsy := fun W => symbols_call l HV W
  generalize codT l 258 = D at hcc hcd hcs hsy
  have HSY := Lib.hid hsy
  clear hE hR hsy
  have hg := heap_alloc_last w (.cells (lg l) 23)
  have HB := Lib.hid ((Below.refl w.heap.size w).alloc (Nat.le_refl _) (.cells (lg l) 23))
  have d1 : decide ((M : Int) < 0) = false := decide_eq_false (by omega)
  have d2 : decide (8 * (n : Int) < (M : Int)) = false := decide_eq_false (by omega)
  have d2n : decide (8 * n < M) = false := decide_eq_false (by omega)
  go_enter Try.func12, Try.ntmps12
  go_upto_region 1 with fail
  generalize w.alloc (.cells (lg l) 23) = w1 at hg HB ⊢
  go_upto_region 2 with (first
    | (refine wpList_load_row rfl 23 _ rfl w.heap.size rfl 23 (lg l) (0, 0) _ hg Try.underlying23 rfl (lngIk h) ?_)
    | (with_reducible refine (hcc _).mono ?_; rintro e w2 ⟨rfl, hb2⟩)
    | (refine wpList_store_row rfl 54 _ _ rfl w2.heap.size (cl D) rfl rfl 54 (cl zC) (heap_alloc_last w2 _) (cdsIk hcd) (by rw [cl_size zC_cds, hcs]) (cl_all _) ?_))
  rw [World.setRow_alloc_new]
  try simp only [Act.put]
  have hb3 := hb2.alloc (o := .cells (cl D) 54) hb2.size
  have h6 := heap_alloc_last w2 (.cells (cl D) 54)
  have hg3 := heap_on hb3 hg
  have HB3 := Lib.hid (HB.out.trans (hb3.mono HB.out.size))
  obtain ⟨g6, hg6⟩ : ∃ g6, g6 = w2.heap.size := ⟨_, rfl⟩
  rw [← hg6] at h6 ⊢
  clear hg6
  generalize w2.alloc (.cells (cl D) 54) = w3 at h6 hg3 HB3 ⊢
  clear hb2 hb3 hg HB hcc hz
  go_upto_region 5 with (first
    | (refine wpList_load_row rfl 23 _ rfl w.heap.size rfl 23 (lg l) (0, 0) _ hg3 Try.underlying23 rfl (lngIk h) ?_)
    | (refine wpList_load_row rfl 54 _ rfl g6 rfl 54 (cl D) (0, 0) _ h6 Try.underlying54 rfl (cdsIk hcd) ?_)
    | (with_reducible refine (HSY.out _).mono ?_; rintro e w4 ⟨bm, rfl, hM4, hb4⟩))
  have HB4 := Lib.hid (HB3.out.trans (hb4.mono HB3.out.size))
  have HM4 := Lib.hid hM4
  clear hM4 hb4 hg3 h6 HB3 HSY hcs hcd d1 d2 d2n
  go_upto_region 7 with fail
  have HA := Lib.hid (show RdK w4 w4.heap.size 0 0 none 0 [] (w4.alloc (.cells #[.int .u32 0, .int .i64 0] 60)) from ⟨heap_alloc_last _ _, (NewO.nil w4).alloc _, Nat.le_refl _⟩)
  obtain ⟨gw, hgw⟩ : ∃ gw, gw = w4.heap.size := ⟨_, rfl⟩
  rw [← hgw] at HA ⊢
  clear hgw
  generalize w4.alloc (.cells #[.int .u32 0, .int .i64 0] 60) = w5 at HA ⊢
  go_wp2_with fail
  go_loopw [11, 38] (fun o iv wr => ∃ (i k : Nat) (c : Int) (out : List Int) (A : Option Nat) (m cc : Nat), i ≤ M ∧ iv = .int .i64 i ∧ k ≤ 14 ∧ 0 ≤ c ∧ c < ((2 ^ k : Nat) : Int) ∧ o = .slice (ad0 A) m cc ∧ m = out.length ∧ m ≤ i ∧ RdK w4 gw c k A cc out wr ∧ X = rdS l c k out (bits0.drop i)) (fun _ iv _ => M - (intOf iv).toNat)
  case atStart => exact ⟨0, 0, 0, [], none, 0, 0, by omega, rfl, by omega, by omega, by simp, rfl, rfl, by omega, HA.out, by rw [List.drop_zero]; exact (HX ()).symm⟩
  case round =>
    obtain ⟨i, k, c, out, A, m, cc, hi, rfl, hk, hc0, hc1, rfl, hm, hmi, hno, hx⟩ := hrel
    have HK := Lib.hid hno
    have HM := Lib.hid hm
    have HXX := Lib.hid hx
    have hk2 : (2 ^ k : Nat) ≤ 2 ^ 14 := Nat.pow_le_pow_right (by omega) hk
    have hc15 : c < 16384 := by omega
    have HK2 := Lib.hid hc1
    clear hno hm hx hc1 hk2
    by_cases hlt : i < M
    · have hib : i < bits0.length := by rw [HBL.out]; exact hlt
      have hbc := HBC.out i hlt wr.drew ((HS.out.below HB4.out).below HK.out.drew.new.bel)
      have hxx := HXX.out
      rw [drop_getD _ _ hib] at hxx
      have hbb := HBN.out.getD i
      generalize bits0.getD i 0 = b at hbc hxx hbb
      have hb01 : b = 0 ∨ b = 1 := hbb
      have hlc := fun W => longer_call c (k : Int) b ⟨hc0, by omega⟩ ⟨by omega, by omega⟩ hb01 W
      have HBW := Lib.hid (fun _ : Unit => hbc)
      have HLC := Lib.hid hlc
      have hS0 : wr.drew.cell? ⟨gw, 0, none⟩ = some (.int .u32 c) ∧ wr.drew.cell? ⟨gw, 1, none⟩ = some (.int .i64 k) := ⟨HK.out.c0, HK.out.c1⟩
      clear hbc hlc hib
      go_upto_region 10 with fail
      go_cut [45] (fun s45 wx => RdK w4 gw (2 * c + b) ((k : Int) + 1) A cc out wx)
      case first =>
        go_region_with (first
          | (with_reducible refine (HBW.out ()).mono ?_; rintro e w7 ⟨rfl, rfl⟩)
          | (with_reducible refine (HLC.out _).mono ?_; rintro e w6 ⟨rfl, hb6⟩; have HK6 := Lib.hid (HK.out.drew.on hb6); have u0 := HK6.out.c0; have u1 := (HK6.out.set0 (2 * c + b)).c1; have f0 := HK6.out.f 0; have f1 := (HK6.out.set0 (2 * c + b)).f 1))
        all_goals go_wp2
        all_goals go_meet
        all_goals exact (HK6.out.set0 _).set1 _
      case rest =>
        have hC : 0 ≤ 2 * c + b ∧ 2 * c + b < ((2 ^ (k + 1) : Nat) : Int) := by
          have := HK2.out
          rw [Nat.pow_succ]
          omega
        have hkk : (k : Int) + 1 = ((k + 1 : Nat) : Int) := by omega
        rw [hkk] at hcut
        have hsm := rdS_some l c k out b (bits0.drop (i + 1))
        have hfa := rdS_far l c k out b (bits0.drop (i + 1))
        have hon := rdS_on l c k out b (bits0.drop (i + 1))
        have h15 := rdS_15 HV (2 * c + b) out (bits0.drop (i + 1))
        obtain ⟨k1, hk1⟩ : ∃ k1, k1 = k + 1 := ⟨_, rfl⟩
        rw [← hk1] at hcut hsm hfa hon hC
        have hp15 : (2 ^ k1 : Nat) ≤ 2 ^ 15 := Nat.pow_le_pow_right (by omega) (by omega)
        have hcb : 2 * c + b < 32768 := by omega
        have hwc : (Lit.int .u32 (2 * c + b)).wf = true := WalkArith.wf_u32 ⟨by omega, by omega⟩
        have hwm : (Lit.int .i64 (k1 : Int)).wf = true := WalkArith.wf_i64 ⟨by omega, by omega⟩
        obtain ⟨kl, hkl⟩ := word_key (2 * c + b) (k1 : Int) hwc hwm
        obtain ⟨DM, hown, hDM, h3⟩ := HM4.out.kept hcut.new.bel
        obtain ⟨h4, h5⟩ := h3 _ _ kl hkl
        have HFL := Lib.hid (fndL_lt l (2 * c + b) (k1 : Int) 258)
        generalize fndL l (2 * c + b) (k1 : Int) 258 = F at hsm hfa hon h4 h5 HFL
        have HK1 := Lib.hid hk1
        have HCB := Lib.hid hC
        have HKL : RowKit.Hid (keyOf Try.prog 60 (.agg #[.int .u32 (2 * c + b), .int .i64 (k1 : Int)]) = some kl) := hkl
        have HC := Lib.hid hcut
        have q0 := hcut.c0
        have q1 := hcut.c1
        have hz0 : ∀ w, (zeroValue 3).run Try.prog w = .ok (.int .i64 0) w := (zero_of_info (show (Try.prog.info? 3).map (fun i => (i.zero, i.size)) = some (some (.int .i64 0), 1) by kernel_rfl)).1
        have H4 := Lib.hid h4
        have H5 := Lib.hid h5
        have HOWN := Lib.hid hown
        clear hcut hS0 HBW HLC hwc hwm h3 hDM hkl hp15 hC hk1 hkk h4 h5 hown
        generalize 2 * c + b = c2 at hsm hfa hon h15 HKL HC q0 hcb HFL HCB
        go_upto_region 12 with (first | (refine wpList_lookup_own_ok_int _ rfl _ _ 57 rfl 60 3 .i64 wordK wordU intU (hz0 _) bm 258 DM rfl HOWN.out (.agg #[.int .u32 c2, .int .i64 (k1 : Int)]) kl rfl HKL.out ?_
                                         intro cv hcv hwv))
        have hcv2 : cv = ((F.getD 0 : Nat) : Int) := by
          rw [H5.out] at hcv
          injection hcv with hcv
          injection hcv with _ hcv
          exact hcv.symm
        have hhas := H4.out
        rw [hcv2, hhas]
        clear hcv hwv hcv2 hhas H4 H5 HOWN hz0
        cases F with
        | some s =>
          have hs258 := HFL.out s rfl
          have HNX := Lib.hid (hxx.trans (hsm s rfl))
          have hm80 : m ≤ 8000 := by omega
          clear hxx hsm hfa hon HXX HFL HCB h15 HKL
          go_wp2_with (first
            | (refine wpList_appendI rfl _ _ 24 rfl 3 .i64 8 intsT intI A cc out m HM.out.symm rfl (HC.out.new.own.alloc _) (some ⟨wc.heap.size, 0, none⟩) 1 1 rfl [(s : Int)] rfl (Src.whole (l := [(s : Int)]) (heap_alloc_last wc _)) (by unfold maxLen; omega) (by omega) ?_
               intro A' c' w7 h1 h2 h3
               have HK7 := Lib.hid ((HC.out.alloc _).app h1 h2 h3)
               have u0 := HK7.out.c0
               have u1 := (HK7.out.set0 0).c1
               have f0 := HK7.out.f 0
               have f1 := (HK7.out.set0 0).f 1))
          exact ⟨⟨i + 1, 0, 0, out ++ [(s : Int)], A', m + 1, c', by omega, by go_num, by omega, by omega, by simp, rfl, by rw [List.length_append, HM.out]; rfl, by omega, (HK7.out.set0 0).set1 0, HNX.out⟩, by simp [intOf]; omega⟩
        | none =>
          by_cases he : k1 = 15
          · have hx15 : X = none := by
              rw [hxx, hon rfl (by omega), he]
              exact h15
            obtain ⟨hR, hZ⟩ := HNONE.out hx15
            subst hR hZ
            have hd : ((k1 : Int) == 15) = true := by rw [he]; rfl
            clear hxx hsm hfa hon HXX HFL HCB h15 HKL hx15 he
            go_wp2_with fail
            go_returns
            exact ⟨none, 0, rfl, OwnS.nil _ _ _, (fun g e => by cases e), HB4.out.trans (HC.out.new.bel.mono HB4.out.size)⟩
          · have HNX := Lib.hid (hxx.trans (hon rfl (by have := HK1.out; omega)))
            have hd : ((k1 : Int) == 15) = false := by rw [beq_eq_false_iff_ne]; omega
            have hk14 : k1 ≤ 14 := by have := HK1.out; omega
            clear hxx hsm hfa hon HXX HFL h15 HKL he
            go_wp2_with fail
            exact ⟨⟨i + 1, k1, c2, out, A, m, cc, by omega, by go_num, hk14, HCB.out.1, HCB.out.2, rfl, HM.out, by omega, HC.out, HNX.out⟩, by simp [intOf]; omega⟩
    · obtain rfl : i = M := by omega
      have hxx := HXX.out
      rw [List.drop_of_length_le (by rw [HBL.out]; exact Nat.le_refl _), rdS_end] at hxx
      have q1 := HK.out.c1
      by_cases hk0 : 0 < k
      · rw [if_pos hk0] at hxx
        have HNX := Lib.hid hxx
        have d0 : decide ((0 : Int) < (k : Int)) = true := decide_eq_true (by omega)
        obtain ⟨hR, hZ⟩ := HNONE.out HNX.out
        subst hR hZ
        clear hxx HXX
        go_wp2_with fail
        go_returns
        exact ⟨none, 0, rfl, OwnS.nil _ _ _, (fun g e => by cases e), HB4.out.trans (HK.out.new.bel.mono HB4.out.size)⟩
      · obtain rfl : k = 0 := by omega
        rw [if_neg hk0] at hxx
        obtain ⟨hR, hZ⟩ := HSOME.out out hxx
        subst hR hZ
        clear hxx HXX
        go_wp2_with fail
        go_returns
        exact ⟨A, cc, by rw [← HM.out]; rfl, HK.out.new.own, fun g e => Nat.le_trans HB4.out.size (HK.out.new.new g e), HB4.out.trans (HK.out.new.bel.mono HB4.out.size)⟩
end Go.Proofs.Ytnpohkaicfcidaa
