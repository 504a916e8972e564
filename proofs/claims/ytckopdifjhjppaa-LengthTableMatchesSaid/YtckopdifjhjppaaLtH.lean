/- The reference's Valid at high states. -/
import Derived.Test.YtckopdifjhjppaaLtU
set_option linter.unusedVariables false
set_option linter.unusedSimpArgs false
namespace Go.Proofs.Ytckopdifjhjppaa
open Go.RowKit

theorem gl_bd {l : List Int} (h : Lng l) (s : Nat) : 0 ≤ gl l s ∧ gl l s ≤ 255 := h.bd s

set_option maxRecDepth 100000 in
set_option maxHeartbeats 4000000 in
theorem rvalid_high (c : TS) (hT : Tst c) (hout : ¬ (c.n < 0 ∨ 15 < c.n ∨ c.y < 0 ∨ 258 < c.y)) (hlow : ¬ (0 ≤ c.t ∧ c.t < 4)) (w : World) :
    Calls Try.prog 14 #[.agg (tg c)] w fun e w' => e = .returned (.bool (validS tableV c)) ∧ Below w.heap.size w w' := by
  have HDEF : Unit → validS tableV c = if ∃ s, s < c.y.toNat ∧ 15 < gl c.L s then false else if c.y = 0 ∧ (fstS c < 0 ∨ 15 < fstS c) then false else decide (runS tableV z0 (bitsTo c) = some c) := fun _ => by unfold validS; rw [if_neg hout, if_neg hlow]
  generalize validS tableV c = X at HDEF ⊢
  have hcL := hT.lng.1
  have hz := tstZ
  have hn : 0 ≤ c.n ∧ c.n ≤ 15 := by omega
  have hy : 0 ≤ c.y ∧ c.y ≤ 258 := by omega
  have hty := bounds_i64 hT.t
  go_enter Try.func14, Try.ntmps14
  go_upto_region 1 with fail
  have ha := heap_alloc_last w (.cells (tg c) 25)
  have HV0 := Lib.hid (Vb.start w c)
  obtain ⟨w1, hw1⟩ : ∃ w1, w1 = w.alloc (.cells (tg c) 25) := ⟨_, rfl⟩
  rw [← hw1] at ha HV0 ⊢
  have HSZ := Lib.hid (show w1.heap.size = w.heap.size + 1 by rw [hw1]; simp)
  clear hw1
  obtain ⟨cy, ct, cn, ca⟩ := tg_cells ha hcL
  have d1 : decide (c.n < 0) = false := decide_eq_false (by omega)
  have d2 : decide (15 < c.n) = false := decide_eq_false (by omega)
  have d3 : decide (c.y < 0) = false := decide_eq_false (by omega)
  have d4 : decide (258 < c.y) = false := decide_eq_false (by omega)
  go_upto_region 4 with fail
  rw [HSZ.out]
  clear d1 d2 d3 d4 ha hz cy ct cn ca hout
  generalize w1.alloc (.cells (tg z0) 25) = w2 at HV0 ⊢
  obtain ⟨cy, ct, cn, ca⟩ := tg_cells HV0.out.arg hcL
  go_cut [38] (fun s wx => s = .bool false ∧ wx = w2)
  case first =>
    by_cases h0 : 0 ≤ c.t
    · have e1 : decide (0 ≤ c.t) = true := decide_eq_true h0
      have e2 : decide (c.t < 4) = false := decide_eq_false (by omega)
      go_wp2_with fail
      go_meet
      exact ⟨rfl, rfl⟩
    · have e1 : decide (0 ≤ c.t) = false := decide_eq_false h0
      go_wp2_with fail
      go_meet
      exact ⟨rfl, rfl⟩
  case rest =>
    obtain ⟨rfl, hwc⟩ := hcut
    obtain rfl : w2 = wc := hwc.symm
    obtain ⟨y, hyn⟩ : ∃ y : Nat, c.y = y := ⟨c.y.toNat, by omega⟩
    have hy258 : y ≤ 258 := by omega
    rw [hyn] at cy
    have HYN := Lib.hid hyn
    have HGB := Lib.hid (gl_bd hT.lng)
    clear hyn hy hlow hty
    go_upto_region 11 with fail
    go_loopw [5] (fun i wr => ∃ k : Nat, k ≤ y ∧ i = .int .i64 k ∧ (∀ s, s < k → gl c.L s ≤ 15) ∧ wr = w2) (fun i _ => y - (intOf i).toNat)
    case atStart => exact ⟨0, by omega, rfl, fun s h => absurd h (by omega), rfl⟩
    case round =>
      obtain ⟨k, hk, rfl, hall, rfl⟩ := hrel
      have HALL := Lib.hid hall
      clear hall
      by_cases hlt : k < y
      · have hk258 : k < 258 := by omega
        have hcl := tg_lcell HV0.out.arg hcL k hk258
        have hgl : c.L.getD k 0 = gl c.L k := rfl
        rw [hgl] at hcl
        have hgb := HGB.out k
        have HNX := Lib.hid (show gl c.L k ≤ 15 → ∀ s, s < k + 1 → gl c.L s ≤ 15 from fun h s hs => by
          by_cases e : s = k
          · rw [e]; exact h
          · exact HALL.out s (by omega))
        have HBD := Lib.hid (show Unit → 15 < gl c.L k → X = false from fun _ h => by rw [HDEF (), if_pos ⟨k, by rw [HYN.out]; omega, h⟩])
        clear hgl
        generalize gl c.L k = g at hcl hgb HNX HBD
        by_cases h15 : 15 < g
        · have HX := Lib.hid (HBD.out () h15)
          go_wp2_with fail
          go_ret
          exact ⟨by rw [HX.out]; rfl, HV0.out.bel⟩
        · have HN2 := Lib.hid (HNX.out (by omega))
          go_wp2_with fail
          exact ⟨⟨k + 1, by omega, by go_num, HN2.out, by trivial⟩, by simp [intOf]; omega⟩
      · obtain rfl : k = y := by omega
        have HSM := Lib.hid (show ∀ s, s < k → 0 ≤ gl c.L s ∧ gl c.L s ≤ 15 from fun s hs => ⟨(HGB.out s).1, HALL.out s hs⟩)
        have HDEF2 : Unit → X = if c.y = 0 ∧ (fstS c < 0 ∨ 15 < fstS c) then false else decide (runS tableV z0 (bitsTo c) = some c) := fun _ => by
          rw [HDEF (), if_neg]
          rintro ⟨s, hs, h15⟩
          rw [HYN.out, Int.toNat_natCast] at hs
          have := HALL.out s hs
          omega
        clear HDEF HALL hlt hk
        have hcl0 := tg_lcell HV0.out.arg hcL 0 (by omega)
        have hgl0 : c.L.getD 0 0 = gl c.L 0 := rfl
        rw [hgl0] at hcl0
        have hg0 := HGB.out 0
        have HG0 := Lib.hid (show c.y ≠ 0 → gl c.L 0 = fstS c from fun h => (if_neg h).symm)
        have HF1 := Lib.hid (show Unit → c.y = 0 → c.a = 1 → fstS c = c.n - 1 from fun _ h h2 => by unfold fstS; rw [if_pos h, if_pos h2])
        have HF2 := Lib.hid (show Unit → c.y = 0 → c.a = 2 → fstS c = c.n + 1 from fun _ h h2 => by unfold fstS; rw [if_pos h, if_neg (by omega), if_pos h2])
        have HF3 := Lib.hid (show Unit → c.y = 0 → c.a ≠ 1 → c.a ≠ 2 → fstS c = c.n from fun _ h h1 h2 => by unfold fstS; rw [if_pos h, if_neg h1, if_neg h2])
        have HGS := Lib.hid (show 0 < k → 0 ≤ gl c.L 0 ∧ gl c.L 0 ≤ 15 from fun h => HSM.out 0 h)
        clear hgl0
        generalize gl c.L 0 = g0 at hcl0 hg0 HG0 HGS
        have HBT : Unit → bitsTo c = encV (fstS c) c.L k ++ (if c.y < 258 then adjV (pv (fstS c) c.L k) c.n else []) ++ (if c.t = 5 then [1] else []) := fun _ => by unfold bitsTo; rw [HYN.out, Int.toNat_natCast]
        generalize fstS c = F at HDEF2 HG0 HF1 HF2 HF3 HBT
        go_upto_if 77 with fail
        go_cut [6] (fun s6 wx => s6 = .int .i64 F ∧ 0 ≤ F ∧ F ≤ 15 ∧ wx = wr)
        case first =>
          by_cases hy0 : k = 0
          · have hyc : c.y = 0 := by rw [HYN.out, hy0]; rfl
            have hkb : ((k : Int) == 0) = true := by rw [hy0]; rfl
            have HX2 := Lib.hid (show Unit → F < 0 ∨ 15 < F → X = false from fun _ h => by rw [HDEF2 (), if_pos ⟨hyc, h⟩])
            by_cases a1 : c.a = 1
            · have HF := Lib.hid (HF1.out () hyc a1)
              have ab : (c.a == 1) = true := beq_iff_eq.2 a1
              have ab2 : (c.a == 2) = false := beq_eq_false_iff_ne.2 (by omega)
              clear HG0 HF1 HF2 HF3 HGS hy0 hyc a1
              by_cases f0 : c.n - 1 < 0
              · have HXX := Lib.hid (HX2.out () (by rw [HF.out]; exact .inl f0))
                have fb : decide (c.n - 1 < 0) = true := decide_eq_true f0
                go_wp2_with fail
                go_ret
                exact ⟨by rw [HXX.out]; rfl, HV0.out.bel⟩
              · have fb : decide (c.n - 1 < 0) = false := decide_eq_false f0
                have fb2 : decide (15 < c.n - 1) = false := decide_eq_false (by omega)
                go_wp2_with fail
                go_meet
                exact ⟨by rw [HF.out], by rw [HF.out]; omega, by rw [HF.out]; omega, rfl⟩
            · have ab : (c.a == 1) = false := beq_eq_false_iff_ne.2 a1
              by_cases a2 : c.a = 2
              · have HF := Lib.hid (HF2.out () hyc a2)
                have ab2 : (c.a == 2) = true := beq_iff_eq.2 a2
                clear HG0 HF1 HF2 HF3 HGS hy0 hyc a1 a2
                have fb : decide (c.n + 1 < 0) = false := decide_eq_false (by omega)
                by_cases f0 : 15 < c.n + 1
                · have HXX := Lib.hid (HX2.out () (by rw [HF.out]; exact .inr f0))
                  have fb2 : decide (15 < c.n + 1) = true := decide_eq_true f0
                  go_wp2_with fail
                  go_ret
                  exact ⟨by rw [HXX.out]; rfl, HV0.out.bel⟩
                · have fb2 : decide (15 < c.n + 1) = false := decide_eq_false f0
                  go_wp2_with fail
                  go_meet
                  exact ⟨by rw [HF.out], by rw [HF.out]; omega, by rw [HF.out]; omega, rfl⟩
              · have HF := Lib.hid (HF3.out () hyc a1 a2)
                have ab2 : (c.a == 2) = false := beq_eq_false_iff_ne.2 a2
                clear HG0 HF1 HF2 HF3 HGS hy0 hyc a1 a2
                have fb : decide (c.n < 0) = false := decide_eq_false (by omega)
                have fb2 : decide (15 < c.n) = false := decide_eq_false (by omega)
                go_wp2_with fail
                go_meet
                exact ⟨by rw [HF.out], by rw [HF.out]; omega, by rw [HF.out]; omega, rfl⟩
          · have hkb : ((k : Int) == 0) = false := beq_eq_false_iff_ne.2 (by omega)
            have HF := Lib.hid (HG0.out (by rw [HYN.out]; omega))
            have hgs := HGS.out (by omega)
            clear HG0 HF1 HF2 HF3 HGS hy0
            go_wp2_with fail
            go_meet
            exact ⟨by rw [HF.out], by rw [← HF.out]; omega, by rw [← HF.out]; omega, rfl⟩
        case rest =>
          obtain ⟨rfl, hF0, hF15, hwc⟩ := hcut
          obtain rfl : wr = wc := hwc.symm
          have HX := Lib.hid (show Unit → X = decide (runS tableV z0 (bitsTo c) = some c) from fun _ => by rw [HDEF2 (), if_neg (by omega)])
          clear HDEF2 HG0 HF1 HF2 HF3 HGS hcl0 hg0
          have hsz2 : w.heap.size + 2 ≤ wr.heap.size := by have := (Array.getElem?_eq_some_iff.1 HV0.out.got).1; omega
          have HSZ2 := Lib.hid hsz2
          clear hsz2
          obtain ⟨wb, hwb⟩ : ∃ wb, wb = wr := ⟨_, rfl⟩
          subst hwb
          go_upto_region 25 with fail
          have hown : NewO wb (wb.alloc (.cells #[.int .i64 (F / 8 % 2), .int .i64 (F / 4 % 2), .int .i64 (F / 2 % 2), .int .i64 (F % 2)] 3)) (some wb.heap.size) 4 (encV F c.L 0) :=
            ⟨OwnS.lit (l := [F / 8 % 2, F / 4 % 2, F / 2 % 2, F % 2]) (heap_alloc_last wb _) (by simp), (fun g e => by injection e with e; omega), below_al _ _⟩
          have HO := Lib.hid hown
          have HV1 := Lib.hid (HV0.out.on (below_al wb (.cells #[.int .i64 (F / 8 % 2), .int .i64 (F / 4 % 2), .int .i64 (F / 2 % 2), .int .i64 (F % 2)] 3)))
          clear hown
          have had : ad0 (some wb.heap.size) = some ⟨wb.heap.size, 0, none⟩ := rfl
          rw [← had]
          clear had cy ct cn ca
          generalize wb.alloc (.cells #[.int .i64 (F / 8 % 2), .int .i64 (F / 4 % 2), .int .i64 (F / 2 % 2), .int .i64 (F % 2)] 3) = w5 at HO HV1 ⊢
          have HEL := Lib.hid (show ∀ j, j ≤ k → (encV F c.L j).length ≤ 8002 from fun j hj => by
            rw [encV_len]
            have := cst_le F ⟨hF0, hF15⟩ c.L j (fun i hi => HSM.out i (by omega))
            omega)
          have HPV := Lib.hid (show ∀ j, j ≤ k → 0 ≤ pv F c.L j ∧ pv F c.L j ≤ 15 from fun j hj => by
            cases j with
            | zero => exact ⟨hF0, hF15⟩
            | succ j => exact HSM.out j (by omega))
          have HEN := Lib.hid (show ∀ j, encV F c.L (j + 1) = encV F c.L j ++ putV (pv F c.L j) (gl c.L j) from fun j => rfl)
          have HPN := Lib.hid (show ∀ j, pv F c.L (j + 1) = gl c.L j from fun j => rfl)
          go_upto_region 26 with fail
          go_loopw [6, 7, 8] (fun p s i wr => ∃ (j : Nat) (A : Option Nat) (n c2 : Nat), j ≤ k ∧ i = .int .i64 j ∧ p = .int .i64 (pv F c.L j) ∧ s = .slice (ad0 A) n c2 ∧ n = (encV F c.L j).length ∧ NewO wb wr A c2 (encV F c.L j) ∧ Vb w c z0 wr) (fun _ _ i _ => k - (intOf i).toNat)
          case atStart => exact ⟨0, some wb.heap.size, 4, 4, by omega, rfl, rfl, rfl, rfl, HO.out, HV1.out⟩
          case round =>
            obtain ⟨j, A, n, c2, hj, rfl, rfl, rfl, hnl, hs, hvb⟩ := hrel
            have HS := Lib.hid hs
            have HNN := Lib.hid hnl
            have HVB := Lib.hid hvb
            have hn8 : n ≤ 8002 := by rw [hnl]; exact HEL.out j hj
            clear hs hnl hvb
            obtain ⟨cy, ct, cn, ca⟩ := tg_cells HVB.out.arg hcL
            rw [HYN.out] at cy
            by_cases hlt : j < k
            · have hj258 : j < 258 := by omega
              have hcl := tg_lcell HVB.out.arg hcL j hj258
              have hgd : c.L.getD j 0 = gl c.L j := rfl
              have HGL := Lib.hid hgd
              rw [hgd] at hcl
              have hbl := HSM.out j hlt
              have hpv := HPV.out j hj
              have HEN1 := Lib.hid (HEN.out j)
              have HPN1 := Lib.hid (HPN.out j)
              have hpc := fun W => put_call (pv F c.L j) (gl c.L j) hpv hbl W
              have hpl := putV_len (pv F c.L j) (gl c.L j)
              clear hgd
              generalize pv F c.L j = p at hpv hpc hpl HEN1 ⊢
              generalize gl c.L j = q at hcl hbl hpc hpl HEN1 HPN1 HGL
              have hpl31 : (putV p q).length ≤ 31 := by omega
              clear hpl
              obtain ⟨V, hV⟩ : ∃ V, V = putV p q := ⟨_, rfl⟩
              rw [← hV] at hpc hpl31 HEN1
              obtain ⟨m, hm⟩ : ∃ m, m = V.length := ⟨_, rfl⟩
              rw [← hm] at hpc hpl31
              have HMM := Lib.hid hm
              clear hV hm
              obtain ⟨Q, hQ⟩ : ∃ Q, Q = encV F c.L j := ⟨_, rfl⟩
              rw [← hQ] at HS HNN HEN1
              clear hQ
              go_wp2_with (first
                | (with_reducible refine (hpc _).mono ?_
                   rintro e w6 ⟨A2, c3, rfl, hs2⟩
                   have HS2 := Lib.hid hs2
                   have HV3 := Lib.hid (HVB.out.on hs2.bel)
                   clear hs2 hcl)
                | (refine wpList_appendI rfl _ _ 26 rfl 3 .i64 8 intsT intI A c2 Q n HNN.out.symm rfl (HS.out.own.below HS2.out.bel) (ad0 A2) m c3 rfl V HMM.out.symm HS2.out.own.src (by unfold maxLen; omega) (by omega) ?_
                   intro A' c' w7 h1 h2 h3
                   have hbox : w7.heap[w.heap.size]? = some (.cells (tg c) 25 (0, 0)) := (h2.block _ (Array.getElem?_eq_some_iff.1 HV3.out.arg).1 (fun e => by have := HS.out.new _ e.symm; have := HSZ2.out; omega)).trans HV3.out.arg
                   have hcl4 := tg_lcell hbox hcL j hj258
                   rw [HGL.out] at hcl4
                   have HBX := Lib.hid hbox
                   clear hbox))
              have hN := (HS.out.on HS2.out.bel).app h1 h2 h3
              rw [← HEN1.out] at hN
              exact ⟨⟨j + 1, A', n + m, c', by omega, by go_num, by rw [HPN1.out], rfl, by rw [HEN1.out, List.length_append, ← HNN.out, ← HMM.out], hN, HBX.out, (h2.block _ (Array.getElem?_eq_some_iff.1 HV3.out.got).1 (fun e => by have := HS.out.new _ e.symm; have := HSZ2.out; omega)).trans HV3.out.got, HV3.out.bel.grown h2 HV3.out.bel.size (fun g e => by have := HS.out.new g e; have := HSZ2.out; omega)⟩, by simp [intOf]; omega⟩
            · obtain rfl : j = k := by omega
              -- E2
              have hpv := HPV.out j (Nat.le_refl _)
              have hpl := putV_len (pv F c.L j) c.n
              have hpc := fun W => put_call (pv F c.L j) c.n hpv hn W
              have HBT2 := HBT
              have hadj : putV (pv F c.L j) c.n = adjV (pv F c.L j) c.n ++ [0] := rfl
              have hadl := adjV_len (pv F c.L j) c.n
              have HADJ := Lib.hid hadj
              have HEL2 := Lib.hid (HEL.out j (Nat.le_refl _))
              clear HEN HPN HPV HEL hlt hj hadj
              obtain ⟨Q, hQ⟩ : ∃ Q, Q = encV F c.L j := ⟨_, rfl⟩
              rw [← hQ] at HS HNN HBT2
              clear hQ
              generalize pv F c.L j = p at hpv hpl hpc HBT2 HADJ hadl ⊢
              have hpl31 : (putV p c.n).length ≤ 31 := by omega
              have hadj30 : (adjV p c.n).length + 1 = (putV p c.n).length := by rw [HADJ.out, List.length_append]; rfl
              obtain ⟨V, hV⟩ : ∃ V, V = putV p c.n := ⟨_, rfl⟩
              obtain ⟨AJ, hAJ⟩ : ∃ AJ, AJ = adjV p c.n := ⟨_, rfl⟩
              rw [← hV] at hpc hpl31 HADJ hadj30
              rw [← hAJ] at HBT2 HADJ hadj30
              clear hV hAJ hpl hadl
              obtain ⟨m, hm⟩ : ∃ m, m = AJ.length := ⟨_, rfl⟩
              have hmv : V.length = m + 1 := by omega
              rw [hmv] at hpc
              have HMM := Lib.hid hm
              have HVL := Lib.hid hmv
              have hm30 : m ≤ 30 := by omega
              clear hm hmv hadj30 hpl31
              obtain ⟨Q2, hQ2⟩ : ∃ Q2, Q2 = Q ++ (if c.y < 258 then AJ else []) := ⟨_, rfl⟩
              have HQ2 : Unit → Q2 = Q ++ (if c.y < 258 then AJ else []) := fun _ => hQ2
              clear hQ2
              obtain ⟨wo, hwo⟩ : ∃ wo, wo = wr := ⟨_, rfl⟩
              subst hwo
              go_upto_if 132 with fail
              go_cut [7] (fun s7 wx => ∃ (A' : Option Nat) (n' c' : Nat), s7 = .slice (ad0 A') n' c' ∧ n' = Q2.length ∧ n' ≤ 9000 ∧ NewO wb wx A' c' Q2 ∧ Vb w c z0 wx)
              case first =>
                by_cases hy258' : j < 258
                · have hyd : decide ((j : Int) < 258) = true := decide_eq_true (by omega)
                  have HIF := Lib.hid (show (if c.y < 258 then AJ else []) = AJ from if_pos (by rw [HYN.out]; omega))
                  have hwm : IntKind.i64.wrap (((m + 1 : Nat) : Int) - 1) = (m : Int) := by rw [IntKind.wrap_i64]; omega
                  have hwm2 : IntKind.i64.wrap ((m : Int) + 1 - 1) = (m : Int) := by rw [IntKind.wrap_i64]; omega
                  have HQ3 := Lib.hid (show Q2 = Q ++ AJ by rw [HQ2 (), HIF.out])
                  go_wp2_with (first
                    | (with_reducible refine (hpc _).mono ?_
                       rintro e w6 ⟨A2, c3, rfl, hs2⟩
                       have HS2 := Lib.hid hs2
                       have HV3 := Lib.hid (HVB.out.on hs2.bel)
                       have hc3 := hs2.own.cap
                       have hcm : (m : Int) ≤ (c3 : Int) := by rw [HVL.out] at hc3; omega
                       have hsrc : Src w6 .i64 (ad0 A2) AJ := by
                         have := hs2.own.src.take m
                         rw [HADJ.out, HMM.out, List.take_left] at this
                         exact this
                       have HSRC := Lib.hid hsrc
                       clear hs2 hsrc)
                    | (refine wpList_appendI rfl _ _ 26 rfl 3 .i64 8 intsT intI A c2 Q n HNN.out.symm rfl (HS.out.own.below HS2.out.bel) (ad0 A2) m _ rfl AJ HMM.out.symm HSRC.out (by unfold maxLen; omega) (by omega) ?_
                       intro A' c' w7 h1 h2 h3))
                  go_meet
                  have hN := (HS.out.on HS2.out.bel).app h1 h2 h3
                  rw [← HQ3.out] at hN
                  exact ⟨A', n + m, c', rfl, by rw [HQ3.out, List.length_append, ← HNN.out, ← HMM.out], by omega, hN, (h2.block _ (Array.getElem?_eq_some_iff.1 HV3.out.arg).1 (fun e => by have := HS.out.new _ e.symm; have := HSZ2.out; omega)).trans HV3.out.arg, (h2.block _ (Array.getElem?_eq_some_iff.1 HV3.out.got).1 (fun e => by have := HS.out.new _ e.symm; have := HSZ2.out; omega)).trans HV3.out.got, HV3.out.bel.grown h2 HV3.out.bel.size (fun g e => by have := HS.out.new g e; have := HSZ2.out; omega)⟩
                · have hyd : decide ((j : Int) < 258) = false := decide_eq_false (by omega)
                  have HQ3 := Lib.hid (show Q2 = Q by rw [HQ2 (), if_neg (by rw [HYN.out]; omega), List.append_nil])
                  go_wp2_with fail
                  go_meet
                  exact ⟨A, n, c2, rfl, by rw [HQ3.out]; exact HNN.out, by omega, by rw [HQ3.out]; exact HS.out, HVB.out⟩
              case rest =>
                obtain ⟨A3, n3, c3, rfl, hn3, hn9, hs3, hvb3⟩ := hcut
                have HS3 := Lib.hid hs3
                have HN3 := Lib.hid hn3
                have HVB3 := Lib.hid hvb3
                have HBT3 : Unit → bitsTo c = Q2 ++ (if c.t = 5 then [1] else []) := fun _ => by rw [HBT2 (), HQ2 ()]
                clear HS HNN HVB HBT2 HQ2 hpc HADJ HMM HVL hs3 hn3 hvb3 cy ct cn ca hn8
                obtain ⟨cy, ct, cn, ca⟩ := tg_cells HVB3.out.arg hcL
                obtain ⟨BB, hBB⟩ : ∃ BB, BB = bitsTo c := ⟨_, rfl⟩
                have HBB : Unit → BB = Q2 ++ (if c.t = 5 then [1] else []) := fun _ => hBB.trans (HBT3 ())
                have HBIT := Lib.hid (show ∀ b ∈ BB, bit b by rw [hBB]; exact bitsTo_bit c)
                have HXB : Unit → X = decide (runS tableV z0 BB = some c) := fun _ => by rw [hBB]; exact HX.out ()
                clear hBB HBT3 HX HBT
                obtain ⟨wo2, hwo2⟩ : ∃ wo2, wo2 = wc := ⟨_, rfl⟩
                subst hwo2
                go_upto_if 146 with fail
                go_cut [7] (fun s7 wx => ∃ (A' : Option Nat) (n' c' : Nat), s7 = .slice (ad0 A') n' c' ∧ n' = BB.length ∧ n' ≤ 9001 ∧ NewO wb wx A' c' BB ∧ Vb w c z0 wx)
                case first =>
                  by_cases h5 : c.t = 5
                  · have h5b : (c.t == 5) = true := beq_iff_eq.2 h5
                    have HQ3 := Lib.hid (show BB = Q2 ++ [1] by rw [HBB (), if_pos h5])
                    clear h5
                    go_wp2_with (
                      refine wpList_appendI rfl _ _ 26 rfl 3 .i64 8 intsT intI A3 c3 Q2 n3 HN3.out.symm rfl (HS3.out.own.alloc _) (some ⟨wo2.heap.size, 0, none⟩) 1 1 rfl [1] rfl (Src.one (by simp)) (by unfold maxLen; omega) (by omega) ?_
                      intro A' c' w7 h1 h2 h3)
                    go_meet
                    have hN := (HS3.out.alloc _).app h1 h2 h3
                    rw [← HQ3.out] at hN
                    have HV3 := HVB3.out.on (below_al wo2 (.cells #[.int .i64 1] 3))
                    exact ⟨A', n3 + 1, c', rfl, by rw [HQ3.out, List.length_append, ← HN3.out]; rfl, by omega, hN, (h2.block _ (Array.getElem?_eq_some_iff.1 HV3.arg).1 (fun e => by have := HS3.out.new _ e.symm; have := HSZ2.out; omega)).trans HV3.arg, (h2.block _ (Array.getElem?_eq_some_iff.1 HV3.got).1 (fun e => by have := HS3.out.new _ e.symm; have := HSZ2.out; omega)).trans HV3.got, HV3.bel.grown h2 HV3.bel.size (fun g e => by have := HS3.out.new g e; have := HSZ2.out; omega)⟩
                  · have h5b : (c.t == 5) = false := beq_eq_false_iff_ne.2 h5
                    have HQ3 := Lib.hid (show BB = Q2 by rw [HBB (), if_neg h5, List.append_nil])
                    clear h5
                    go_wp2_with fail
                    go_meet
                    exact ⟨A3, n3, c3, rfl, by rw [HQ3.out]; exact HN3.out, by omega, by rw [HQ3.out]; exact HS3.out, HVB3.out⟩
                case rest =>
                  -- E3
                  obtain ⟨A4, n4, c4, rfl, hn4, hn49, hs4, hvb4⟩ := hcut
                  have HS4 := Lib.hid hs4
                  have HN4 := Lib.hid hn4
                  have HVB4 := Lib.hid hvb4
                  clear HS3 HN3 HVB3 HBB hs4 hn4 hvb4 cy ct cn ca hn9
                  have HR0 := Lib.hid (show (∃ f k, Rch tableV f k z0 ∧ Cnt f k z0) ∧ runS tableV z0 BB = runS tableV z0 (BB.drop 0) from ⟨⟨0, 0, Rch.zero 0, fun e => absurd e (by show ¬ (4 : Int) ≤ 0; decide)⟩, rfl⟩)
                  obtain ⟨wo3, hwo3⟩ : ∃ wo3, wo3 = wc := ⟨_, rfl⟩
                  subst hwo3
                  go_upto_region 36 with fail
                  go_loopw [10] (fun iv wr => ∃ (i : Nat) (d : TS), i ≤ n4 ∧ iv = .int .i64 i ∧ ((∃ f k, Rch tableV f k d ∧ Cnt f k d) ∧ runS tableV z0 BB = runS tableV d (BB.drop i)) ∧ OwnS wr .i64 3 A4 c4 BB ∧ Vb w c d wr) (fun iv _ => n4 - (intOf iv).toNat)
                  case atStart => exact ⟨0, z0, by omega, rfl, HR0.out, HS4.out.own, HVB4.out⟩
                  case round =>
                    obtain ⟨i, d, hi, rfl, hR, hown, hvb⟩ := hrel
                    obtain ⟨⟨f, kk, hr, hcn⟩, hrun⟩ := hR
                    have HVB := Lib.hid hvb
                    have HOW := Lib.hid hown
                    have hgot := hvb.got
                    have harg := hvb.arg
                    have hdl := hr.len
                    have HRC := Lib.hid hr
                    have HCN := Lib.hid hcn
                    have HRUN : Unit → runS tableV z0 BB = runS tableV d (BB.drop i) := fun _ => hrun
                    clear hvb hown hr hcn hrun
                    by_cases hlt : i < n4
                    · have hiq : i < BB.length := by rw [← HN4.out]; exact hlt
                      obtain ⟨g, rfl⟩ := HOW.out.pos (by omega)
                      have had : ad0 (some g) = some ⟨g, 0, none⟩ := rfl
                      rw [had]
                      have hcb := HOW.out.cell i hiq
                      have hbit : BB.getD i 0 = 0 ∨ BB.getD i 0 = 1 := HBIT.out _ (by
                        rw [List.getD_eq_getElem?_getD, List.getElem?_eq_getElem hiq]
                        exact List.getElem_mem hiq)
                      have HDR : Unit → BB.drop i = BB.getD i 0 :: BB.drop (i + 1) := fun _ => drop_at BB i hiq
                      have hgn : wb.heap.size ≤ g := HS4.out.new g rfl
                      have hne2 : g < wr.heap.size := World.block_lt_of_cell? _ _ hcb
                      obtain ⟨b, hbe⟩ : ∃ b, b = BB.getD i 0 := ⟨_, rfl⟩
                      rw [← hbe] at hcb hbit HDR
                      clear hbe hiq
                      obtain ⟨dy, _, _, _⟩ := tg_cells hgot hdl
                      by_cases hy : d.y = 258
                      · have hyb : (d.y == 258) = true := beq_iff_eq.2 hy
                        have HXF := Lib.hid (show X = false by
                          rw [HXB (), HRUN (), HDR (), runS, if_pos hy]
                          rfl)
                        clear hy
                        go_wp2_with fail
                        go_ret
                        exact ⟨by rw [HXF.out]; rfl, HVB.out.bel⟩
                      · have hyb : (d.y == 258) = false := beq_eq_false_iff_ne.2 hy
                        have HWC0 := Lib.hid (fun W => way_call d f kk HRC.out hy b hbit W)
                        have hDL : (wayS d b).L.length = 258 := by rw [wayS_len]; exact hdl
                        have HBAD := Lib.hid (show Unit → wayB tableV d b = false → X = false from fun _ h => by
                          rw [HXB (), HRUN (), HDR (), runS, if_neg hy, if_neg (by rw [h]; decide)]
                          rfl)
                        have HGO := Lib.hid (show Unit → wayB tableV d b = true → (∃ f k, Rch tableV f k (wayS d b) ∧ Cnt f k (wayS d b)) ∧ runS tableV z0 BB = runS tableV (wayS d b) (BB.drop (i + 1)) from fun _ h => by
                          have := HRC.out.y0
                          obtain ⟨r2, s2⟩ := HRC.out.step HCN.out (by omega) hbit h
                          exact ⟨⟨_, _, r2, s2⟩, by rw [HRUN (), HDR (), run_one tableV d b hy h]⟩)
                        clear hy HRC HCN HRUN HDR hbit
                        generalize wayS d b = D at HWC0 hDL HGO
                        generalize wayB tableV d b = ok at HWC0 HBAD HGO
                        have HWC := Lib.hid HWC0.out
                        clear HWC0
                        have hne1 : w.heap.size + 1 < wr.heap.size := (Array.getElem?_eq_some_iff.1 hgot).1
                        go_upto_region 40 with fail
                        go_cut [11, 12] (fun s11 s12 wx => ∃ g7 : Nat, s11 = .pointer (some ⟨g7, 0, none⟩) ∧ s12 = .bool ok ∧ wx.heap[g7]? = some (.cells (tg D) 25 (0, 0)) ∧ Below wr.heap.size wr wx ∧ wr.heap.size ≤ g7)
                        case first =>
                          refine wp_region_noPanic ?_
                          refine wp_region_held_drew (S := fun W => W.heap[w.heap.size + 1]? = some (.cells (tg d) 25 (0, 0)) ∧ W.cell? ⟨g, i, none⟩ = some (.int .i64 b) ∧ Below wr.heap.size wr W) (by kernel_rfl) ⟨hgot, hcb, (Below.refl _ wr).drew⟩ (fun hHeld => ?_)
                          refine wpAnyH_take (i := 0) (v := .agg (tgl d).toArray) rfl (by kernel_rfl) (by kernel_rfl) (by kernel_rfl) (fun _ _ _ h => h) (yieldsIf_load_mid rfl 25 _ rfl (w.heap.size + 1) 0 rfl (tgl d) _ (fun W hW => tg_whole hW.1) Try.underlying25 rfl (by rw [tgl_len hdl]; exact tstI)) (by assumption) ?_
                          try simp only [Act.put, List.getElem_toArray, List.getElem_cons_succ, List.getElem_cons_zero, List.setIfInBounds_toArray, List.set_cons_zero, List.set_cons_succ]
                          refine wpAnyH_take (i := 1) (v := ?_) rfl (by kernel_rfl) (by kernel_rfl) (by kernel_rfl) (fun _ _ _ h => h) (Or.inl ⟨by rfl, ?_⟩) (by assumption) ?_
                          rotate_left
                          · (intro W hSw; go_simp) <;> with_reducible rfl
                          try simp only [Act.put, List.getElem_toArray, List.getElem_cons_succ, List.getElem_cons_zero, List.setIfInBounds_toArray, List.set_cons_zero, List.set_cons_succ]
                          refine wpAnyH_take (i := 2) (v := ?_) rfl (by kernel_rfl) (by kernel_rfl) (by kernel_rfl) (fun _ _ _ h => h) (Or.inl ⟨by rfl, ?_⟩) (by assumption) ?_
                          rotate_left
                          · (intro W hSw; go_simp) <;> with_reducible rfl
                          try simp only [Act.put, List.getElem_toArray, List.getElem_cons_succ, List.getElem_cons_zero, List.setIfInBounds_toArray, List.set_cons_zero, List.set_cons_succ]
                          refine wpAnyH_take (i := 3) (v := ?_) rfl (by kernel_rfl) (by kernel_rfl) (by kernel_rfl) (fun _ _ _ h => h) (Or.inl ⟨by rfl, ?_⟩) (by assumption) ?_
                          rotate_left
                          · (intro W hSw; go_simp) <;> with_reducible rfl
                          try simp only [Act.put, List.getElem_toArray, List.getElem_cons_succ, List.getElem_cons_zero, List.setIfInBounds_toArray, List.set_cons_zero, List.set_cons_succ]
                          refine wpAnyH_take (i := 4) (v := ?_) rfl (by kernel_rfl) (by kernel_rfl) (by kernel_rfl) (fun _ _ _ h => h) (Or.inl ⟨by rfl, ?_⟩) (by assumption) ?_
                          rotate_left
                          · (intro W hSw; have hcW := hSw.2.1; go_simp) <;> with_reducible rfl
                          try simp only [Act.put, List.getElem_toArray, List.getElem_cons_succ, List.getElem_cons_zero, List.setIfInBounds_toArray, List.set_cons_zero, List.set_cons_succ]
                          refine wpAnyH_ready (rs := [5, 9]) (by kernel_rfl) (by simp) ?_
                          refine AllReadyH.cons (o := _) rfl (fun K hK => ?_) (AllReadyH.cons (o := _) rfl (fun K hK => ?_) (AllReadyH.nil))
                          · go_simp
                            go_at_call 27
                            refine (HWC.out _).mono ?_
                            rintro e w7 ⟨rfl, hb7⟩
                            have hle7 : wr.heap.size ≤ w7.heap.size := hb7.size
                            refine hK.out _ _ ⟨heap_on hb7 hHeld.1, cell_on hb7 hHeld.2.1, hHeld.2.2.trans (hb7.mono hHeld.2.2.size)⟩ (fun hHeldN => ?_)
                            clear hK K hHeld
                            have hHeld := hHeldN
                            clear hHeldN
                            try simp only [Act.put, List.getElem_toArray, List.getElem_cons_succ, List.getElem_cons_zero, List.setIfInBounds_toArray, List.set_cons_zero, List.set_cons_succ]
                            refine wpAnyH_take (i := 6) (v := ?_) rfl (by kernel_rfl) (by kernel_rfl) (by kernel_rfl) (fun _ _ _ h => h) (Or.inl ⟨by rfl, ?_⟩) (by assumption) ?_
                            rotate_left
                            · (intro W hSw; go_simp) <;> with_reducible rfl
                            try simp only [Act.put, List.getElem_toArray, List.getElem_cons_succ, List.getElem_cons_zero, List.setIfInBounds_toArray, List.set_cons_zero, List.set_cons_succ]
                            refine wpAnyH_take (i := 7) (v := ?_) rfl (by kernel_rfl) (by kernel_rfl) (by kernel_rfl) (fun _ _ _ h => h) (Or.inl ⟨by rfl, ?_⟩) (by assumption) ?_
                            rotate_left
                            · (intro W hSw; go_simp) <;> with_reducible rfl
                            try simp only [Act.put, List.getElem_toArray, List.getElem_cons_succ, List.getElem_cons_zero, List.setIfInBounds_toArray, List.set_cons_zero, List.set_cons_succ]
                            refine wpAnyH_take (i := 8) (v := ?_) rfl (by kernel_rfl) (by kernel_rfl) (by kernel_rfl) (fun _ _ _ h => h) (Or.inl ⟨by rfl, ?_⟩) (by assumption) ?_
                            rotate_left
                            · (intro W hSw; go_simp) <;> with_reducible rfl
                            try simp only [Act.put, List.getElem_toArray, List.getElem_cons_succ, List.getElem_cons_zero, List.setIfInBounds_toArray, List.set_cons_zero, List.set_cons_succ]
                            refine wpAnyH_ready (rs := [9]) (by kernel_rfl) (by simp) ?_
                            refine AllReadyH.cons (o := _) rfl (fun K hK => ?_) (AllReadyH.nil)
                            go_simp
                            have hr7 := heap_alloc_last w7 (.cells (tg z0) 25)
                            refine hK.out _ _ ⟨heap_on (below_al w7 _) hHeld.1, cell_on (below_al w7 _) hHeld.2.1, hHeld.2.2.alloc hHeld.2.2.size _⟩ (fun hHeldN => ?_)
                            clear K hK hHeld
                            have hHeld := hHeldN
                            clear hHeldN
                            try simp only [Act.put, List.getElem_toArray, List.getElem_cons_succ, List.getElem_cons_zero, List.setIfInBounds_toArray, List.set_cons_zero, List.set_cons_succ]
                            refine wpAnyH_ready (rs := [10]) (by kernel_rfl) (by simp) ?_
                            refine AllReadyH.cons (o := _) rfl (fun K hK => ?_) (AllReadyH.nil)
                            rw [if_pos (by rfl)]
                            refine wp_store_row 25 _ _ rfl w7.heap.size (tg D) rfl rfl 25 (tg z0) hr7 (tstIk hDL) (by rw [tg_size z0_len, tg_size hDL]) (tg_all _) ?_
                            refine hK.out _ _ ⟨(setRow_other _ _ _ _ (by omega)).trans hHeld.1, (World.cell?_of_block (setRow_other _ _ _ _ (by simp only; omega))).trans hHeld.2.1, hHeld.2.2.setRow (by omega) _⟩ (fun hHeldN => ?_)
                            clear K hK hHeld
                            have hHeld := hHeldN
                            clear hHeldN
                            try simp only [Act.put, List.getElem_toArray, List.getElem_cons_succ, List.getElem_cons_zero, List.setIfInBounds_toArray, List.set_cons_zero, List.set_cons_succ]
                            refine wpAnyH_take (i := 11) (v := ?_) rfl (by kernel_rfl) (by kernel_rfl) (by kernel_rfl) (fun _ _ _ h => h) (Or.inl ⟨by rfl, ?_⟩) (by assumption) ?_
                            rotate_left
                            · (intro W hSw; go_simp) <;> with_reducible rfl
                            try simp only [Act.put, List.getElem_toArray, List.getElem_cons_succ, List.getElem_cons_zero, List.setIfInBounds_toArray, List.set_cons_zero, List.set_cons_succ]
                            refine wpAnyH_done (by kernel_rfl) ?_ _
                            refine NoPanic.normal ?_
                            have hrr := setRow_heap _ _ _ (tg D) _ _ hr7
                            go_wp2
                            go_meet
                            exact ⟨_, rfl, rfl, hrr, hHeld.2.2, hle7⟩
                          · go_simp
                            have hr70 := heap_alloc_last wr.drew (.cells (tg z0) 25)
                            refine hK.out _ _ ⟨heap_on (below_al wr.drew _) hHeld.1, cell_on (below_al wr.drew _) hHeld.2.1, hHeld.2.2.alloc hHeld.2.2.size _⟩ (fun hHeldN => ?_)
                            clear K hK hHeld
                            have hHeld := hHeldN
                            clear hHeldN
                            try simp only [Act.put, List.getElem_toArray, List.getElem_cons_succ, List.getElem_cons_zero, List.setIfInBounds_toArray, List.set_cons_zero, List.set_cons_succ]
                            refine wpAnyH_ready (rs := [5]) (by kernel_rfl) (by simp) ?_
                            refine AllReadyH.cons (o := _) rfl (fun K hK => ?_) (AllReadyH.nil)
                            go_simp
                            go_at_call 27
                            refine (HWC.out _).mono ?_
                            rintro e w7 ⟨rfl, hb7⟩
                            have hr7 := heap_on hb7 hr70
                            refine hK.out _ _ ⟨heap_on hb7 hHeld.1, cell_on hb7 hHeld.2.1, hHeld.2.2.trans (hb7.mono hHeld.2.2.size)⟩ (fun hHeldN => ?_)
                            clear hK K hHeld hr70
                            have hHeld := hHeldN
                            clear hHeldN
                            try simp only [Act.put, List.getElem_toArray, List.getElem_cons_succ, List.getElem_cons_zero, List.setIfInBounds_toArray, List.set_cons_zero, List.set_cons_succ]
                            refine wpAnyH_take (i := 6) (v := ?_) rfl (by kernel_rfl) (by kernel_rfl) (by kernel_rfl) (fun _ _ _ h => h) (Or.inl ⟨by rfl, ?_⟩) (by assumption) ?_
                            rotate_left
                            · (intro W hSw; go_simp) <;> with_reducible rfl
                            try simp only [Act.put, List.getElem_toArray, List.getElem_cons_succ, List.getElem_cons_zero, List.setIfInBounds_toArray, List.set_cons_zero, List.set_cons_succ]
                            refine wpAnyH_take (i := 7) (v := ?_) rfl (by kernel_rfl) (by kernel_rfl) (by kernel_rfl) (fun _ _ _ h => h) (Or.inl ⟨by rfl, ?_⟩) (by assumption) ?_
                            rotate_left
                            · (intro W hSw; go_simp) <;> with_reducible rfl
                            try simp only [Act.put, List.getElem_toArray, List.getElem_cons_succ, List.getElem_cons_zero, List.setIfInBounds_toArray, List.set_cons_zero, List.set_cons_succ]
                            refine wpAnyH_take (i := 8) (v := ?_) rfl (by kernel_rfl) (by kernel_rfl) (by kernel_rfl) (fun _ _ _ h => h) (Or.inl ⟨by rfl, ?_⟩) (by assumption) ?_
                            rotate_left
                            · (intro W hSw; go_simp) <;> with_reducible rfl
                            try simp only [Act.put, List.getElem_toArray, List.getElem_cons_succ, List.getElem_cons_zero, List.setIfInBounds_toArray, List.set_cons_zero, List.set_cons_succ]
                            refine wpAnyH_ready (rs := [10]) (by kernel_rfl) (by simp) ?_
                            refine AllReadyH.cons (o := _) rfl (fun K hK => ?_) (AllReadyH.nil)
                            rw [if_pos (by rfl)]
                            refine wp_store_row 25 _ _ rfl wr.heap.size (tg D) rfl rfl 25 (tg z0) hr7 (tstIk hDL) (by rw [tg_size z0_len, tg_size hDL]) (tg_all _) ?_
                            refine hK.out _ _ ⟨(setRow_other _ _ _ _ (by omega)).trans hHeld.1, (World.cell?_of_block (setRow_other _ _ _ _ (by simp only; omega))).trans hHeld.2.1, hHeld.2.2.setRow (by omega) _⟩ (fun hHeldN => ?_)
                            clear K hK hHeld
                            have hHeld := hHeldN
                            clear hHeldN
                            try simp only [Act.put, List.getElem_toArray, List.getElem_cons_succ, List.getElem_cons_zero, List.setIfInBounds_toArray, List.set_cons_zero, List.set_cons_succ]
                            refine wpAnyH_take (i := 11) (v := ?_) rfl (by kernel_rfl) (by kernel_rfl) (by kernel_rfl) (fun _ _ _ h => h) (Or.inl ⟨by rfl, ?_⟩) (by assumption) ?_
                            rotate_left
                            · (intro W hSw; go_simp) <;> with_reducible rfl
                            try simp only [Act.put, List.getElem_toArray, List.getElem_cons_succ, List.getElem_cons_zero, List.setIfInBounds_toArray, List.set_cons_zero, List.set_cons_succ]
                            refine wpAnyH_done (by kernel_rfl) ?_ _
                            refine NoPanic.normal ?_
                            have hrr := setRow_heap _ _ _ (tg D) _ _ hr7
                            go_wp2
                            go_meet
                            exact ⟨_, rfl, rfl, hrr, hHeld.2.2, Nat.le_refl _⟩
                        case rest =>
                          obtain ⟨g7, rfl, rfl, h7, hb7, hle7⟩ := hcut
                          clear hcb hne2 HWC
                          have HV5 := Lib.hid (HVB.out.on hb7)
                          have HO5 := Lib.hid (HOW.out.below hb7)
                          clear hb7 HVB HOW hgot harg dy
                          cases ok with
                          | false =>
                            have HXF := Lib.hid (HBAD.out () rfl)
                            clear HBAD HGO
                            go_wp2_with fail
                            go_ret
                            exact ⟨by rw [HXF.out]; rfl, HV5.out.bel⟩
                          | true =>
                            have HG2 := Lib.hid (show Unit → (∃ f k, Rch tableV f k D ∧ Cnt f k D) ∧ runS tableV z0 BB = runS tableV D (BB.drop (i + 1)) from fun _ => HGO.out () rfl)
                            have hgot2 := HV5.out.got
                            clear HBAD HGO
                            go_wp2_with (first
                              | (refine wpList_load_row rfl 25 _ rfl g7 rfl 25 (tg D) (0, 0) _ h7 Try.underlying25 rfl (tstIk hDL) ?_)
                              | (refine wpList_store_row rfl 25 _ _ rfl (w.heap.size + 1) (tg D) rfl rfl 25 (tg d) hgot2 (tstIk hDL) (by rw [tg_size hdl, tg_size hDL]) (tg_all _) ?_))
                            exact ⟨⟨i + 1, D, by omega, by go_num, HG2.out (), HO5.out.ch (S := fun y => y = w.heap.size + 1) ⟨rfl, rfl, rfl, by simp, fun y _ hy => setRow_other _ _ _ _ (fun e => hy e)⟩ (fun g' e => by injection e with e; have := HSZ2.out; omega), HV5.out.put D⟩, by simp [intOf]; omega⟩
                    · obtain rfl : i = n4 := by omega
                      have hTd := HRC.out.tst
                      have HX2 := Lib.hid (show X = decide (d = c) by
                        rw [HXB (), HRUN (), List.drop_of_length_le (by rw [← HN4.out]; exact Nat.le_refl _)]
                        show decide (some d = some c) = _
                        rw [Bool.eq_iff_iff, decide_eq_true_eq, decide_eq_true_eq]
                        constructor
                        · intro e; injection e
                        · intro e; rw [e])
                      have heq := fun W => run_eqi_tst W hTd hT
                      clear HRC HCN HRUN
                      generalize decide (d = c) = DD at heq HX2
                      go_wp2_with (first
                        | (refine wpList_load_row rfl 25 _ rfl (w.heap.size + 1) rfl 25 (tg d) (0, 0) _ hgot Try.underlying25 rfl (tstIk hdl) ?_)
                        | (refine wpList_load_row rfl 25 _ rfl w.heap.size rfl 25 (tg c) (0, 0) _ harg Try.underlying25 rfl (tstIk hcL) ?_))
                      go_ret
                      exact ⟨by rw [HX2.out]; rfl, HVB.out.bel⟩

theorem rvalid_call (c : TS) (hT : Tst c) (w : World) : Calls Try.prog 14 #[.agg (tg c)] w fun e w' => e = .returned (.bool (validS tableV c)) ∧ Below w.heap.size w w' := by
  by_cases h1 : c.n < 0 ∨ 15 < c.n ∨ c.y < 0 ∨ 258 < c.y
  · exact rvalid_low c hT (.inl h1) w
  · by_cases h2 : 0 ≤ c.t ∧ c.t < 4
    · exact rvalid_low c hT (.inr h2) w
    · exact rvalid_high c hT h1 h2 w
end Go.Proofs.Ytckopdifjhjppaa
