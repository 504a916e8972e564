/- The walk over winepresslaw05.VarintSteps. -/
import Derived.Test.YtalkmbakglklbaaVarK
set_option linter.unusedVariables false
set_option linter.unusedSimpArgs false
namespace Go.Proofs.Ytalkmbakglklbaa
open Go.RowKit

theorem steps_out (a0 : Option Addr) (n cap0 : Nat) (w : World) (h : 20 < n) (h63 : n ≤ 9223372036854775807) :
    Calls Try.prog 6 #[.slice a0 n cap0] w fun e w' => e = .returned (.bool true) ∧ Below w.heap.size w w' := by
  have d1 : decide ((20 : Int) < (n : Int)) = true := by simp; omega
  go_enter Try.func6, Try.ntmps6
  go_wp2_with fail
  refine (wakes_call w).mono ?_
  rintro e w1 ⟨rfl, hb⟩
  go_wp2
  go_ret
  exact ⟨rfl, hb⟩

set_option maxRecDepth 100000 in
set_option maxHeartbeats 1000000 in
theorem steps_in (sp : Option Addr) (n cap : Nat) (w : World) (l : List Int) (hl : l.length = n) (hs : Src w .u8 sp l) (hby : Byts l) (hn : n ≤ 20) (hlc : n ≤ cap) (hcm : cap ≤ maxLen) :
    Calls Try.prog 6 #[.slice sp n cap] w fun e w' => e = .returned (.bool true) ∧ Below w.heap.size w w' := by
  have d1 : decide ((20 : Int) < (n : Int)) = false := by simp; omega
  have HL := Lib.hid hl
  have HS := Lib.hid hs
  have HY := Lib.hid hby
  have HTK := Lib.hid (take_call w sp n cap l hl hs hby (by omega) hlc hcm)
  clear hl hs hby
  go_enter Try.func6, Try.ntmps6
  go_wp2_with fail
  refine HTK.out.mono ?_
  rintro e w1 ⟨a1, c1, rfl, _, _, hb1⟩
  obtain ⟨R, hR⟩ : ∃ R, R = takeF 0 0 l := ⟨_, rfl⟩
  have HR := Lib.hid hR
  rw [← hR]
  clear hR HTK d1
  obtain ⟨v, r, q⟩ := R
  dsimp only
  obtain ⟨m, hm⟩ : ∃ m, r.length = m := ⟨_, rfl⟩
  have HM := Lib.hid hm
  rw [hm]
  clear hm
  go_wp2_with fail
  obtain ⟨p, hp⟩ : ∃ p, p = w1.heap.size := ⟨_, rfl⟩
  have hT : TwoI (w1.alloc (.cells #[.int .i64 0, .int .i64 0] 24)) w1.heap.size 0 0 := TwoI.new _ _ _ _
  have hB := hb1.alloc hb1.size (.cells #[.int .i64 0, .int .i64 0] 24)
  have hZ : w1.heap.size < (w1.alloc (.cells #[.int .i64 0, .int .i64 0] 24)).heap.size := by simp
  have hwp : w.heap.size ≤ w1.heap.size := hb1.size
  rw [← hp] at hT hZ hwp ⊢
  clear hb1 hp
  generalize w1.alloc (.cells #[.int .i64 0, .int .i64 0] 24) = w2 at *
  go_loopw [7] (fun x wr => ∃ (k : Nat) (V : Int), k ≤ n ∧ x = .int .i64 k ∧ okV V (k : Nat) ∧ TwoI wr p V (k : Nat) ∧ takeF V (k : Nat) (l.drop k) = (v, r, q) ∧ Below w.heap.size w wr) (fun x _ => n - (intOf x).toNat)
  case atStart => exact ⟨0, 0, Nat.zero_le _, rfl, okV_zero, hT, HR.out.symm, hB⟩
  case round =>
    obtain ⟨k, V, hk, rfl, hok, hTr, hRr, hbr⟩ := hrel
    have HOK := Lib.hid hok
    have HT := Lib.hid hTr
    have HRR := Lib.hid hRr
    have HB := Lib.hid hbr
    have v0 := hTr.c0
    have v1 := hTr.c1
    clear hok hTr hRr hbr hT hB hZ
    by_cases hlt : k < n
    · go_wp2_with fail
      refine (valid_call V (k : Nat) _).mono ?_
      rintro e wv ⟨rfl, hbv⟩
      rw [decide_eq_true HOK.out]
      have HTv := Lib.hid (HT.out.on hbv)
      have HBv := Lib.hid (HB.out.trans (hbv.mono HB.out.size))
      clear HT HB hbv v0 v1
      rcases HS.out with rfl | ⟨g, o, rfl, hc⟩
      · have := HL.out
        simp at this
        omega
      have c1 := cell_on HBv.out (hc k (by rw [HL.out]; exact hlt))
      have hx := HY.out.getD k
      have HTA := Lib.hid (take_at l k (by rw [HL.out]; exact hlt) V (k : Nat))
      obtain ⟨xi, hxi⟩ : ∃ xi, xi = l.getD k 0 := ⟨_, rfl⟩
      rw [← hxi] at c1 hx HTA
      obtain ⟨x, rfl⟩ := Int.eq_ofNat_of_zero_le hx.1
      have HSV := Lib.hid (step_valid V (k : Nat) x HOK.out (by omega))
      have HSO := Lib.hid (step_ok V (k : Nat) x HOK.out (by omega))
      have HSE := Lib.hid (step_err V (k : Nat) x HOK.out)
      have hcl := fun w => step_call V (k : Nat) x (by omega) w
      unfold stepR at hcl
      obtain ⟨V', hV'⟩ : ∃ q, q = stepV V (k : Nat) x := ⟨_, rfl⟩
      obtain ⟨M', hM'⟩ : ∃ q, q = stepM V (k : Nat) x := ⟨_, rfl⟩
      obtain ⟨D, hD⟩ : ∃ q, q = stepD V (k : Nat) x := ⟨_, rfl⟩
      obtain ⟨E, hE⟩ : ∃ q, q = stepE V (k : Nat) x := ⟨_, rfl⟩
      rw [← hV', ← hM', ← hD, ← hE] at HSV HTA HSE HSO
      rw [← hV', ← hM', ← hD, ← hE] at hcl
      have HCL := Lib.hid hcl
      have hS0 : S3 g (o + k) p x V (k : Nat) wv.drew := ⟨c1, HTv.out.c0, HTv.out.c1⟩
      have hgB : g < wv.heap.size := World.block_lt_of_cell? _ _ c1
      have hpB : p < wv.heap.size := World.block_lt_of_cell? _ _ HTv.out.c0
      clear hc hxi hcl hV' hM' hD hE c1
      go_upto_region 10 with fail
      go_cut [8, 9, 10] (fun s8 s9 s10 wx => ∃ q, s8 = .pointer (some ⟨q, 0, none⟩) ∧ s9 = .bool D ∧ s10 = .int .i64 E ∧ TwoI wx q V' M' ∧ TwoI wx p V (k : Nat) ∧ Below w.heap.size w wx)
      case first =>
        go_region_held3 (fun W => W.cell? ⟨g, o + k, none⟩ = some (.int .u8 x) ∧ W.cell? ⟨p, 0, none⟩ = some (.int .i64 V) ∧ W.cell? ⟨p, 1, none⟩ = some (.int .i64 (k : Nat))) (first | exact hS0 | exact hS5 | exact S3.alloc hS0 _ | exact S3.alloc hS5 _ | exact S3.set2 hS5 hgB hpB _ _ | exact S3.set2 (S3.alloc hS5 _) (Nat.lt_of_lt_of_le hgB hq5) (Nat.lt_of_lt_of_le hpB hq5) _ _) ((first
          | (go_at_call 13; refine (HCL.out _).mono ?_; rintro e w5 ⟨rfl, hb5⟩; have hS5 := S3.on hS0 hb5; have hq5 : wv.heap.size ≤ w5.heap.size := hb5.size; have HB5 := Lib.hid hb5)
          | (go_at_call 13; refine (HCL.out _).mono ?_; rintro e w5 ⟨rfl, hb5⟩; have hS5 := S3.on (S3.alloc hS0 _) hb5; have HN5 := Lib.hid ((show TwoI (wv.drew.alloc (.cells #[.int .i64 0, .int .i64 0] 24)) wv.heap.size 0 0 from TwoI.new wv.drew _ 0 0).on hb5); have u0 := HN5.out.c0; have u1 := (HN5.out.set0 V').c1; have f0 := HN5.out.f 0; have f1 := (HN5.out.set0 V').f 1; have HB5 := Lib.hid hb5)))
        · obtain ⟨h1, h2, h3, h4⟩ := wayA (V' := V') (M' := M') (t := 24) hpB HTv.out HBv.out HBv.out.size HB5.out
          go_wp2
          go_meet
          exact ⟨_, rfl, rfl, rfl, h2, h3, h4⟩
        · obtain ⟨h2, h3, h4⟩ := wayB (V' := V') (M' := M') hpB HTv.out HBv.out HBv.out.size HB5.out
          go_wp2
          go_meet
          exact ⟨_, rfl, rfl, rfl, h2, h3, h4⟩
      case rest =>
        obtain ⟨s, rfl, rfl, rfl, hTq, hTp, hbc⟩ := hcut
        have HTQ := Lib.hid hTq
        have HTP := Lib.hid hTp
        have HBC := Lib.hid hbc
        have q0 := hTq.c0
        have q1 := hTq.c1
        clear hTq hTp hbc hS0 HTv HBv hgB hpB
        by_cases h0 : E = 0
        · subst h0
          have hso := (HSO.out rfl).2.1
          obtain ⟨K, hK⟩ : ∃ K : Nat, K = k + 1 := ⟨_, rfl⟩
          obtain rfl : M' = (K : Nat) := by rw [hso, hK]; rfl
          have wk : IntKind.i64.wrap ((k : Int) + 1) = (K : Int) := by rw [IntWalk.i64_in _ (by omega)]; omega
          cases D
          · have HOK' := Lib.hid (HSV.out rfl rfl)
            have hRv : takeF V' (K : Nat) (l.drop K) = (v, r, q) := by
              rw [← HRR.out, HTA.out, hK]
              simp
            have u0 := HTP.out.c0
            have u1 := (HTP.out.set0 V').c1
            have f0 := HTP.out.f 0
            have f1 := (HTP.out.set0 V').f 1
            have HF := Lib.hid (show ∃ (k2 : Nat) (V2 : Int), k2 ≤ n ∧ Value.int .i64 (K : Nat) = .int .i64 k2 ∧ okV V2 (k2 : Nat) ∧ TwoI ((wc.setCell ⟨p, 0, none⟩ (.int .i64 V')).setCell ⟨p, 1, none⟩ (.int .i64 (K : Nat))) p V2 (k2 : Nat) ∧ takeF V2 (k2 : Nat) (l.drop k2) = (v, r, q) ∧ Below w.heap.size w ((wc.setCell ⟨p, 0, none⟩ (.int .i64 V')).setCell ⟨p, 1, none⟩ (.int .i64 (K : Nat))) from
              ⟨K, V', by omega, rfl, HOK'.out, HTP.out.set V' (K : Nat), hRv, (HBC.out.setCell (p := ⟨p, 0, none⟩) hwp _).setCell (p := ⟨p, 1, none⟩) hwp _⟩)
            clear hRv HSV HSO HSE HTA HRR hso
            go_wp2_with fail
            have hF := HF.out
            rw [show ((K : Nat) : Int) = (k : Int) + 1 by omega] at hF
            exact ⟨hF, by simp [intOf]; omega⟩
          · have hRv : (v, r, q) = (V', l.drop (k + 1), 0) := by rw [← HRR.out, HTA.out]; simp
            simp only [Prod.mk.injEq] at hRv
            obtain ⟨rfl, hr, rfl⟩ := hRv
            have hm : m = n - K := by rw [← HM.out, hr, List.length_drop, HL.out, hK]
            have w1' : IntKind.i64.wrap ((n : Int) - (k : Int)) = (n : Int) - (k : Int) := IntWalk.i64_in _ (by omega)
            have w2' : IntKind.i64.wrap ((n : Int) - (k : Int) - 1) = (m : Int) := by rw [IntWalk.i64_in _ (by omega)]; omega
            clear HSV HSO HSE HTA HRR hso hr hm hK
            go_wp2_with fail
            refine (wakes_call _).mono ?_
            rintro e w7 ⟨rfl, hb⟩
            go_wp2
            go_ret
            exact ⟨rfl, HBC.out.trans (hb.mono HBC.out.size)⟩
        · have d0 : (E != 0) = true := by simp [h0]
          have hRv : (v, r, q) = (0, [], E) := by rw [← HRR.out, HTA.out, if_neg h0]
          simp only [Prod.mk.injEq] at hRv
          obtain ⟨rfl, rfl, rfl⟩ := hRv
          obtain ⟨rfl, rfl, rfl, h5⟩ := HSE.out h0
          clear HSV HSO HSE HTA HRR h5 h0
          go_wp2_with fail
          refine (wakes_call _).mono ?_
          rintro e w7 ⟨rfl, hb⟩
          go_wp2
          go_ret
          exact ⟨rfl, HBC.out.trans (hb.mono HBC.out.size)⟩
    · obtain rfl : k = n := by omega
      have hRv : (v, r, q) = (0, [], 50) := by
        rw [← HRR.out, List.drop_eq_nil_of_le (by rw [HL.out]; omega)]
        rfl
      simp only [Prod.mk.injEq] at hRv
      obtain ⟨rfl, rfl, rfl⟩ := hRv
      go_wp2_with fail
      refine (wakes_call _).mono ?_
      rintro e w7 ⟨rfl, hb⟩
      go_wp2
      go_ret
      exact ⟨rfl, HB.out.trans (hb.mono HB.out.size)⟩

theorem steps_call (a0 : Option Addr) (len0 cap0 : Nat) (z0 : List Int) (w : World) (h0 : IsRow .u8 w a0 len0 cap0 z0) :
    Calls Try.prog 6 #[.slice a0 len0 cap0] w fun e w' => e = .returned (.bool true) ∧ Below w.heap.size w w' := by
  have hcm := h0.capMax
  obtain ⟨hl, hs, hwf, h63, hlc⟩ := h0.src
  by_cases h : 20 < len0
  · exact steps_out a0 len0 cap0 w h h63
  · exact steps_in a0 len0 cap0 w (z0.take len0) hl hs (Byts.of_wf hwf) (by omega) hlc hcm
end Go.Proofs.Ytalkmbakglklbaa
