/- Package sort: pdqsort_func. -/
import Derived.Test.YtdbpdnfniidfhaaSoA
import Derived.Test.YtdbpdnfniidfhaaSoB
import Derived.Test.YtdbpdnfniidfhaaSoC
import Derived.Test.YtdbpdnfniidfhaaSoD
import Derived.Test.YtdbpdnfniidfhaaSoE
import Derived.Sort.Walk13a
set_option linter.unusedVariables false
set_option linter.unusedSimpArgs false
namespace Go.Proofs.Ytdbpdnfniidfhaa
open Go.RowKit Go.Sort
section
variable {α : Type} [Inhabited α] {lt : α → α → Bool} {g : Nat} {lb : Array Value} {sf : Nat} {sb : Array Value} {blk n : Nat} {I : Array α → World → Prop}

theorem m_pe_range (a b : Nat) : ∀ (m i j : Nat) (d : Array α), j + 1 - i ≤ m → a < i → i ≤ j + 1 → j < b → a < (partEqLoop lt a i j d).1 ∧ (partEqLoop lt a i j d).1 ≤ b := by
  intro m
  induction m with
  | zero =>
    intro i j d hm hai hij hjb
    have h1 := m_up_le (fun z => !lt d[a]! z) d j i
    have h2 := m_dn_le (fun z => lt d[a]! z) d (scanUp (fun z => !lt d[a]! z) d j i) j
    rw [m_pe_end lt a i j d rfl rfl (by omega)]
    show a < scanUp _ d j i ∧ _ ≤ b
    omega
  | succ m ih =>
    intro i j d hm hai hij hjb
    have h1 := m_up_le (fun z => !lt d[a]! z) d j i
    have h2 := m_dn_le (fun z => lt d[a]! z) d (scanUp (fun z => !lt d[a]! z) d j i) j
    have h3 := m_cross' (fun z => lt d[a]! z) d i j _ _ (by omega) rfl rfl
    by_cases h : scanDown (fun z => lt d[a]! z) d (scanUp (fun z => !lt d[a]! z) d j i) j < scanUp (fun z => !lt d[a]! z) d j i
    · rw [m_pe_end lt a i j d rfl rfl h]
      show a < scanUp _ d j i ∧ _ ≤ b
      omega
    · have h4 := h3 (by omega)
      rw [m_pe_go lt a i j d rfl rfl h h1.1 h2.1]
      exact ih _ _ _ (by omega) (by omega) (by omega) (by omega)
theorem pe_range (d : Array α) (a b p : Nat) (hab : a < b) : a < (Sort.partitionEqual lt d a b p).1 ∧ (Sort.partitionEqual lt d a b p).1 ≤ b := m_pe_range a b _ (a + 1) (b - 1) _ (Nat.le_refl _) (by omega) (by omega) (by omega)
theorem hint_inc (h : Hint) : hintI h = 1 ↔ h = .increasing := by cases h <;> simp [hintI]
theorem hint_dec (h : Hint) : hintI h = 2 ↔ h = .decreasing := by cases h <;> simp [hintI]
theorem hintI_bd (h : Hint) : 0 ≤ hintI h ∧ hintI h ≤ 2 := by cases h <;> simp [hintI]

theorem bal_left (l a b mid q8 : Nat) (hl : l = b - a) (hq : q8 = l / 8) (h : a ≤ mid) : decide ((q8 : Int) ≤ (mid : Int) - (a : Int)) = decide (mid - a ≥ (b - a) / 8) := decide_eq_decide.2 (by omega)
theorem bal_right (l a b mid q8 : Nat) (hl : l = b - a) (hq : q8 = l / 8) (h : mid ≤ b) : decide ((q8 : Int) ≤ (b : Int) - (mid : Int)) = decide (b - mid ≥ (b - a) / 8) := decide_eq_decide.2 (by omega)
/-- What pdqsort_func does. -/
def PdqC (lt : α → α → Bool) (g : Nat) (lb : Array Value) (sf : Nat) (sb : Array Value) (blk n : Nat) (I : Array α → World → Prop) (a b lim : Nat) : Prop := ∀ (d : Array α) (w : World), I d w →
  Calls Try.prog 24 #[.agg #[.func (.func g) #[] lb, .func (.func sf) #[] sb], .int .i64 a, .int .i64 b, .int .i64 lim] w fun e w' => e = .returned (.tuple #[]) ∧ On blk w w' ∧ I (pdq lt d a b lim true true) w'

set_option maxRecDepth 100000 in
set_option maxHeartbeats 4000000 in
theorem pdq_round {B : Nat} (EB : EnvB lt g lb sf sb blk n I B) (hO : SWO lt) (a0 b0 lim0 : Nat) (hab0 : a0 ≤ b0) (hb0 : b0 ≤ n) (hlim : lim0 < 4611686018427387904)
    (ih : ∀ a b lim, b - a < b0 - a0 → a ≤ b → b ≤ n → lim < 4611686018427387904 → PdqC lt g lb sf sb blk n I a b lim) : PdqC lt g lb sf sb blk n I a0 b0 lim0 := by
  intro d w hI
  have E := EB.env
  have hn := E.small
  have eg := E.eg
  have hS := Lib.hid (St.start E hI (.func (.func g) #[] lb) (.func (.func sf) #[] sb) 64)
  obtain ⟨R, hR⟩ : ∃ R, R = pdq lt d a0 b0 lim0 true true := ⟨_, rfl⟩
  rw [← hR]
  have HR := Lib.hid hR
  have IH := Lib.hid ih
  clear hR ih
  go_enter Try.func24, Try.ntmps24
  go_wp2_with fail
  go_loopw [1, 2, 3, 8, 9] (fun v1 v2 v3 v8 v9 wr => ∃ (a b lim : Nat) (wb wp : Bool) (dk : Array α), v1 = .int .i64 a ∧ v2 = .int .i64 b ∧ v3 = .int .i64 lim ∧ v8 = .bool wb ∧ v9 = .bool wp ∧ a ≤ b ∧ b ≤ n ∧ lim ≤ lim0 ∧ b - a ≤ b0 - a0 ∧
      St I blk (.func (.func g) #[] lb) (.func (.func sf) #[] sb) w dk wr ∧ pdq lt dk a b lim wb wp = R) (fun v1 v2 _ _ _ _ => (intOf v2).toNat - (intOf v1).toNat)
  case atStart => exact ⟨a0, b0, lim0, true, true, d, rfl, rfl, rfl, rfl, rfl, hab0, hb0, Nat.le_refl _, Nat.le_refl _, hS.out, HR.out.symm⟩
  case round =>
    obtain ⟨a, b, lim, wb, wp, dk, rfl, rfl, rfl, rfl, rfl, hab, hb, hll, hsm0, hst, hP⟩ := hrel
    have HP := Lib.hid hP
    have HS := Lib.hid hst
    have c0 := hst.c0
    have c1 := hst.c1
    clear hP hst hS
    obtain ⟨l, hl⟩ : ∃ l, l = b - a := ⟨_, rfl⟩
    have hwl : IntKind.i64.wrap ((b : Int) - (a : Int)) = (b : Int) - (a : Int) := by rw [IntKind.wrap_i64]; omega
    go_upto_region 3 with fail
    go_cut [10] (fun s wx => s = .int .i64 l ∧ wx = wr)
    case first =>
      go_wp2
      go_meet
      exact ⟨by congr 1; omega, rfl⟩
    case rest =>
      obtain ⟨rfl, hwc⟩ := hcut
      obtain rfl : wr = wc := hwc.symm
      have HL := Lib.hid hl
      by_cases h12 : l ≤ 12
      · have hin := insertionSort_call E a b dk wr HS.out.inv hab hb
        have HE := Lib.hid (pdq_small (lt := lt) (d := dk) (limit := lim) (wb := wb) (wp := wp) (show b - a ≤ 12 by omega))
        clear hl
        go_wp2_with (refine hin.mono ?_; rintro e w2 ⟨rfl, hon, hI2⟩)
        go_ret0
        exact ⟨rfl, HS.out.on.trans hon, by rw [← HP.out, HE.out]; exact hI2⟩
      · have hab13 : 12 < b - a := by omega
        by_cases hlim0 : lim = 0
        · subst hlim0
          have hin := heapSort_call E a b dk wr HS.out.inv (by omega) hb (by omega)
          have HE := Lib.hid (pdq_heap (lt := lt) (d := dk) (limit := 0) (wb := wb) (wp := wp) (show ¬ b - a ≤ 12 by omega) rfl)
          clear hl
          go_wp2_with (refine hin.mono ?_; rintro e w2 ⟨rfl, hon, hI2⟩)
          go_ret0
          exact ⟨rfl, HS.out.on.trans hon, by rw [← HP.out, HE.out]; exact hI2⟩
        · clear hl
          obtain ⟨r, hr⟩ : ∃ r, r = rd lt dk a b lim wb wp := ⟨_, rfl⟩
          have Hr := Lib.hid hr
          clear hr
          go_upto_if 35 with fail
          go_cut [3] (fun s wx => s = .int .i64 r.lim ∧ St I blk (.func (.func g) #[] lb) (.func (.func sf) #[] sb) w r.d1 wx)
          case first =>
            cases wb with
            | false =>
              have h1 := Lib.hid (show r.d1 = breakPatterns dk a b from by rw [Hr.out]; rfl)
              have h2 := Lib.hid (show r.lim = lim - 1 from by rw [Hr.out]; rfl)
              have hbp := breakPatterns_call EB a b dk wr HS.out.inv hab13 hb
              have hwL : IntKind.i64.wrap ((lim : Int) - 1) = (lim : Int) - 1 := by rw [IntKind.wrap_i64]; omega
              go_wp2_with (refine hbp.mono ?_; rintro e w2 ⟨rfl, hon, hI2⟩)
              go_meet
              exact ⟨by rw [h2.out]; congr 1; omega, by rw [h1.out]; exact HS.out.sw hon hI2⟩
            | true =>
              have h1 := Lib.hid (show r.d1 = dk from by rw [Hr.out]; rfl)
              have h2 := Lib.hid (show r.lim = lim from by rw [Hr.out]; rfl)
              go_wp2_with fail
              go_meet
              exact ⟨by rw [h2.out], by rw [h1.out]; exact HS.out⟩
          case rest =>
            obtain ⟨rfl, hst⟩ := hcut
            have HS1 := Lib.hid hst
            have c0 := hst.c0
            have c1 := hst.c1
            have hlm : r.lim ≤ lim0 := by
              have e : r.lim ≤ lim := by rw [Hr.out]; exact rd_lim_le
              omega
            have hcp := choosePivot_call E a b r.d1 wc hst.inv hab13 hb
            have hcr := choosePivot_holds lt r.d1 a b (by omega)
            have HC := Lib.hid (show r.c = choosePivot lt r.d1 a b from by rw [Hr.out]; rfl)
            rw [← HC.out] at hcp hcr
            have hhb := hintI_bd r.c.2
            clear hst HS
            go_wp2_with fail
            refine hcp.mono ?_
            rintro e w2 ⟨rfl, hsm⟩
            have HS2 := Lib.hid (HS1.out.sm E hsm)
            have q0 := HS2.out.c0
            have q1 := HS2.out.c1
            clear hcp hsm HS1 c0 c1
            have hpv : a ≤ r.pivot ∧ r.pivot < b := by
              by_cases hd : r.c.2 = .decreasing
              · have e := (rd_dec (lt := lt) (d := dk) (a := a) (b := b) (limit := lim) (wb := wb) (wp := wp) (by rw [← Hr.out]; exact hd)).2.1
                rw [← Hr.out] at e
                omega
              · have e := (rd_not (lt := lt) (d := dk) (a := a) (b := b) (limit := lim) (wb := wb) (wp := wp) (by rw [← Hr.out]; exact hd)).2.1
                rw [← Hr.out] at e
                omega
            have hcn : r.c.1 ≤ n := by omega
            go_upto_if 50 with fail
            go_cut [11, 12] (fun s t wx => s = .int .i64 r.pivot ∧ t = .int .i64 (hintI r.hint) ∧ St I blk (.func (.func g) #[] lb) (.func (.func sf) #[] sb) w r.d2 wx)
            case first =>
              by_cases hd : r.c.2 = .decreasing
              · have e := rd_dec (lt := lt) (d := dk) (a := a) (b := b) (limit := lim) (wb := wb) (wp := wp) (by rw [← Hr.out]; exact hd)
                rw [← Hr.out] at e
                have HE := Lib.hid e
                have hrv := reverseRange_call E a b r.d1 w2 HS2.out.inv (by omega) hb
                have hwb1 : IntKind.i64.wrap ((b : Int) - 1) = (b : Int) - 1 := by rw [IntKind.wrap_i64]; omega
                have hwca : IntKind.i64.wrap ((r.c.1 : Int) - (a : Int)) = (r.c.1 : Int) - (a : Int) := by rw [IntKind.wrap_i64]; omega
                have hwz : IntKind.i64.wrap ((b : Int) - 1 - ((r.c.1 : Int) - (a : Int))) = (b : Int) - 1 - ((r.c.1 : Int) - (a : Int)) := by rw [IntKind.wrap_i64]; omega
                have hH : hintI r.c.2 = 2 := (hint_dec _).2 hd
                clear e
                go_wp2_with (refine hrv.mono ?_; rintro e w3 ⟨rfl, hon, hI3⟩)
                go_meet
                exact ⟨by rw [HE.out.2.1]; congr 1; omega, by rw [HE.out.2.2]; rfl, by rw [HE.out.1]; exact HS2.out.sw hon hI3⟩
              · have e := rd_not (lt := lt) (d := dk) (a := a) (b := b) (limit := lim) (wb := wb) (wp := wp) (by rw [← Hr.out]; exact hd)
                rw [← Hr.out] at e
                have HE := Lib.hid e
                have hH : (hintI r.c.2 == 2) = false := by
                  rw [beq_eq_false_iff_ne]
                  exact fun h => hd ((hint_dec _).1 h)
                clear e
                go_wp2_with fail
                go_meet
                exact ⟨by rw [HE.out.2.1], by rw [HE.out.2.2], by rw [HE.out.1]; exact HS2.out⟩
            case rest =>
              obtain ⟨rfl, rfl, hst⟩ := hcut
              have HS3 := Lib.hid hst
              have c0 := hst.c0
              have c1 := hst.c1
              clear hst HS2 q0 q1 hhb
              obtain ⟨C1, hC1⟩ : ∃ C1, C1 = (wb && wp && decide (r.hint = .increasing)) := ⟨_, rfl⟩
              have HC1 := Lib.hid hC1
              clear hC1
              go_upto_region 16 with fail
              go_cut [68] (fun s wx => s = .bool C1 ∧ wx = wc)
              case first =>
                have hH : (hintI r.hint == 1) = decide (r.hint = .increasing) := by
                  rw [Bool.eq_iff_iff, beq_iff_eq, hint_inc, decide_eq_true_eq]
                cases wb with
                | false =>
                  have e := HC1.out
                  simp only [Bool.false_and] at e
                  subst e
                  go_wp2
                  go_meet
                  exact ⟨rfl, rfl⟩
                | true =>
                  cases wp with
                  | false =>
                    have e := HC1.out
                    simp only [Bool.and_false, Bool.false_and] at e
                    subst e
                    go_wp2
                    go_meet
                    exact ⟨rfl, rfl⟩
                  | true =>
                    have e := HC1.out
                    simp only [Bool.and_self, Bool.true_and] at e
                    rw [← e] at hH
                    clear e
                    go_wp2
                    go_meet
                    exact ⟨rfl, rfl⟩
              case rest =>
                obtain ⟨rfl, hw⟩ := hcut
                subst hw
                go_upto_if 68 with fail
                go_cut [] (fun wx => St I blk (.func (.func g) #[] lb) (.func (.func sf) #[] sb) w r.pi.1 wx ∧ r.pi.2 = false)
                case first =>
                  cases C1 with
                  | true =>
                    have e := rd_pi_yes (lt := lt) (d := dk) (a := a) (b := b) (limit := lim) (wb := wb) (wp := wp) (by rw [← Hr.out]; exact HC1.out.symm)
                    rw [← Hr.out] at e
                    have hpi := partialIns_call E a b r.d2 wc HS3.out.inv (by omega) hb (by omega)
                    rw [← e] at hpi
                    clear e
                    cases hp2 : r.pi.2 with
                    | true =>
                      rw [hp2] at hpi
                      have HE := Lib.hid (pdq_done (lt := lt) (d := dk) (limit := lim) (wb := wb) (wp := wp) (show ¬ b - a ≤ 12 by omega) hlim0 (by rw [← Hr.out]; exact hp2))
                      rw [← Hr.out] at HE
                      go_wp2_with (refine hpi.mono ?_; rintro e w3 ⟨rfl, hon, hI3⟩)
                      go_ret0
                      exact ⟨rfl, HS3.out.on.trans hon, by rw [← HP.out, HE.out]; exact hI3⟩
                    | false =>
                      rw [hp2] at hpi
                      go_wp2_with (refine hpi.mono ?_; rintro e w3 ⟨rfl, hon, hI3⟩)
                      go_meet
                      exact ⟨HS3.out.sw hon hI3, hp2⟩
                  | false =>
                    have e := rd_pi_no (lt := lt) (d := dk) (a := a) (b := b) (limit := lim) (wb := wb) (wp := wp) (by rw [← Hr.out]; exact HC1.out.symm)
                    rw [← Hr.out] at e
                    have HE := Lib.hid e
                    clear e
                    go_wp2_with fail
                    go_meet
                    exact ⟨by rw [HE.out]; exact HS3.out, by rw [HE.out]⟩
                case rest =>
                  obtain ⟨hst, hpi⟩ := hcut
                  have HS4 := Lib.hid hst
                  have c0 := hst.c0
                  have c1 := hst.c1
                  clear hst HS3
                  obtain ⟨C2, hC2⟩ : ∃ C2, C2 = (decide (a > 0) && !lt r.pi.1[a - 1]! r.pi.1[r.pivot]!) := ⟨_, rfl⟩
                  have HC2 := Lib.hid hC2
                  clear hC2
                  go_upto_region 18 with fail
                  go_cut [83] (fun s wx => s = .bool C2 ∧ St I blk (.func (.func g) #[] lb) (.func (.func sf) #[] sb) w r.pi.1 wx)
                  case first =>
                    by_cases ha : 0 < a
                    · have hl := E.less r.pi.1 wc (a - 1) r.pivot HS4.out.inv (by omega) (by omega)
                      rw [show (((a - 1 : Nat) : Int)) = (a : Int) - 1 by omega] at hl
                      cases hlv : lt r.pi.1[a - 1]! r.pi.1[r.pivot]! with
                      | true =>
                        rw [hlv] at hl
                        have e : C2 = false := by rw [HC2.out, hlv]; simp
                        go_wp2_with (refine hl.mono ?_; rintro e' w3 ⟨rfl, hsm⟩)
                        go_meet
                        exact ⟨by rw [e], HS4.out.sm E hsm⟩
                      | false =>
                        rw [hlv] at hl
                        have e : C2 = true := by rw [HC2.out, hlv]; simp [ha]
                        go_wp2_with (refine hl.mono ?_; rintro e' w3 ⟨rfl, hsm⟩)
                        go_meet
                        exact ⟨by rw [e], HS4.out.sm E hsm⟩
                    · have e : C2 = false := by rw [HC2.out]; simp [ha]
                      go_wp2_with fail
                      go_meet
                      exact ⟨by rw [e], HS4.out⟩
                  case rest =>
                    obtain ⟨rfl, hst⟩ := hcut
                    have HS5 := Lib.hid hst
                    have c0 := hst.c0
                    have c1 := hst.c1
                    have hsz : r.pi.1.size = n := (E.here _ _ hst.inv).2
                    clear hst HS4
                    cases C2 with
                    | true =>
                      have hmr := pe_range (lt := lt) r.pi.1 a b r.pivot (by omega)
                      have hpe := partitionEqual_call E a b r.pivot r.pi.1 wc HS5.out.inv hpv.1 hpv.2 hb (by omega)
                      have HE := Lib.hid (pdq_eq (lt := lt) (d := dk) (limit := lim) (wb := wb) (wp := wp) (show ¬ b - a ≤ 12 by omega) hlim0 (by rw [← Hr.out]; exact hpi) (by rw [← Hr.out]; exact HC2.out.symm) (by rw [← Hr.out]; exact hmr))
                      rw [← Hr.out] at HE
                      generalize Sort.partitionEqual lt r.pi.1 a b r.pivot = PE at hmr hpe HE
                      obtain ⟨mid, d4⟩ := PE
                      simp only at hmr hpe HE
                      go_wp2_with (refine hpe.mono ?_; rintro e w6 ⟨rfl, hon, hI6⟩)
                      exact ⟨⟨mid, b, r.lim, wb, wp, d4, rfl, rfl, rfl, rfl, rfl, hmr.2, hb, hlm, by omega, HS5.out.sw hon hI6, by rw [← HP.out, HE.out]⟩, by simp [intOf]; omega⟩
                    | false =>
                      have hph := partition_holds lt hO r.pi.1 a b r.pivot hpv.1 hpv.2 (by omega)
                      have hmr : a ≤ (Sort.partition lt r.pi.1 a b r.pivot).1 ∧ (Sort.partition lt r.pi.1 a b r.pivot).1 < b := ⟨hph.1, hph.2.1⟩
                      have hpa := partition_call E a b r.pivot r.pi.1 wc HS5.out.inv hpv.1 hpv.2 hb (by omega)
                      obtain ⟨mid, hM⟩ : ∃ x, x = (Sort.partition lt r.pi.1 a b r.pivot).1 := ⟨_, rfl⟩
                      obtain ⟨AP, hAP⟩ : ∃ x, x = (Sort.partition lt r.pi.1 a b r.pivot).2.1 := ⟨_, rfl⟩
                      obtain ⟨d4, hD4⟩ : ∃ x, x = (Sort.partition lt r.pi.1 a b r.pivot).2.2 := ⟨_, rfl⟩
                      rw [← hM, ← hAP, ← hD4] at hpa
                      rw [← hM] at hmr
                      have HM := Lib.hid hM
                      have HAP := Lib.hid hAP
                      have HD4 := Lib.hid hD4
                      clear hM hAP hD4 hph
                      have hC2 := HC2.out.symm
                      obtain ⟨q8, hq8⟩ : ∃ q8, q8 = l / 8 := ⟨_, rfl⟩
                      have HQ8 := Lib.hid hq8
                      have hl8 : (l : Int) / 8 = (q8 : Int) := by omega
                      have hqn : q8 ≤ n := by have := HL.out; omega
                      have hwq : IntKind.i64.wrap (q8 : Int) = (q8 : Int) := by rw [IntKind.wrap_i64]; omega
                      have hwq2 : wrap64 (q8 : Int) = (q8 : Int) := by unfold wrap64; omega
                      have hw1 : IntKind.i64.wrap ((mid : Int) - (a : Int)) = (mid : Int) - (a : Int) := by rw [IntKind.wrap_i64]; omega
                      have hw2 : IntKind.i64.wrap ((b : Int) - (mid : Int)) = (b : Int) - (mid : Int) := by rw [IntKind.wrap_i64]; omega
                      have HC22 := Lib.hid hC2
                      clear hC2 hq8
                      go_wp2_with fail
                      refine hpa.mono ?_
                      rintro e w6 ⟨rfl, hon, hI6⟩
                      have HS6 := Lib.hid (HS5.out.sw hon hI6)
                      clear hpa hon hI6 c0 c1
                      have hC2 := HC22.out
                      by_cases hlr : mid - a < b - mid
                      · have hdl : decide ((mid : Int) - (a : Int) < (b : Int) - (mid : Int)) = true := decide_eq_true (by omega)
                        have HE := Lib.hid (pdq_left (lt := lt) (d := dk) (limit := lim) (wb := wb) (wp := wp) (show ¬ b - a ≤ 12 by omega) hlim0 (by rw [← Hr.out]; exact hpi) (by rw [← Hr.out]; exact hC2) (by rw [← Hr.out, ← HM.out]; exact hmr) (by rw [← Hr.out, ← HM.out]; exact hlr))
                        rw [← Hr.out, ← HM.out, ← HD4.out, ← HAP.out] at HE
                        obtain ⟨WB, hWB⟩ : ∃ WB, WB = decide (mid - a ≥ (b - a) / 8) := ⟨_, rfl⟩
                        rw [← hWB] at HE
                        have hdec : decide ((q8 : Int) ≤ (mid : Int) - (a : Int)) = WB := hWB ▸ bal_left l a b mid q8 HL.out HQ8.out hmr.1
                        have hrec := IH.out a mid r.lim (by omega) (by omega) (by omega) (by omega) d4 w6 HS6.out.inv
                        have c0 := HS6.out.c0
                        have c1 := HS6.out.c1
                        clear hWB
                        go_wp2_with fail
                        refine hrec.mono ?_
                        rintro e w7 ⟨rfl, hon, hI7⟩
                        have HS8 := Lib.hid (HS6.out.sw hon hI7)
                        clear hrec hon hI7
                        go_wp2_with fail
                        exact ⟨⟨mid + 1, b, r.lim, WB, AP, _, by go_num, rfl, rfl, rfl, rfl, by omega, hb, hlm, by omega, HS8.out, by rw [← HP.out, HE.out]⟩, by simp [intOf]; omega⟩
                      · have hdl : decide ((mid : Int) - (a : Int) < (b : Int) - (mid : Int)) = false := decide_eq_false (by omega)
                        have HE := Lib.hid (pdq_right (lt := lt) (d := dk) (limit := lim) (wb := wb) (wp := wp) (show ¬ b - a ≤ 12 by omega) hlim0 (by rw [← Hr.out]; exact hpi) (by rw [← Hr.out]; exact hC2) (by rw [← Hr.out, ← HM.out]; exact hmr) (by rw [← Hr.out, ← HM.out]; exact hlr))
                        rw [← Hr.out, ← HM.out, ← HD4.out, ← HAP.out] at HE
                        obtain ⟨WB, hWB⟩ : ∃ WB, WB = decide (b - mid ≥ (b - a) / 8) := ⟨_, rfl⟩
                        rw [← hWB] at HE
                        have hdec : decide ((q8 : Int) ≤ (b : Int) - (mid : Int)) = WB := hWB ▸ bal_right l a b mid q8 HL.out HQ8.out (Nat.le_of_lt hmr.2)
                        have hrec := IH.out (mid + 1) b r.lim (by omega) (by omega) hb (by omega) d4 w6 HS6.out.inv
                        rw [show ((mid + 1 : Nat) : Int) = (mid : Int) + 1 by omega] at hrec
                        have c0 := HS6.out.c0
                        have c1 := HS6.out.c1
                        clear hWB
                        go_wp2_with fail
                        refine hrec.mono ?_
                        rintro e w7 ⟨rfl, hon, hI7⟩
                        have HS8 := Lib.hid (HS6.out.sw hon hI7)
                        clear hrec hon hI7
                        go_wp2_with fail
                        exact ⟨⟨a, mid, r.lim, WB, AP, _, rfl, rfl, rfl, rfl, rfl, by omega, by omega, hlm, by omega, HS8.out, by rw [← HP.out, HE.out]⟩, by simp [intOf]; omega⟩
end
end Go.Proofs.Ytdbpdnfniidfhaa
