/- Package sort: partialInsertionSort. -/
import Derived.Test.YtdbpdnfniidfhaaSo
set_option linter.unusedVariables false
set_option linter.unusedSimpArgs false
namespace Go.Proofs.Ytdbpdnfniidfhaa
open Go.RowKit Go.Sort
section
variable {α : Type} [Inhabited α] {lt : α → α → Bool} {g : Nat} {lb : Array Value} {sf : Nat} {sb : Array Value} {blk n : Nat} {I : Array α → World → Prop}

theorem m_pi (a b s i x : Nat) (d : Array α) (hx : scanSorted lt d b i = x) : partialIns lt a b (s + 1) i d =
    if x = b then (d, true) else if b - a < 50 then (d, false) else
      partialIns lt a b s x (if 2 ≤ b - x then shiftUp lt b (x + 1) (if 2 ≤ x - a then shiftDown lt (x - 1) (swp d x (x - 1)) else swp d x (x - 1)) else (if 2 ≤ x - a then shiftDown lt (x - 1) (swp d x (x - 1)) else swp d x (x - 1))) := by
  rw [partialIns]
  simp only [hx, ge_iff_le]
theorem m_ss_le (d : Array α) (b i : Nat) (hi : i ≤ b) : i ≤ scanSorted lt d b i ∧ scanSorted lt d b i ≤ b := by
  generalize hm : b - i = m
  induction m generalizing i with
  | zero => rw [m_ss_no lt d b i (.inl (by omega))]; omega
  | succ m ih =>
    cases hl : lt d[i]! d[i - 1]! with
    | true => rw [m_ss_no lt d b i (.inr hl)]; omega
    | false => rw [m_ss_go lt d b i (by omega) hl]; have := ih (i + 1) (by omega) (by omega); omega

set_option maxRecDepth 100000 in
set_option maxHeartbeats 4000000 in
theorem partialIns_call (E : Env lt g lb sf sb blk n I) (a b : Nat) (d : Array α) (w : World) (hI : I d w) (hab : a < b) (hb : b ≤ n) (h2 : 2 ≤ n) :
    Calls Try.prog 42 #[.agg #[.func (.func g) #[] lb, .func (.func sf) #[] sb], .int .i64 a, .int .i64 b] w fun e w' => e = .returned (.bool (Sort.partialInsertionSort lt d a b).2) ∧ On blk w w' ∧ I (Sort.partialInsertionSort lt d a b).1 w' := by
  have hS := Lib.hid (St.start E hI (.func (.func g) #[] lb) (.func (.func sf) #[] sb) 64)
  have hn := E.small
  have eg := E.eg
  have HG : RowKit.Hid (Sort.partialInsertionSort lt d a b = partialIns lt a b (5 - 0) (a + 1) d) := Lib.hid rfl
  generalize Sort.partialInsertionSort lt d a b = R at HG ⊢
  go_enter Try.func42, Try.ntmps42
  go_wp2_with fail
  go_loopw [7, 8] (fun vi vs wr => ∃ (i s : Nat) (dk : Array α), vi = .int .i64 i ∧ vs = .int .i64 s ∧ s ≤ 5 ∧ a < i ∧ i ≤ b ∧ St I blk (.func (.func g) #[] lb) (.func (.func sf) #[] sb) w dk wr ∧ partialIns lt a b (5 - s) i dk = R) (fun vi vs _ => 5 - (intOf vs).toNat)
  case atStart => exact ⟨a + 1, 0, d, by go_num, rfl, by omega, by omega, by omega, hS.out, HG.out.symm⟩
  case round =>
    obtain ⟨i, s, dk, rfl, rfl, hs5, hai, hib, hst, hO⟩ := hrel
    have HO := Lib.hid hO
    have HS1 := Lib.hid hst
    clear hO hst hS
    by_cases hs : s < 5
    · obtain ⟨t, ht⟩ : ∃ t, t = 5 - (s + 1) := ⟨_, rfl⟩
      have HT := Lib.hid (show 5 - s = t + 1 by omega)
      have HT2 := Lib.hid ht
      have hsd : decide ((s : Int) < 5) = true := decide_eq_true (by omega)
      clear ht
      go_upto_block 2 with fail
      go_cut [7] (fun v wx => ∃ x : Nat, v = .int .i64 x ∧ i ≤ x ∧ x ≤ b ∧ St I blk (.func (.func g) #[] lb) (.func (.func sf) #[] sb) w dk wx ∧ scanSorted lt dk b i = x)
      case first =>
        go_wp2_with fail
        go_loopw [7] (fun vi wq => ∃ x : Nat, vi = .int .i64 x ∧ i ≤ x ∧ x ≤ b ∧ St I blk (.func (.func g) #[] lb) (.func (.func sf) #[] sb) w dk wq ∧ scanSorted lt dk b x = scanSorted lt dk b i) (fun vi _ => b - (intOf vi).toNat)
        case atStart => exact ⟨i, rfl, Nat.le_refl _, hib, HS1.out, rfl⟩
        case round =>
          obtain ⟨x, rfl, hx1, hx2, hst, hX⟩ := hrel
          have HX := Lib.hid hX
          have HS2 := Lib.hid hst
          have c0 := hst.c0
          have hl := fun (hx : x < b) => E.less dk _ x (x - 1) hst.inv (by omega) (by omega)
          rw [show (((x - 1 : Nat) : Int)) = (x : Int) - 1 by omega] at hl
          clear hX hst
          by_cases hc : x < b
          · have hl := hl hc
            cases hlv : lt dk[x]! dk[x - 1]! with
            | false =>
              rw [hlv] at hl
              go_wp2_with (refine hl.mono ?_; rintro e w5 ⟨rfl, hsm⟩)
              exact ⟨⟨x + 1, by go_num, by omega, by omega, HS2.out.sm E hsm, by rw [← HX.out, m_ss_go lt dk b x hc hlv]⟩, by simp [intOf]; omega⟩
            | true =>
              rw [hlv] at hl
              go_wp2_with (refine hl.mono ?_; rintro e w5 ⟨rfl, hsm⟩)
              go_meet
              exact ⟨x, rfl, hx1, hx2, HS2.out.sm E hsm, by rw [← HX.out, m_ss_no lt dk b x (.inr hlv)]⟩
          · clear hl
            go_wp2_with fail
            go_meet
            exact ⟨x, rfl, hx1, hx2, HS2.out, by rw [← HX.out, m_ss_no lt dk b x (.inl hc)]⟩
      case rest =>
        obtain ⟨x, rfl, hix, hxb, hst, hX⟩ := hcut
        have HS2 := Lib.hid hst
        have HP := Lib.hid (m_pi (lt := lt) a b t i x dk hX)
        clear hst hX HS1
        by_cases hxe : x = b
        · subst hxe
          have HE := Lib.hid (by have e := HP.out; rw [if_pos rfl] at e; exact e)
          go_wp2_with fail
          go_ret
          exact ⟨by rw [← HO.out, HT.out, HE.out]; rfl, HS2.out.on, by rw [← HO.out, HT.out, HE.out]; exact HS2.out.inv⟩
        · have HE := Lib.hid (by have e := HP.out; rw [if_neg hxe] at e; exact e)
          have hwba : IntKind.i64.wrap ((b : Int) - (a : Int)) = (b : Int) - (a : Int) := by rw [IntKind.wrap_i64]; omega
          by_cases h50 : b - a < 50
          · have HF := Lib.hid (by have e := HE.out; rw [if_pos h50] at e; exact e)
            have hd : decide ((b : Int) - (a : Int) < 50) = true := decide_eq_true (by omega)
            go_wp2_with fail
            go_ret
            exact ⟨by rw [← HO.out, HT.out, HF.out]; rfl, HS2.out.on, by rw [← HO.out, HT.out, HF.out]; exact HS2.out.inv⟩
          · have HF := Lib.hid (by have e := HE.out; rw [if_neg h50] at e; exact e)
            have hd : decide ((b : Int) - (a : Int) < 50) = false := decide_eq_false (by omega)
            obtain ⟨w3, hsw, hon, hI3⟩ := E.swap dk _ x (x - 1) h2 HS2.out.inv (by omega) (by omega)
            rw [show (((x - 1 : Nat) : Int)) = (x : Int) - 1 by omega] at hsw
            have c1 := HS2.out.c1
            have HS3 := Lib.hid (HS2.out.sw hon hI3)
            generalize swp dk x (x - 1) = d1 at HS3 HF
            clear hon hI3 HS2
            have hxbe : ((x : Int) == (b : Int)) = false := by simp; omega
            go_upto_region 12 with fail
            clear hsw c1
            obtain ⟨d2, hd2⟩ : ∃ d2, d2 = (if 2 ≤ x - a then shiftDown lt (x - 1) d1 else d1) := ⟨_, rfl⟩
            rw [← hd2] at HF
            have HD2 := Lib.hid hd2
            clear hd2
            have hwxa : IntKind.i64.wrap ((x : Int) - (a : Int)) = (x : Int) - (a : Int) := by rw [IntKind.wrap_i64]; omega
            have hwbx : IntKind.i64.wrap ((b : Int) - (x : Int)) = (b : Int) - (x : Int) := by rw [IntKind.wrap_i64]; omega
            go_upto_if 47 with fail
            go_cut [] (fun wx => St I blk (.func (.func g) #[] lb) (.func (.func sf) #[] sb) w d2 wx)
            case first =>
              by_cases hxa : 2 ≤ x - a
              · have hE := Lib.hid (by have e := HD2.out; rw [if_pos hxa] at e; exact e)
                have hdd : decide ((2 : Int) ≤ (x : Int) - (a : Int)) = true := decide_eq_true (by omega)
                simp only [hdd, hxbe, hd]
                go_wp2_with fail
                go_loopw [9] (fun vi wq => ∃ (y : Nat) (dj : Array α), vi = .int .i64 y ∧ y < x ∧ St I blk (.func (.func g) #[] lb) (.func (.func sf) #[] sb) w dj wq ∧ shiftDown lt y dj = d2) (fun vi _ => (intOf vi).toNat)
                case atStart => exact ⟨x - 1, d1, by go_num, by omega, HS3.out, hE.out.symm⟩
                case round =>
                  obtain ⟨y, dj, rfl, hyx, hst, hY⟩ := hrel
                  have HY := Lib.hid hY
                  have HS4 := Lib.hid hst
                  have c0 := hst.c0
                  clear hY hst HS3
                  by_cases hy : 1 ≤ y
                  · have hl := E.less dj _ y (y - 1) HS4.out.inv (by omega) (by omega)
                    rw [show (((y - 1 : Nat) : Int)) = (y : Int) - 1 by omega] at hl
                    have hyd : decide ((1 : Int) ≤ (y : Int)) = true := decide_eq_true (by omega)
                    cases hlv : lt dj[y]! dj[y - 1]! with
                    | true =>
                      rw [hlv] at hl
                      go_wp2_with fail
                      refine hl.mono ?_
                      rintro e w5 ⟨rfl, hsm⟩
                      have HS5 := HS4.out.sm E hsm
                      obtain ⟨w6, hsw, hon, hI3⟩ := E.swap dj w5 y (y - 1) h2 HS5.inv (by omega) (by omega)
                      rw [show (((y - 1 : Nat) : Int)) = (y : Int) - 1 by omega] at hsw
                      have c1 := HS5.c1
                      have HS6 := Lib.hid (HS5.sw hon hI3)
                      clear HS5 hon hI3 hl hsm
                      go_wp2_with fail
                      exact ⟨⟨y - 1, _, by go_num, by omega, HS6.out, by rw [← HY.out, m_sd_go lt y dj (by omega) hlv]⟩, by simp [intOf]; omega⟩
                    | false =>
                      rw [hlv] at hl
                      go_wp2_with (refine hl.mono ?_; rintro e w5 ⟨rfl, hsm⟩)
                      go_meet
                      have e := HY.out
                      rw [m_sd_no lt y dj (.inr hlv)] at e
                      rw [← e]
                      exact HS4.out.sm E hsm
                  · have hyd : decide ((1 : Int) ≤ (y : Int)) = false := decide_eq_false (by omega)
                    go_wp2_with fail
                    go_meet
                    have e := HY.out
                    rw [m_sd_no lt y dj (.inl (by omega))] at e
                    rw [← e]
                    exact HS4.out
              · have hE := Lib.hid (by have e := HD2.out; rw [if_neg hxa] at e; exact e)
                have hdd : decide ((2 : Int) ≤ (x : Int) - (a : Int)) = false := decide_eq_false (by omega)
                go_wp2_with fail
                go_meet
                rw [hE.out]
                exact HS3.out
            case rest =>
              have HS7 := Lib.hid hcut
              clear hcut HS3 HD2
              obtain ⟨d3, hd3⟩ : ∃ d3, d3 = (if 2 ≤ b - x then shiftUp lt b (x + 1) d2 else d2) := ⟨_, rfl⟩
              rw [← hd3] at HF
              have HD3 := Lib.hid hd3
              clear hd3
              by_cases hbx : 2 ≤ b - x
              · have hE := Lib.hid (by have e := HD3.out; rw [if_pos hbx] at e; exact e)
                have hdd : decide ((2 : Int) ≤ (b : Int) - (x : Int)) = true := decide_eq_true (by omega)
                go_wp2_with fail
                go_loopw [10] (fun vi wq => ∃ (y : Nat) (dj : Array α), vi = .int .i64 y ∧ x < y ∧ y ≤ b ∧ St I blk (.func (.func g) #[] lb) (.func (.func sf) #[] sb) w dj wq ∧ shiftUp lt b y dj = d3) (fun vi _ => b - (intOf vi).toNat)
                case atStart => exact ⟨x + 1, d2, by go_num, by omega, by omega, HS7.out, hE.out.symm⟩
                case round =>
                  obtain ⟨y, dj, rfl, hxy, hyb, hst, hY⟩ := hrel
                  have HY := Lib.hid hY
                  have HS4 := Lib.hid hst
                  have c0 := hst.c0
                  clear hY hst HS7
                  by_cases hy : y < b
                  · have hl := E.less dj _ y (y - 1) HS4.out.inv (by omega) (by omega)
                    rw [show (((y - 1 : Nat) : Int)) = (y : Int) - 1 by omega] at hl
                    cases hlv : lt dj[y]! dj[y - 1]! with
                    | true =>
                      rw [hlv] at hl
                      go_wp2_with fail
                      refine hl.mono ?_
                      rintro e w5 ⟨rfl, hsm⟩
                      have HS5 := HS4.out.sm E hsm
                      obtain ⟨w6, hsw, hon, hI3⟩ := E.swap dj w5 y (y - 1) h2 HS5.inv (by omega) (by omega)
                      rw [show (((y - 1 : Nat) : Int)) = (y : Int) - 1 by omega] at hsw
                      have c1 := HS5.c1
                      have HS6 := Lib.hid (HS5.sw hon hI3)
                      clear HS5 hon hI3 hl hsm
                      go_wp2_with fail
                      exact ⟨⟨y + 1, _, by go_num, by omega, by omega, HS6.out, by rw [← HY.out, m_su_go lt b y dj hy hlv]⟩, by simp [intOf]; omega⟩
                    | false =>
                      rw [hlv] at hl
                      go_wp2_with (refine hl.mono ?_; rintro e w5 ⟨rfl, hsm⟩)
                      exact ⟨⟨x, s + 1, d3, rfl, by go_num, by omega, by omega, hxb, (by have e := HY.out; rw [m_su_no lt b y dj (.inr hlv)] at e; rw [← e]; exact HS4.out.sm E hsm), by rw [← HT2.out, ← HO.out, HT.out, HF.out]⟩, by simp [intOf]; omega⟩
                  · go_wp2_with fail
                    exact ⟨⟨x, s + 1, d3, rfl, by go_num, by omega, by omega, hxb, (by have e := HY.out; rw [m_su_no lt b y dj (.inl hy)] at e; rw [← e]; exact HS4.out), by rw [← HT2.out, ← HO.out, HT.out, HF.out]⟩, by simp [intOf]; omega⟩
              · have hE := Lib.hid (by have e := HD3.out; rw [if_neg hbx] at e; exact e)
                have hdd : decide ((2 : Int) ≤ (b : Int) - (x : Int)) = false := decide_eq_false (by omega)
                go_wp2_with fail
                exact ⟨⟨x, s + 1, d3, rfl, by go_num, by omega, by omega, hxb, (by rw [hE.out]; exact HS7.out), by rw [← HT2.out, ← HO.out, HT.out, HF.out]⟩, by simp [intOf]; omega⟩
    · obtain rfl : s = 5 := by omega
      go_wp2_with fail
      go_ret
      exact ⟨by rw [← HO.out]; rfl, HS1.out.on, by rw [← HO.out]; exact HS1.out.inv⟩
end
end Go.Proofs.Ytdbpdnfniidfhaa
