/- Package sort: reverseRange, siftDown, heapSort. -/
import Derived.Test.YtdbpdnfniidfhaaSo
set_option linter.unusedVariables false
set_option linter.unusedSimpArgs false
namespace Go.Proofs.Ytdbpdnfniidfhaa
open Go.RowKit Go.Sort
/-- A return of nothing, wherever. -/
macro "go_ret0" : tactic => `(tactic| ((try simp only [Exit.inBlock, Exit.then]); refine bodyPost_ret (results_none rfl _ _ _) rfl ?_))
section
variable {α : Type} [Inhabited α] {lt : α → α → Bool} {g : Nat} {lb : Array Value} {sf : Nat} {sb : Array Value} {blk n : Nat} {I : Array α → World → Prop}

set_option maxRecDepth 100000 in
set_option maxHeartbeats 2000000 in
theorem reverseRange_call (E : Env lt g lb sf sb blk n I) (a b : Nat) (d : Array α) (w : World) (hI : I d w) (hab : a < b) (hb : b ≤ n) :
    Calls Try.prog 41 #[.agg #[.func (.func g) #[] lb, .func (.func sf) #[] sb], .int .i64 a, .int .i64 b] w fun e w' => e = .returned (.tuple #[]) ∧ On blk w w' ∧ I (Sort.reverseRange d a b) w' := by
  have hS := Lib.hid (St.start E hI (.func (.func g) #[] lb) (.func (.func sf) #[] sb) 64)
  have hn := E.small
  go_enter Try.func41, Try.ntmps41
  go_wp2_with fail
  go_loopw [6, 7] (fun vi vj wr => ∃ (i j : Nat) (dk : Array α), vi = .int .i64 i ∧ vj = .int .i64 j ∧ a ≤ i ∧ j < b ∧ i ≤ b ∧ St I blk (.func (.func g) #[] lb) (.func (.func sf) #[] sb) w dk wr ∧ reverseLoop i j dk = Sort.reverseRange d a b) (fun vi vj _ => (intOf vj).toNat + 1 - (intOf vi).toNat)
  case atStart => exact ⟨a, b - 1, d, rfl, by go_num, by omega, by omega, by omega, hS.out, rfl⟩
  case round =>
    obtain ⟨i, j, dk, rfl, rfl, hai, hjb, hib, hst, hO⟩ := hrel
    have HO := Lib.hid hO
    have HS := Lib.hid hst
    have c1 := hst.c1
    clear hO hst hS
    by_cases hlt : i < j
    · obtain ⟨w3, hsw, hon, hI3⟩ := E.swap dk wr i j (by omega) HS.out.inv (by omega) (by omega)
      have HS3 := Lib.hid (HS.out.sw hon hI3)
      clear hon hI3
      go_wp2_with fail
      exact ⟨⟨i + 1, j - 1, _, by go_num, by go_num, by omega, by omega, by omega, HS3.out, by rw [← HO.out, m_rv_go i j dk hlt]⟩, by simp [intOf]; omega⟩
    · go_wp2_with fail
      go_end0
      exact ⟨rfl, HS.out.on, by rw [← HO.out, m_rv_no i j dk hlt]; exact HS.out.inv⟩

set_option maxRecDepth 100000 in
set_option maxHeartbeats 4000000 in
theorem siftDown_call (E : Env lt g lb sf sb blk n I) (lo hi F : Nat) (d : Array α) (w : World) (hI : I d w) (hlo : lo ≤ n) (hF : F + hi ≤ n) :
    Calls Try.prog 46 #[.agg #[.func (.func g) #[] lb, .func (.func sf) #[] sb], .int .i64 lo, .int .i64 hi, .int .i64 F] w fun e w' => e = .returned (.tuple #[]) ∧ On blk w w' ∧ I (Sort.siftDown lt hi F lo d) w' := by
  have hS := Lib.hid (St.start E hI (.func (.func g) #[] lb) (.func (.func sf) #[] sb) 64)
  have hn := E.small
  have eg := E.eg
  go_enter Try.func46, Try.ntmps46
  go_wp2_with fail
  go_loopw [8] (fun vr wr => ∃ (r : Nat) (dk : Array α), vr = .int .i64 r ∧ r ≤ n ∧ St I blk (.func (.func g) #[] lb) (.func (.func sf) #[] sb) w dk wr ∧ Sort.siftDown lt hi F r dk = Sort.siftDown lt hi F lo d) (fun vr _ => n - (intOf vr).toNat)
  case atStart => exact ⟨lo, d, rfl, hlo, hS.out, rfl⟩
  case round =>
    obtain ⟨r, dk, rfl, hrn, hst, hO⟩ := hrel
    have HO := Lib.hid hO
    have HS := Lib.hid hst
    have c0 := hst.c0
    clear hO hst hS
    obtain ⟨q, hq⟩ : ∃ q, q = 2 * r + 1 := ⟨_, rfl⟩
    have hw1 : IntKind.i64.wrap (2 * (r : Int)) = 2 * (r : Int) := by rw [IntKind.wrap_i64]; omega
    have hw2 : IntKind.i64.wrap (2 * (r : Int) + 1) = 2 * (r : Int) + 1 := by rw [IntKind.wrap_i64]; omega
    go_upto_region 2 with fail
    go_cut [9] (fun s wx => s = .int .i64 q ∧ wx = wr)
    case first =>
      go_wp2
      go_meet
      exact ⟨by congr 1; omega, rfl⟩
    case rest =>
      obtain ⟨rfl, hwc⟩ := hcut
      obtain rfl : wr = wc := hwc.symm
      have HQ := Lib.hid hq
      have hqr : r < q := by omega
      clear hq hw1 hw2
      by_cases hqh : q < hi
      · have hwF : IntKind.i64.wrap ((F : Int) + (q : Int)) = (F : Int) + (q : Int) := by rw [IntKind.wrap_i64]; omega
        have hwF1 : IntKind.i64.wrap ((F : Int) + (q : Int) + 1) = (F : Int) + (q : Int) + 1 := by rw [IntKind.wrap_i64]; omega
        have hwr : IntKind.i64.wrap ((F : Int) + (r : Int)) = (F : Int) + (r : Int) := by rw [IntKind.wrap_i64]; omega
        have hwq1 : IntKind.i64.wrap ((q : Int) + 1) = (q : Int) + 1 := by rw [IntKind.wrap_i64]; omega
        by_cases hq1 : q + 1 < hi
        · have hl := E.less dk wr (F + q) (F + q + 1) HS.out.inv (by omega) (by omega)
          rw [show ((F + q : Nat) : Int) = (F : Int) + (q : Int) by omega, show ((F + q + 1 : Nat) : Int) = (F : Int) + (q : Int) + 1 by omega] at hl
          cases hlv : lt dk[F + q]! dk[F + q + 1]! with
          | true =>
            rw [hlv] at hl
            have HM := Lib.hid (m_sf_right (lt := lt) (hi := hi) (F := F) (r := r) dk (by have := HQ.out; omega) (by rw [← HQ.out]; exact hlv))
            rw [show 2 * r + 2 = q + 1 by have := HQ.out; omega] at HM
            go_wp2_with fail
            refine hl.mono ?_
            rintro e w2 ⟨rfl, hsm⟩
            go_upto_region 6 with fail
            have HS2 := Lib.hid (HS.out.sm E hsm)
            clear hsm hl hlv c0
            have c0 := HS2.out.c0
            have hwx : IntKind.i64.wrap ((F : Int) + ((q : Int) + 1)) = (F : Int) + ((q : Int) + 1) := by rw [IntKind.wrap_i64]; omega
            have hl := E.less dk w2 (F + r) (F + (q + 1)) HS2.out.inv (by omega) (by omega)
            rw [show ((F + r : Nat) : Int) = (F : Int) + (r : Int) by omega, show ((F + (q + 1) : Nat) : Int) = (F : Int) + ((q : Int) + 1) by omega] at hl
            cases hlv : lt dk[F + r]! dk[F + (q + 1)]! with
            | true =>
              rw [hlv] at hl
              go_wp2_with fail
              refine hl.mono ?_
              rintro e w5 ⟨rfl, hsm⟩
              go_upto_region 7 with fail
              have HS3 := HS2.out.sm E hsm
              obtain ⟨w6, hsw, hon, hI3⟩ := E.swap dk w5 (F + r) (F + (q + 1)) (by omega) HS3.inv (by omega) (by omega)
              rw [show ((F + r : Nat) : Int) = (F : Int) + (r : Int) by omega, show ((F + (q + 1) : Nat) : Int) = (F : Int) + ((q : Int) + 1) by omega] at hsw
              have c1 := HS3.c1
              have HS4 := Lib.hid (HS3.sw hon hI3)
              clear HS3 hon hI3 hl hsm
              go_wp2_with fail
              exact ⟨⟨(q + 1), _, by go_num, by omega, HS4.out, by rw [← HO.out, HM.out, hlv, if_pos rfl]⟩, by simp [intOf]; omega⟩
            | false =>
              rw [hlv] at hl
              go_wp2_with (refine hl.mono ?_; rintro e w5 ⟨rfl, hsm⟩)
              go_ret0
              exact ⟨rfl, (HS2.out.sm E hsm).on, by rw [← HO.out, HM.out, hlv, if_neg (by simp)]; exact (HS2.out.sm E hsm).inv⟩
          | false =>
            rw [hlv] at hl
            have HM := Lib.hid (m_sf_left (lt := lt) (hi := hi) (F := F) (r := r) dk (by have := HQ.out; omega) (fun _ => by rw [← HQ.out]; exact hlv))
            rw [← HQ.out] at HM
            go_wp2_with fail
            refine hl.mono ?_
            rintro e w2 ⟨rfl, hsm⟩
            go_upto_region 6 with fail
            have HS2 := Lib.hid (HS.out.sm E hsm)
            clear hsm hl hlv c0
            have c0 := HS2.out.c0
            have hwx : IntKind.i64.wrap ((F : Int) + (q : Int)) = (F : Int) + (q : Int) := by rw [IntKind.wrap_i64]; omega
            have hl := E.less dk w2 (F + r) (F + q) HS2.out.inv (by omega) (by omega)
            rw [show ((F + r : Nat) : Int) = (F : Int) + (r : Int) by omega, show ((F + q : Nat) : Int) = (F : Int) + (q : Int) by omega] at hl
            cases hlv : lt dk[F + r]! dk[F + q]! with
            | true =>
              rw [hlv] at hl
              go_wp2_with fail
              refine hl.mono ?_
              rintro e w5 ⟨rfl, hsm⟩
              go_upto_region 7 with fail
              have HS3 := HS2.out.sm E hsm
              obtain ⟨w6, hsw, hon, hI3⟩ := E.swap dk w5 (F + r) (F + q) (by omega) HS3.inv (by omega) (by omega)
              rw [show ((F + r : Nat) : Int) = (F : Int) + (r : Int) by omega, show ((F + q : Nat) : Int) = (F : Int) + (q : Int) by omega] at hsw
              have c1 := HS3.c1
              have HS4 := Lib.hid (HS3.sw hon hI3)
              clear HS3 hon hI3 hl hsm
              go_wp2_with fail
              exact ⟨⟨q, _, by go_num, by omega, HS4.out, by rw [← HO.out, HM.out, hlv, if_pos rfl]⟩, by simp [intOf]; omega⟩
            | false =>
              rw [hlv] at hl
              go_wp2_with (refine hl.mono ?_; rintro e w5 ⟨rfl, hsm⟩)
              go_ret0
              exact ⟨rfl, (HS2.out.sm E hsm).on, by rw [← HO.out, HM.out, hlv, if_neg (by simp)]; exact (HS2.out.sm E hsm).inv⟩
        · have HM := Lib.hid (m_sf_left (lt := lt) (hi := hi) (F := F) (r := r) dk (by have := HQ.out; omega) (fun h => by have := HQ.out; omega))
          rw [← HQ.out] at HM
          go_upto_region 6 with fail
          clear c0
          have c0 := HS.out.c0
          have hwx : IntKind.i64.wrap ((F : Int) + (q : Int)) = (F : Int) + (q : Int) := by rw [IntKind.wrap_i64]; omega
          have hl := E.less dk wr (F + r) (F + q) HS.out.inv (by omega) (by omega)
          rw [show ((F + r : Nat) : Int) = (F : Int) + (r : Int) by omega, show ((F + q : Nat) : Int) = (F : Int) + (q : Int) by omega] at hl
          cases hlv : lt dk[F + r]! dk[F + q]! with
          | true =>
            rw [hlv] at hl
            go_wp2_with fail
            refine hl.mono ?_
            rintro e w5 ⟨rfl, hsm⟩
            go_upto_region 7 with fail
            have HS3 := HS.out.sm E hsm
            obtain ⟨w6, hsw, hon, hI3⟩ := E.swap dk w5 (F + r) (F + q) (by omega) HS3.inv (by omega) (by omega)
            rw [show ((F + r : Nat) : Int) = (F : Int) + (r : Int) by omega, show ((F + q : Nat) : Int) = (F : Int) + (q : Int) by omega] at hsw
            have c1 := HS3.c1
            have HS4 := Lib.hid (HS3.sw hon hI3)
            clear HS3 hon hI3 hl hsm
            go_wp2_with fail
            exact ⟨⟨q, _, by go_num, by omega, HS4.out, by rw [← HO.out, HM.out, hlv, if_pos rfl]⟩, by simp [intOf]; omega⟩
          | false =>
            rw [hlv] at hl
            go_wp2_with (refine hl.mono ?_; rintro e w5 ⟨rfl, hsm⟩)
            go_ret0
            exact ⟨rfl, (HS.out.sm E hsm).on, by rw [← HO.out, HM.out, hlv, if_neg (by simp)]; exact (HS.out.sm E hsm).inv⟩
      · go_wp2_with fail
        go_end0
        exact ⟨rfl, HS.out.on, by rw [← HO.out, m_sf_end lt dk (by have := HQ.out; omega)]; exact HS.out.inv⟩

set_option maxRecDepth 100000 in
set_option maxHeartbeats 4000000 in
theorem heapSort_call (E : Env lt g lb sf sb blk n I) (a b : Nat) (d : Array α) (w : World) (hI : I d w) (hab : a < b) (hb : b ≤ n) (h2 : 2 ≤ n) :
    Calls Try.prog 38 #[.agg #[.func (.func g) #[] lb, .func (.func sf) #[] sb], .int .i64 a, .int .i64 b] w fun e w' => e = .returned (.tuple #[]) ∧ On blk w w' ∧ I (Sort.heapSort lt d a b) w' := by
  have hS := Lib.hid (St.start E hI (.func (.func g) #[] lb) (.func (.func sf) #[] sb) 64)
  have hn := E.small
  obtain ⟨h, hh⟩ : ∃ h, h = b - a := ⟨_, rfl⟩
  obtain ⟨m, hm⟩ : ∃ m, m = (h - 1) / 2 := ⟨_, rfl⟩
  have HG : RowKit.Hid (Sort.heapSort lt d a b = heapPop lt a h (heapBuild lt h a (m + 1) d)) := Lib.hid (by rw [hm, hh]; rfl)
  have hwh : IntKind.i64.wrap ((b : Int) - (a : Int)) = (h : Int) := by rw [IntKind.wrap_i64]; omega
  have hm2 : m ≤ h := by omega
  have hh0 : 0 < h := by omega
  have HHH := Lib.hid hh
  have HMM := Lib.hid hm
  have hm0 : (h : Int) - 1 = ((h - 1 : Nat) : Int) := by omega
  go_enter Try.func38, Try.ntmps38
  go_upto_region 3 with fail
  go_cut [8] (fun s wx => s = .int .i64 h ∧ wx = w.alloc (.cells #[.func (.func g) #[] lb, .func (.func sf) #[] sb] 64))
  case first =>
    go_wp2
    go_meet
    exact ⟨by congr 1; have := HHH.out; omega, rfl⟩
  case rest =>
    obtain ⟨rfl, rfl⟩ := hcut
    go_upto_region 4 with fail
    go_cut [9] (fun s wx => s = .int .i64 m ∧ wx = w.alloc (.cells #[.func (.func g) #[] lb, .func (.func sf) #[] sb] 64))
    case first =>
      go_wp2
      go_meet
      exact ⟨by congr 1; have := HMM.out; have := HHH.out; omega, rfl⟩
    case rest =>
      obtain ⟨rfl, rfl⟩ := hcut
      have hah : a + h ≤ n := by omega
      have hmn : m + 1 ≤ n := by omega
      clear hh hm hwh hm0
      go_wp2_with fail
      go_loopw [9] (fun vi wr => ∃ (k : Nat) (dk : Array α), vi = .int .i64 ((k : Int) - 1) ∧ k ≤ m + 1 ∧ St I blk (.func (.func g) #[] lb) (.func (.func sf) #[] sb) w dk wr ∧ heapBuild lt h a k dk = heapBuild lt h a (m + 1) d) (fun vi _ => (intOf vi + 1).toNat)
      case atStart => exact ⟨m + 1, d, by go_num, Nat.le_refl _, hS.out, rfl⟩
      case round =>
        obtain ⟨k, dk, rfl, hk, hst, hO⟩ := hrel
        have HO := Lib.hid hO
        have HS := Lib.hid hst
        have c0 := hst.c0
        have c1 := hst.c1
        clear hO hst hS
        cases k with
        | succ k =>
          have e1 : ((k + 1 : Nat) : Int) - 1 = (k : Int) := by omega
          rw [e1]
          have hsd := siftDown_call E k h a dk wr HS.out.inv (by omega) (by omega)
          go_wp2_with (refine hsd.mono ?_; rintro e w2 ⟨rfl, hon, hI2⟩)
          have HS2 := HS.out.sw hon hI2
          exact ⟨⟨k, _, by go_num, by omega, HS2, by rw [← HO.out]; rfl⟩, by simp [intOf]⟩
        | zero =>
          rw [show ((0 : Nat) : Int) - 1 = -1 from rfl]
          have hB := Lib.hid (show dk = heapBuild lt h a (m + 1) d from HO.out)
          go_wp2_with fail
          go_loopw [10] (fun vi wr => ∃ (k : Nat) (dj : Array α), vi = .int .i64 ((k : Int) - 1) ∧ k ≤ h ∧ St I blk (.func (.func g) #[] lb) (.func (.func sf) #[] sb) w dj wr ∧ heapPop lt a k dj = Sort.heapSort lt d a b) (fun vi _ => (intOf vi + 1).toNat)
          case atStart => exact ⟨h, dk, by go_num, Nat.le_refl _, HS.out, by rw [HG.out, ← hB.out]⟩
          case round =>
            obtain ⟨k, dj, rfl, hk, hst, hO⟩ := hrel
            have HO2 := Lib.hid hO
            have HT := Lib.hid hst
            have q0 := hst.c0
            have q1 := hst.c1
            clear hO hst HS c0 c1
            cases k with
            | succ k =>
              have e1 : ((k + 1 : Nat) : Int) - 1 = (k : Int) := by omega
              rw [e1]
              obtain ⟨w3, hsw, hon, hI3⟩ := E.swap dj wr a (a + k) (by omega) HT.out.inv (by omega) (by omega)
              rw [show ((a + k : Nat) : Int) = (a : Int) + (k : Int) by omega] at hsw
              have HS3 := Lib.hid (HT.out.sw hon hI3)
              have r0 := HS3.out.c0
              have r1 := HS3.out.c1
              have hsd := siftDown_call E 0 k a _ w3 HS3.out.inv (by omega) (by omega)
              clear hon hI3
              go_wp2_with (refine hsd.mono ?_; rintro e w4 ⟨rfl, hon, hI4⟩)
              have HS4 := HS3.out.sw hon hI4
              exact ⟨⟨k, _, by go_num, by omega, HS4, by rw [← HO2.out]; rfl⟩, by simp [intOf]⟩
            | zero =>
              go_wp2_with fail
              go_end0
              exact ⟨rfl, HT.out.on, by rw [← HO2.out]; exact HT.out.inv⟩
end
end Go.Proofs.Ytdbpdnfniidfhaa
