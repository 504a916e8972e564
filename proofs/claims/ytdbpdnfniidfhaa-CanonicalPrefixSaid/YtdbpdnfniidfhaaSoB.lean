/- Package sort: partitionEqual, partition. -/
import Derived.Test.YtdbpdnfniidfhaaSo
set_option linter.unusedVariables false
set_option linter.unusedSimpArgs false
namespace Go.Proofs.Ytdbpdnfniidfhaa
open Go.RowKit Go.Sort
section
variable {α : Type} [Inhabited α] {lt : α → α → Bool} {g : Nat} {lb : Array Value} {sf : Nat} {sb : Array Value} {blk n : Nat} {I : Array α → World → Prop}

theorem m_cross' (p : α → Bool) (d : Array α) (i j x y : Nat) (hi : 0 < i) (hx : scanUp (fun z => !p z) d j i = x) (hy : scanDown p d x j = y) (h : x ≤ y) : x < y := by
  have e : (fun z => !(fun z => !p z) z) = p := by funext z; simp
  have := m_cross (fun z => !p z) d i j hi (by rw [e, hx, hy]; exact h)
  rwa [e, hx, hy] at this
theorem m_cross2 (p : α → Bool) (d : Array α) (i j x y : Nat) (hi : 0 < i) (hx : scanUp p d j i = x) (hy : scanDown (fun z => !p z) d x j = y) (h : x ≤ y) : x < y := by
  have := m_cross p d i j hi (by rw [hx, hy]; exact h)
  rwa [hx, hy] at this

set_option maxRecDepth 100000 in
set_option maxHeartbeats 2000000 in
theorem partitionEqual_call (E : Env lt g lb sf sb blk n I) (a b p : Nat) (d : Array α) (w : World) (hI : I d w) (hap : a ≤ p) (hpb : p < b) (hb : b ≤ n) (h2 : 2 ≤ n) :
    Calls Try.prog 43 #[.agg #[.func (.func g) #[] lb, .func (.func sf) #[] sb], .int .i64 a, .int .i64 b, .int .i64 p] w fun e w' => e = .returned (.int .i64 (Sort.partitionEqual lt d a b p).1) ∧ On blk w w' ∧ I (Sort.partitionEqual lt d a b p).2 w' := by
  have hS := St.start E hI (.func (.func g) #[] lb) (.func (.func sf) #[] sb) 64
  have hn := E.small
  have eg := E.eg
  obtain ⟨w1, hsw, hon, hI1⟩ := E.swap d _ a p h2 hS.inv (by omega) (by omega)
  have c1 := hS.c1
  have HS := Lib.hid (hS.sw hon hI1)
  have HG : RowKit.Hid (Sort.partitionEqual lt d a b p = partEqLoop lt a (a + 1) (b - 1) (swp d a p)) := Lib.hid rfl
  generalize Sort.partitionEqual lt d a b p = R at HG ⊢
  generalize swp d a p = d1 at HS HG
  clear hS hon hI1
  go_enter Try.func43, Try.ntmps43
  go_wp2_with fail
  clear hsw c1
  go_loopw [9, 10] (fun vi vj wr => ∃ (i j : Nat) (dk : Array α), vi = .int .i64 i ∧ vj = .int .i64 j ∧ a < i ∧ j < b ∧ i ≤ j + 1 ∧ St I blk (.func (.func g) #[] lb) (.func (.func sf) #[] sb) w dk wr ∧ partEqLoop lt a i j dk = R) (fun vi vj _ => (intOf vj).toNat + 2 - (intOf vi).toNat)
  case atStart => exact ⟨a + 1, b - 1, d1, by go_num, by go_num, by omega, by omega, by omega, HS.out, HG.out.symm⟩
  case round =>
    obtain ⟨i, j, dk, rfl, rfl, hai, hjb, hij, hst, hO⟩ := hrel
    have HO := Lib.hid hO
    have HS1 := Lib.hid hst
    clear hO hst HS
    go_upto_block 2 with fail
    go_cut [9] (fun s wx => ∃ x : Nat, s = .int .i64 x ∧ i ≤ x ∧ x ≤ j + 1 ∧ St I blk (.func (.func g) #[] lb) (.func (.func sf) #[] sb) w dk wx ∧ scanUp (fun z => !lt dk[a]! z) dk j i = x)
    case first =>
      go_wp2_with fail
      go_loopw [9] (fun vi wq => ∃ x : Nat, vi = .int .i64 x ∧ i ≤ x ∧ x ≤ j + 1 ∧ St I blk (.func (.func g) #[] lb) (.func (.func sf) #[] sb) w dk wq ∧ scanUp (fun z => !lt dk[a]! z) dk j x = scanUp (fun z => !lt dk[a]! z) dk j i) (fun vi _ => j + 1 - (intOf vi).toNat)
      case atStart => exact ⟨i, rfl, Nat.le_refl _, by omega, HS1.out, rfl⟩
      case round =>
        obtain ⟨x, rfl, hx1, hx2, hst, hX⟩ := hrel
        have HX := Lib.hid hX
        have HS2 := Lib.hid hst
        have c0 := hst.c0
        have hl := fun (hx : x ≤ j) => E.less dk _ a x hst.inv (by omega) (by omega)
        clear hX hst
        by_cases hc : x ≤ j
        · have hl := hl hc
          cases hlv : lt dk[a]! dk[x]! with
          | false =>
            rw [hlv] at hl
            go_wp2_with (refine hl.mono ?_; rintro e w5 ⟨rfl, hsm⟩)
            exact ⟨⟨x + 1, by go_num, by omega, by omega, HS2.out.sm E hsm, by rw [← HX.out, m_up_go (fun z => !lt dk[a]! z) dk j x hc (by simp [hlv])]⟩, by simp [intOf]; omega⟩
          | true =>
            rw [hlv] at hl
            go_wp2_with (refine hl.mono ?_; rintro e w5 ⟨rfl, hsm⟩)
            go_meet
            exact ⟨x, rfl, hx1, hx2, HS2.out.sm E hsm, by rw [← HX.out, m_up_no (fun z => !lt dk[a]! z) dk j x (.inr (by simp [hlv]))]⟩
        · clear hl
          go_wp2_with fail
          go_meet
          exact ⟨x, rfl, hx1, hx2, HS2.out, by rw [← HX.out, m_up_no (fun z => !lt dk[a]! z) dk j x (.inl hc)]⟩
    case rest =>
      obtain ⟨u, rfl, hu1, hu2, hst, hXu⟩ := hcut
      have HXu := Lib.hid hXu
      have HSu := Lib.hid hst
      clear hst hXu HS1
      go_upto_block 4 with fail
      go_cut [10] (fun s wx => ∃ x : Nat, s = .int .i64 x ∧ x ≤ j ∧ u ≤ x + 1 ∧ St I blk (.func (.func g) #[] lb) (.func (.func sf) #[] sb) w dk wx ∧ scanDown (fun z => lt dk[a]! z) dk u j = x)
      case first =>
        go_wp2_with fail
        go_loopw [10] (fun vi wq => ∃ x : Nat, vi = .int .i64 x ∧ x ≤ j ∧ u ≤ x + 1 ∧ St I blk (.func (.func g) #[] lb) (.func (.func sf) #[] sb) w dk wq ∧ scanDown (fun z => lt dk[a]! z) dk u x = scanDown (fun z => lt dk[a]! z) dk u j) (fun vi _ => (intOf vi).toNat)
        case atStart => exact ⟨j, rfl, Nat.le_refl _, by omega, HSu.out, rfl⟩
        case round =>
          obtain ⟨x, rfl, hx1, hx2, hst, hX⟩ := hrel
          have HX := Lib.hid hX
          have HS2 := Lib.hid hst
          have c0 := hst.c0
          have hl := fun (hx : u ≤ x) => E.less dk _ a x hst.inv (by omega) (by omega)
          clear hX hst
          by_cases hc : u ≤ x
          · have hl := hl hc
            cases hlv : lt dk[a]! dk[x]! with
            | true =>
              rw [hlv] at hl
              go_wp2_with (refine hl.mono ?_; rintro e w5 ⟨rfl, hsm⟩)
              exact ⟨⟨x - 1, by go_num, by omega, by omega, HS2.out.sm E hsm, by rw [← HX.out, m_dn_go (fun z => lt dk[a]! z) dk u x hc (by omega) (by simp [hlv])]⟩, by simp [intOf]; omega⟩
            | false =>
              rw [hlv] at hl
              go_wp2_with (refine hl.mono ?_; rintro e w5 ⟨rfl, hsm⟩)
              go_meet
              exact ⟨x, rfl, hx1, hx2, HS2.out.sm E hsm, by rw [← HX.out, m_dn_no (fun z => lt dk[a]! z) dk u x (.inr (by simp [hlv]))]⟩
          · clear hl
            go_wp2_with fail
            go_meet
            exact ⟨x, rfl, hx1, hx2, HS2.out, by rw [← HX.out, m_dn_no (fun z => lt dk[a]! z) dk u x (.inl hc)]⟩
      case rest =>
        obtain ⟨v, rfl, hv1, hv2, hst, hXv⟩ := hcut
        have HXv := Lib.hid hXv
        have HSv := Lib.hid hst
        clear hst hXv HSu
        have hcr := m_cross' (fun z => lt dk[a]! z) dk i j u v (by omega) HXu.out HXv.out
        by_cases hvu : v < u
        · have HE := Lib.hid (m_pe_end lt a i j dk HXu.out HXv.out hvu)
          go_wp2_with fail
          go_ret
          exact ⟨by rw [← HO.out, HE.out]; rfl, HSv.out.on, by rw [← HO.out, HE.out]; exact HSv.out.inv⟩
        · have HE := Lib.hid (m_pe_go lt a i j dk HXu.out HXv.out hvu hu1 hv1)
          have huv : u < v := hcr (by omega)
          obtain ⟨w6, hsw, hon, hI3⟩ := E.swap dk _ u v h2 HSv.out.inv (by omega) (by omega)
          have c1 := HSv.out.c1
          have HS4 := Lib.hid (HSv.out.sw hon hI3)
          clear hon hI3
          go_wp2_with fail
          exact ⟨⟨u + 1, v - 1, _, by go_num, by go_num, by omega, by omega, by omega, HS4.out, by rw [← HO.out, HE.out]⟩, by simp [intOf]; omega⟩

set_option maxRecDepth 100000 in
set_option maxHeartbeats 4000000 in
theorem partition_call (E : Env lt g lb sf sb blk n I) (a b p : Nat) (d : Array α) (w : World) (hI : I d w) (hap : a ≤ p) (hpb : p < b) (hb : b ≤ n) (h2 : 2 ≤ n) :
    Calls Try.prog 44 #[.agg #[.func (.func g) #[] lb, .func (.func sf) #[] sb], .int .i64 a, .int .i64 b, .int .i64 p] w fun e w' => e = .returned (.tuple #[.int .i64 (Sort.partition lt d a b p).1, .bool (Sort.partition lt d a b p).2.1]) ∧ On blk w w' ∧ I (Sort.partition lt d a b p).2.2 w' := by
  have hS := St.start E hI (.func (.func g) #[] lb) (.func (.func sf) #[] sb) 64
  have hn := E.small
  have eg := E.eg
  obtain ⟨w1, hsw, hon, hI1⟩ := E.swap d _ a p h2 hS.inv (by omega) (by omega)
  have c1 := hS.c1
  have HS := Lib.hid (hS.sw hon hI1)
  obtain ⟨j0, hj0⟩ : ∃ j0, j0 = b - 1 := ⟨_, rfl⟩
  have HG : RowKit.Hid (Sort.partition lt d a b p = if scanDown (fun z => !lt z (swp d a p)[a]!) (swp d a p) (scanUp (fun z => lt z (swp d a p)[a]!) (swp d a p) j0 (a + 1)) j0 < scanUp (fun z => lt z (swp d a p)[a]!) (swp d a p) j0 (a + 1) then
      (scanDown (fun z => !lt z (swp d a p)[a]!) (swp d a p) (scanUp (fun z => lt z (swp d a p)[a]!) (swp d a p) j0 (a + 1)) j0, true, swp (swp d a p) (scanDown (fun z => !lt z (swp d a p)[a]!) (swp d a p) (scanUp (fun z => lt z (swp d a p)[a]!) (swp d a p) j0 (a + 1)) j0) a)
      else ((partLoop lt a (scanUp (fun z => lt z (swp d a p)[a]!) (swp d a p) j0 (a + 1) + 1) (scanDown (fun z => !lt z (swp d a p)[a]!) (swp d a p) (scanUp (fun z => lt z (swp d a p)[a]!) (swp d a p) j0 (a + 1)) j0 - 1) (swp (swp d a p) (scanUp (fun z => lt z (swp d a p)[a]!) (swp d a p) j0 (a + 1)) (scanDown (fun z => !lt z (swp d a p)[a]!) (swp d a p) (scanUp (fun z => lt z (swp d a p)[a]!) (swp d a p) j0 (a + 1)) j0))).1, false,
        swp (partLoop lt a (scanUp (fun z => lt z (swp d a p)[a]!) (swp d a p) j0 (a + 1) + 1) (scanDown (fun z => !lt z (swp d a p)[a]!) (swp d a p) (scanUp (fun z => lt z (swp d a p)[a]!) (swp d a p) j0 (a + 1)) j0 - 1) (swp (swp d a p) (scanUp (fun z => lt z (swp d a p)[a]!) (swp d a p) j0 (a + 1)) (scanDown (fun z => !lt z (swp d a p)[a]!) (swp d a p) (scanUp (fun z => lt z (swp d a p)[a]!) (swp d a p) j0 (a + 1)) j0))).2
          (partLoop lt a (scanUp (fun z => lt z (swp d a p)[a]!) (swp d a p) j0 (a + 1) + 1) (scanDown (fun z => !lt z (swp d a p)[a]!) (swp d a p) (scanUp (fun z => lt z (swp d a p)[a]!) (swp d a p) j0 (a + 1)) j0 - 1) (swp (swp d a p) (scanUp (fun z => lt z (swp d a p)[a]!) (swp d a p) j0 (a + 1)) (scanDown (fun z => !lt z (swp d a p)[a]!) (swp d a p) (scanUp (fun z => lt z (swp d a p)[a]!) (swp d a p) j0 (a + 1)) j0))).1 a)) := Lib.hid (by rw [hj0]; rfl)
  have hjw : IntKind.i64.wrap ((b : Int) - 1) = (j0 : Int) := by rw [IntKind.wrap_i64]; omega
  have hjb0 : j0 < b := by omega
  have haj0 : a ≤ j0 := by omega
  have HJ := Lib.hid hj0
  generalize Sort.partition lt d a b p = R at HG ⊢
  generalize swp d a p = d1 at HS HG
  clear hS hon hI1
  go_enter Try.func44, Try.ntmps44
  go_upto_region 2 with fail
  clear hsw c1 hjw
  go_cut [10, 11] (fun s t wx => s = .int .i64 (a + 1 : Nat) ∧ t = .int .i64 j0 ∧ wx = w1)
  case first =>
    go_wp2
    go_meet
    exact ⟨by go_num, by congr 1; omega, rfl⟩
  case rest =>
    obtain ⟨rfl, rfl, hwc⟩ := hcut
    obtain rfl : w1 = wc := hwc.symm
    obtain ⟨i0, hi0⟩ : ∃ i0, i0 = a + 1 := ⟨_, rfl⟩
    rw [← hi0] at HG ⊢
    have hai0 : a < i0 := by omega
    have hij0 : i0 ≤ j0 + 1 := by omega
    clear hi0 hj0
    go_upto_block 0 with fail
    go_cut [10] (fun s wx => ∃ x : Nat, s = .int .i64 x ∧ i0 ≤ x ∧ x ≤ j0 + 1 ∧ St I blk (.func (.func g) #[] lb) (.func (.func sf) #[] sb) w d1 wx ∧ scanUp (fun z => lt z d1[a]!) d1 j0 i0 = x)
    case first =>
      go_wp2_with fail
      go_loopw [10] (fun vi wq => ∃ x : Nat, vi = .int .i64 x ∧ i0 ≤ x ∧ x ≤ j0 + 1 ∧ St I blk (.func (.func g) #[] lb) (.func (.func sf) #[] sb) w d1 wq ∧ scanUp (fun z => lt z d1[a]!) d1 j0 x = scanUp (fun z => lt z d1[a]!) d1 j0 i0) (fun vi _ => j0 + 1 - (intOf vi).toNat)
      case atStart => exact ⟨i0, rfl, Nat.le_refl _, by omega, HS.out, rfl⟩
      case round =>
        obtain ⟨x, rfl, hx1, hx2, hst, hX⟩ := hrel
        have HX := Lib.hid hX
        have HS2 := Lib.hid hst
        have c0 := hst.c0
        have hl := fun (hx : x ≤ j0) => E.less d1 _ x a hst.inv (by omega) (by omega)
        clear hX hst
        by_cases hc : x ≤ j0
        · have hl := hl hc
          cases hlv : lt d1[x]! d1[a]! with
          | true =>
            rw [hlv] at hl
            go_wp2_with (refine hl.mono ?_; rintro e w5 ⟨rfl, hsm⟩)
            exact ⟨⟨x + 1, by go_num, by omega, by omega, HS2.out.sm E hsm, by rw [← HX.out, m_up_go (fun z => lt z d1[a]!) d1 j0 x hc (by simp [hlv])]⟩, by simp [intOf]; omega⟩
          | false =>
            rw [hlv] at hl
            go_wp2_with (refine hl.mono ?_; rintro e w5 ⟨rfl, hsm⟩)
            go_meet
            exact ⟨x, rfl, hx1, hx2, HS2.out.sm E hsm, by rw [← HX.out, m_up_no (fun z => lt z d1[a]!) d1 j0 x (.inr (by simp [hlv]))]⟩
        · clear hl
          go_wp2_with fail
          go_meet
          exact ⟨x, rfl, hx1, hx2, HS2.out, by rw [← HX.out, m_up_no (fun z => lt z d1[a]!) d1 j0 x (.inl hc)]⟩
    case rest =>
      obtain ⟨u, rfl, hu1, hu2, hst, hXu⟩ := hcut
      have HXu := Lib.hid hXu
      have HSu := Lib.hid hst
      clear hst hXu HS
      go_upto_block 2 with fail
      go_cut [11] (fun s wx => ∃ x : Nat, s = .int .i64 x ∧ x ≤ j0 ∧ u ≤ x + 1 ∧ St I blk (.func (.func g) #[] lb) (.func (.func sf) #[] sb) w d1 wx ∧ scanDown (fun z => !lt z d1[a]!) d1 u j0 = x)
      case first =>
        go_wp2_with fail
        go_loopw [11] (fun vi wq => ∃ x : Nat, vi = .int .i64 x ∧ x ≤ j0 ∧ u ≤ x + 1 ∧ St I blk (.func (.func g) #[] lb) (.func (.func sf) #[] sb) w d1 wq ∧ scanDown (fun z => !lt z d1[a]!) d1 u x = scanDown (fun z => !lt z d1[a]!) d1 u j0) (fun vi _ => (intOf vi).toNat)
        case atStart => exact ⟨j0, rfl, Nat.le_refl _, by omega, HSu.out, rfl⟩
        case round =>
          obtain ⟨x, rfl, hx1, hx2, hst, hX⟩ := hrel
          have HX := Lib.hid hX
          have HS2 := Lib.hid hst
          have c0 := hst.c0
          have hl := fun (hx : u ≤ x) => E.less d1 _ x a hst.inv (by omega) (by omega)
          clear hX hst
          by_cases hc : u ≤ x
          · have hl := hl hc
            cases hlv : lt d1[x]! d1[a]! with
            | false =>
              rw [hlv] at hl
              go_wp2_with (refine hl.mono ?_; rintro e w5 ⟨rfl, hsm⟩)
              exact ⟨⟨x - 1, by go_num, by omega, by omega, HS2.out.sm E hsm, by rw [← HX.out, m_dn_go (fun z => !lt z d1[a]!) d1 u x hc (by omega) (by simp [hlv])]⟩, by simp [intOf]; omega⟩
            | true =>
              rw [hlv] at hl
              go_wp2_with (refine hl.mono ?_; rintro e w5 ⟨rfl, hsm⟩)
              go_meet
              exact ⟨x, rfl, hx1, hx2, HS2.out.sm E hsm, by rw [← HX.out, m_dn_no (fun z => !lt z d1[a]!) d1 u x (.inr (by simp [hlv]))]⟩
          · clear hl
            go_wp2_with fail
            go_meet
            exact ⟨x, rfl, hx1, hx2, HS2.out, by rw [← HX.out, m_dn_no (fun z => !lt z d1[a]!) d1 u x (.inl hc)]⟩
      case rest =>
        obtain ⟨v, rfl, hv1, hv2, hst, hXv⟩ := hcut
        have HXv := Lib.hid hXv
        have HSv := Lib.hid hst
        clear hst hXv HSu
        have hcr := m_cross2 (fun z => lt z d1[a]!) d1 i0 j0 u v (by omega) HXu.out HXv.out
        have HG2 := Lib.hid (by have e := HG.out; rw [HXu.out, HXv.out] at e; exact e)
        clear HG
        by_cases hvu : v < u
        · have HE := Lib.hid (by have e := HG2.out; rw [if_pos hvu] at e; exact e)
          obtain ⟨w6, hsw, hon, hI3⟩ := E.swap d1 _ v a h2 HSv.out.inv (by omega) (by omega)
          have c1 := HSv.out.c1
          have HS4 := Lib.hid (HSv.out.sw hon hI3)
          clear hon hI3
          go_wp2_with fail
          go_ret2
          exact ⟨by rw [HE.out]; rfl, HS4.out.on, by rw [HE.out]; exact HS4.out.inv⟩
        · have huv : u < v := hcr (by omega)
          have HE := Lib.hid (by have e := HG2.out; rw [if_neg hvu] at e; exact e)
          clear HG2 hcr
          obtain ⟨w6, hsw, hon, hI3⟩ := E.swap d1 _ u v h2 HSv.out.inv (by omega) (by omega)
          have c1 := HSv.out.c1
          have HS4 := Lib.hid (HSv.out.sw hon hI3)
          clear hon hI3 HSv
          generalize swp d1 u v = d2 at HS4 HE
          obtain ⟨Q, hQ⟩ : ∃ Q, Q = partLoop lt a (u + 1) (v - 1) d2 := ⟨_, rfl⟩
          rw [← hQ] at HE
          have HQ := Lib.hid hQ
          clear hQ
          go_wp2_with fail
          clear hsw c1
          go_loopw [10, 11] (fun vi vj wr => ∃ (i j : Nat) (dk : Array α), vi = .int .i64 i ∧ vj = .int .i64 j ∧ a < i ∧ j < b ∧ i ≤ j + 1 ∧ St I blk (.func (.func g) #[] lb) (.func (.func sf) #[] sb) w dk wr ∧ partLoop lt a i j dk = Q) (fun vi vj _ => (intOf vj).toNat + 2 - (intOf vi).toNat)
          case atStart => exact ⟨u + 1, v - 1, d2, by go_num, by go_num, by omega, by omega, by omega, HS4.out, HQ.out.symm⟩
          case round =>
            obtain ⟨i, j, dk, rfl, rfl, hai, hjb, hij, hst, hO⟩ := hrel
            have HO := Lib.hid hO
            have HS1 := Lib.hid hst
            clear hO hst HS4 HQ HXu HXv hu1 hu2 hv1 hv2 huv hvu
            go_upto_block 6 with fail
            go_cut [10] (fun s wx => ∃ x : Nat, s = .int .i64 x ∧ i ≤ x ∧ x ≤ j + 1 ∧ St I blk (.func (.func g) #[] lb) (.func (.func sf) #[] sb) w dk wx ∧ scanUp (fun z => lt z dk[a]!) dk j i = x)
            case first =>
              go_wp2_with fail
              go_loopw [10] (fun vi wq => ∃ x : Nat, vi = .int .i64 x ∧ i ≤ x ∧ x ≤ j + 1 ∧ St I blk (.func (.func g) #[] lb) (.func (.func sf) #[] sb) w dk wq ∧ scanUp (fun z => lt z dk[a]!) dk j x = scanUp (fun z => lt z dk[a]!) dk j i) (fun vi _ => j + 1 - (intOf vi).toNat)
              case atStart => exact ⟨i, rfl, Nat.le_refl _, by omega, HS1.out, rfl⟩
              case round =>
                obtain ⟨x, rfl, hx1, hx2, hst, hX⟩ := hrel
                have HX := Lib.hid hX
                have HS2 := Lib.hid hst
                have c0 := hst.c0
                have hl := fun (hx : x ≤ j) => E.less dk _ x a hst.inv (by omega) (by omega)
                clear hX hst
                by_cases hc : x ≤ j
                · have hl := hl hc
                  cases hlv : lt dk[x]! dk[a]! with
                  | true =>
                    rw [hlv] at hl
                    go_wp2_with (refine hl.mono ?_; rintro e w5 ⟨rfl, hsm⟩)
                    exact ⟨⟨x + 1, by go_num, by omega, by omega, HS2.out.sm E hsm, by rw [← HX.out, m_up_go (fun z => lt z dk[a]!) dk j x hc (by simp [hlv])]⟩, by simp [intOf]; omega⟩
                  | false =>
                    rw [hlv] at hl
                    go_wp2_with (refine hl.mono ?_; rintro e w5 ⟨rfl, hsm⟩)
                    go_meet
                    exact ⟨x, rfl, hx1, hx2, HS2.out.sm E hsm, by rw [← HX.out, m_up_no (fun z => lt z dk[a]!) dk j x (.inr (by simp [hlv]))]⟩
                · clear hl
                  go_wp2_with fail
                  go_meet
                  exact ⟨x, rfl, hx1, hx2, HS2.out, by rw [← HX.out, m_up_no (fun z => lt z dk[a]!) dk j x (.inl hc)]⟩
            case rest =>
              obtain ⟨y, rfl, hy1, hy2, hst, hXy⟩ := hcut
              have HXy := Lib.hid hXy
              have HSy := Lib.hid hst
              clear hst hXy HS1
              go_upto_block 8 with fail
              go_cut [11] (fun s wx => ∃ x : Nat, s = .int .i64 x ∧ x ≤ j ∧ y ≤ x + 1 ∧ St I blk (.func (.func g) #[] lb) (.func (.func sf) #[] sb) w dk wx ∧ scanDown (fun z => !lt z dk[a]!) dk y j = x)
              case first =>
                go_wp2_with fail
                go_loopw [11] (fun vi wq => ∃ x : Nat, vi = .int .i64 x ∧ x ≤ j ∧ y ≤ x + 1 ∧ St I blk (.func (.func g) #[] lb) (.func (.func sf) #[] sb) w dk wq ∧ scanDown (fun z => !lt z dk[a]!) dk y x = scanDown (fun z => !lt z dk[a]!) dk y j) (fun vi _ => (intOf vi).toNat)
                case atStart => exact ⟨j, rfl, Nat.le_refl _, by omega, HSy.out, rfl⟩
                case round =>
                  obtain ⟨x, rfl, hx1, hx2, hst, hX⟩ := hrel
                  have HX := Lib.hid hX
                  have HS2 := Lib.hid hst
                  have c0 := hst.c0
                  have hl := fun (hx : y ≤ x) => E.less dk _ x a hst.inv (by omega) (by omega)
                  clear hX hst
                  by_cases hc : y ≤ x
                  · have hl := hl hc
                    cases hlv : lt dk[x]! dk[a]! with
                    | false =>
                      rw [hlv] at hl
                      go_wp2_with (refine hl.mono ?_; rintro e w5 ⟨rfl, hsm⟩)
                      exact ⟨⟨x - 1, by go_num, by omega, by omega, HS2.out.sm E hsm, by rw [← HX.out, m_dn_go (fun z => !lt z dk[a]!) dk y x hc (by omega) (by simp [hlv])]⟩, by simp [intOf]; omega⟩
                    | true =>
                      rw [hlv] at hl
                      go_wp2_with (refine hl.mono ?_; rintro e w5 ⟨rfl, hsm⟩)
                      go_meet
                      exact ⟨x, rfl, hx1, hx2, HS2.out.sm E hsm, by rw [← HX.out, m_dn_no (fun z => !lt z dk[a]!) dk y x (.inr (by simp [hlv]))]⟩
                  · clear hl
                    go_wp2_with fail
                    go_meet
                    exact ⟨x, rfl, hx1, hx2, HS2.out, by rw [← HX.out, m_dn_no (fun z => !lt z dk[a]!) dk y x (.inl hc)]⟩
              case rest =>
                obtain ⟨z, rfl, hz1, hz2, hst, hXz⟩ := hcut
                have HXz := Lib.hid hXz
                have HSz := Lib.hid hst
                clear hst hXz HSy
                have hcr := m_cross2 (fun t => lt t dk[a]!) dk i j y z (by omega) HXy.out HXz.out
                by_cases hzy : z < y
                · have HP := Lib.hid (m_pl_end lt a i j dk HXy.out HXz.out hzy)
                  obtain ⟨w7, hsw, hon, hI3⟩ := E.swap dk _ z a h2 HSz.out.inv (by omega) (by omega)
                  have c1 := HSz.out.c1
                  have HS5 := Lib.hid (HSz.out.sw hon hI3)
                  have hQ2 : Q = (z, dk) := by rw [← HO.out, HP.out]
                  subst hQ2
                  clear hon hI3
                  go_wp2_with fail
                  go_ret2
                  exact ⟨by rw [HE.out]; rfl, HS5.out.on, by rw [HE.out]; exact HS5.out.inv⟩
                · have HP := Lib.hid (m_pl_go lt a i j dk HXy.out HXz.out hzy hy1 hz1)
                  have hyz : y < z := hcr (by omega)
                  obtain ⟨w7, hsw, hon, hI3⟩ := E.swap dk _ y z h2 HSz.out.inv (by omega) (by omega)
                  have c1 := HSz.out.c1
                  have HS5 := Lib.hid (HSz.out.sw hon hI3)
                  clear hon hI3
                  go_wp2_with fail
                  exact ⟨⟨y + 1, z - 1, _, by go_num, by go_num, by omega, by omega, by omega, HS5.out, by rw [← HO.out, HP.out]⟩, by simp [intOf]; omega⟩
end
end Go.Proofs.Ytdbpdnfniidfhaa
