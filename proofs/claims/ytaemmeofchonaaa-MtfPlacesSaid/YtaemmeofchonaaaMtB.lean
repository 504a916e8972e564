/- Law MtfBack out of the contracts (genmb.py). -/
import Derived.Test.YtaemmeofchonaaaMtC
import Derived.Test.YtaemmeofchonaaaFrm2
import Derived.Deep.WholeRow
set_option linter.unusedVariables false
set_option linter.unusedSimpArgs false
namespace Go.Proofs.Ytaemmeofchonaaa
open Go.RowKit

/-- A slice of these bytes. -/
def IsU (n : Nat) (q : List Int) (v : Value) (w : World) : Prop := ∃ a c, v = .slice a n c ∧ Src w .u8 a q
theorem IsU_mono (n : Nat) (q : List Int) : MonoV (IsU n q) := fun v w w' h hb => by
  obtain ⟨a, c, e, hs⟩ := h
  exact ⟨a, c, e, hs.below hb⟩
theorem strT : Try.prog.underlying 9 = some .string := Try.underlying9
theorem ls_front {q : List Int} (hq : Byts q) (i : Nat) (hi : i < q.length) : (lsV idL (q.take i)).getD 0 0 = if i = 0 then 0 else q.getD (i - 1) 0 := by
  cases i with
  | zero =>
    rw [if_pos rfl]
    show idL.getD 0 0 = 0
    exact idL_get 0 (by decide)
  | succ j =>
    rw [if_neg (by omega), take_snocD q j (by omega), lsV_snoc]
    exact ((lsV_vld Vld.id _ (take_byte hq j)).front (hq.getD j)).1
/-- A position is 0 where the byte equals the one before it. -/
theorem fw_zero {q : List Int} (hq : Byts q) (i : Nat) (hi : i < q.length) : (fwV idL q).getD i 0 = 0 ↔ q.getD i 0 = if i = 0 then 0 else q.getD (i - 1) 0 := by
  have hv := lsV_vld Vld.id _ (take_byte hq i)
  rw [fwV_at idL q i hi, ← ls_front hq i hi]
  obtain ⟨p, hp, hpos, hlp⟩ := hv.pos (hq.getD i)
  rw [ptV_some hpos]
  have hz := posV_zero (l := lsV idL (q.take i)) (by rw [hv.len]; decide) (q.getD i 0)
  constructor
  · intro e
    have e : (p : Int) = 0 := e
    have e2 : p = 0 := by omega
    rw [e2] at hpos
    exact (hz.1 hpos).symm
  · intro e
    have h2 := hz.2 e.symm
    rw [hpos] at h2
    injection h2 with h2
    show (p : Int) = 0
    omega
theorem forth_at (CF : MFthC) {q P : List Int} (hy : Byts q) {n : Nat} (hq : q.length = n) (hn : n ≤ 1000) (hP : fwV idL q = P) (a : Option Addr) (c : Nat) (W : World) (hs : Src W .u8 a q) :
    Calls Try.prog 17 #[.slice a n c] W fun e w' => ∃ v, e = .returned v ∧ IsU n P v w' ∧ Below W.heap.size W w' :=
  (CF a n c q hq hy hn W hs).mono fun e w' ⟨A, c2, h1, h2⟩ => ⟨_, h1, ⟨ad0 A, c2, rfl, by rw [← hP]; exact h2.own.src⟩, h2.bel⟩
theorem back_at (CB : MBckC) {q P : List Int} (hy : Byts q) {n : Nat} (hq : q.length = n) (hn : n ≤ 1000) (hP : bkV idL q = P) (a : Option Addr) (c : Nat) (W : World) (hs : Src W .u8 a q) :
    Calls Try.prog 19 #[.slice a n c] W fun e w' => ∃ v, e = .returned v ∧ IsU n P v w' ∧ Below W.heap.size W w' :=
  (CB a n c q hq hy hn W hs).mono fun e w' ⟨A, c2, h1, h2⟩ => ⟨_, h1, ⟨ad0 A, c2, rfl, by rw [← hP]; exact h2.own.src⟩, h2.bel⟩

set_option maxRecDepth 100000 in
set_option maxHeartbeats 4000000 in
theorem mback_call (CF : MFthC) (CB : MBckC) (CW : MWkC) (sp : Option Addr) (n cap : Nat) (q : List Int) (hq : q.length = n) (hn : n ≤ 9223372036854775807) (hy : Byts q) (w : World) (hs : Src w .u8 sp q) :
    Calls Try.prog 4 #[.slice sp n cap] w fun e w' => e = .returned (.bool true) ∧ Below w.heap.size w w' := by
  have HWK := Lib.hid (fun W => CW W)
  by_cases hbig : 400 < n
  · have d1 : decide ((400 : Int) < (n : Int)) = true := decide_eq_true (by omega)
    clear hs hq hy
    go_enter Try.func4, Try.ntmps4
    go_wp2_with (with_reducible refine (HWK.out _).mono ?_; rintro e z ⟨rfl, hb⟩)
    go_ret
    exact ⟨rfl, hb⟩
  have d1 : decide ((400 : Int) < (n : Int)) = false := decide_eq_false (by omega)
  have d2 : decide (400 < n) = false := decide_eq_false (by omega)
  have HZ := Lib.hid (fun i (hi : i < q.length) => fw_zero hy i hi)
  have hPL : (fwV idL q).length = n := by rw [fwV_len, hq]
  have hPY : Byts (fwV idL q) := fwV_byte Vld.id q hy
  have hRL : (bkV idL q).length = n := by rw [bkV_len, hq]
  have hRY : Byts (bkV idL q) := bkV_byte Vld.id q hy
  have hf1 := fun W hs => CF sp n cap q hq hy (by omega) W hs
  have HBK := Lib.hid (fun (a : Option Addr) (c : Nat) W hs => back_at CB hPY hPL (by omega) (bk_fw Vld.id q hy) a c W hs)
  have HB2 := Lib.hid (fun W hs => back_at CB hy hq (by omega) rfl sp cap W hs)
  have HF2 := Lib.hid (fun (a : Option Addr) (c : Nat) W hs => forth_at CF hRY hRL (by omega) (fw_bk Vld.id q hy) a c W hs)
  obtain ⟨P, hP⟩ : ∃ P, P = fwV idL q := ⟨_, rfl⟩
  obtain ⟨R, hR⟩ : ∃ R, R = bkV idL q := ⟨_, rfl⟩
  rw [← hP] at HZ hPL hPY hf1 HBK
  rw [← hR] at hRL hRY HB2 HF2
  have HS := Lib.hid hs
  have HQL := Lib.hid hq
  have HPL := Lib.hid hPL
  have HRL := Lib.hid hRL
  have HF1 := Lib.hid (hf1 w hs)
  have HYQ := Lib.hid hy
  have HYP := Lib.hid hPY
  clear hP hR hPY hRY hRL hPL hs hf1 hq hy
  go_enter Try.func4, Try.ntmps4
  go_upto_region 4 with ((with_reducible refine HF1.out.mono ?_); rintro e w1 ⟨A, cA, rfl, hnb⟩)
  have HA := Lib.hid hnb.own.src
  have HB := Lib.hid hnb.bel
  clear hnb d1 d2
  go_upto_region 4 with fail
  go_cut [33] (fun s wx => s = .bool false ∧ Below w1.heap.size w1 wx)
  case first =>
    refine wp_region_frame (J := Js [eqv (.slice (ad0 A) n cA), eqv (.int .i64 (n : Int)), eqv (.slice sp n cap), eqv (.int .i64 (n : Int)), eqv (.bool false), eqv (.bool false), eqv (.slice (ad0 A) n cA), IsU n q, eqv (.string (bstr q)), eqv (.slice sp n cap), eqv (.string (bstr q)), eqv (.bool false), eqv (.bool false), eqv (.bool false), eqv (.slice sp n cap), IsU n R, IsU n q, eqv (.string (bstr q)), eqv (.slice sp n cap), eqv (.string (bstr q)), eqv (.bool false), eqv (.bool false)]) (ds := [12, 13, 14, 15, 16, 17, 18, 19, 20, 21, 22, 23, 24, 25, 26, 27, 28, 29, 30, 31, 32, 33]) (N := 60)
      (B := [(0, .slice sp n cap), (3, .slice (ad0 A) n cA)]) (by kernel_rfl) (by kernel_rfl) (Js_mono ⟨eqv_mono _, eqv_mono _, eqv_mono _, eqv_mono _, eqv_mono _, eqv_mono _, eqv_mono _, IsU_mono _ _, eqv_mono _, eqv_mono _, eqv_mono _, eqv_mono _, eqv_mono _, eqv_mono _, eqv_mono _, IsU_mono _ _, IsU_mono _ _, eqv_mono _, eqv_mono _, eqv_mono _, eqv_mono _, eqv_mono _, trivial⟩) rfl rfl (by simp) ?_ ?_
    · refine ⟨?_, ?_, ?_, ?_, ?_, ?_, ?_, ?_, ?_, ?_, ?_, ?_, ?_, ?_, ?_, ?_, ?_, ?_, ?_, ?_, ?_, ?_, trivial⟩
      · intro a w' hb hdep K hK
        have c3 := hb.at 1 3 _ rfl
        clear hdep
        go_simp
        exact hK _ _ rfl (Below.refl _ _)
      · intro a w' hb hdep K hK
        obtain ⟨v0, e0, j0⟩ := hdep 0 (by kernel_rfl)
        replace e0 : a.tmps[12]? = some v0 := e0
        obtain rfl : v0 = _ := j0
        clear hdep
        go_simp
        exact hK _ _ rfl (Below.refl _ _)
      · intro a w' hb hdep K hK
        have c0 := hb.at 0 0 _ rfl
        clear hdep
        go_simp
        exact hK _ _ rfl (Below.refl _ _)
      · intro a w' hb hdep K hK
        obtain ⟨v2, e2, j2⟩ := hdep 2 (by kernel_rfl)
        replace e2 : a.tmps[14]? = some v2 := e2
        obtain rfl : v2 = _ := j2
        clear hdep
        go_simp
        exact hK _ _ rfl (Below.refl _ _)
      · intro a w' hb hdep K hK
        obtain ⟨v1, e1, j1⟩ := hdep 1 (by kernel_rfl)
        replace e1 : a.tmps[13]? = some v1 := e1
        obtain rfl : v1 = _ := j1
        obtain ⟨v3, e3, j3⟩ := hdep 3 (by kernel_rfl)
        replace e3 : a.tmps[15]? = some v3 := e3
        obtain rfl : v3 = _ := j3
        clear hdep
        go_simp
        exact hK _ _ rfl (Below.refl _ _)
      · intro a w' hb hdep K hK
        obtain ⟨v4, e4, j4⟩ := hdep 4 (by kernel_rfl)
        replace e4 : a.tmps[16]? = some v4 := e4
        obtain rfl : v4 = _ := j4
        clear hdep
        go_simp
        exact hK _ _ rfl (Below.refl _ _)
      · intro a w' hb hdep K hK
        have c3 := hb.at 1 3 _ rfl
        obtain ⟨v5, e5, j5⟩ := hdep 5 (by kernel_rfl)
        replace e5 : a.tmps[17]? = some v5 := e5
        obtain rfl : v5 = _ := j5
        clear hdep
        go_simp
        exact hK _ _ rfl (Below.refl _ _)
      · intro a w' hb hdep K hK
        obtain ⟨v6, e6, j6⟩ := hdep 6 (by kernel_rfl)
        replace e6 : a.tmps[18]? = some v6 := e6
        obtain rfl : v6 = _ := j6
        obtain ⟨v5, e5, j5⟩ := hdep 5 (by kernel_rfl)
        replace e5 : a.tmps[17]? = some v5 := e5
        obtain rfl : v5 = _ := j5
        clear hdep
        go_simp
        go_at_call 19
        refine (HBK.out _ _ w' (HA.out.below hb.bel)).mono ?_
        rintro e w20 ⟨v20, rfl, hv20, hb20⟩
        exact hK _ _ hv20 hb20
      · intro a w' hb hdep K hK
        obtain ⟨v7, e7, j7⟩ := hdep 7 (by kernel_rfl)
        replace e7 : a.tmps[19]? = some v7 := e7
        obtain ⟨v5, e5, j5⟩ := hdep 5 (by kernel_rfl)
        replace e5 : a.tmps[17]? = some v5 := e5
        obtain rfl : v5 = _ := j5
        clear hdep
        obtain ⟨a20, c20, rfl, hs20⟩ := j7
        have hcv := run_bstr (P := Try.prog) byteT u8U strT w' a20 n c20 q HQL.out hs20
        clear hs20
        go_simp
        exact hK _ _ rfl (Below.refl _ _)
      · intro a w' hb hdep K hK
        have c0 := hb.at 0 0 _ rfl
        obtain ⟨v5, e5, j5⟩ := hdep 5 (by kernel_rfl)
        replace e5 : a.tmps[17]? = some v5 := e5
        obtain rfl : v5 = _ := j5
        clear hdep
        go_simp
        exact hK _ _ rfl (Below.refl _ _)
      · intro a w' hb hdep K hK
        obtain ⟨v9, e9, j9⟩ := hdep 9 (by kernel_rfl)
        replace e9 : a.tmps[21]? = some v9 := e9
        obtain rfl : v9 = _ := j9
        obtain ⟨v5, e5, j5⟩ := hdep 5 (by kernel_rfl)
        replace e5 : a.tmps[17]? = some v5 := e5
        obtain rfl : v5 = _ := j5
        clear hdep
        have hcv := run_bstr (P := Try.prog) byteT u8U strT w' sp n cap q HQL.out (HS.out.below (HB.out.trans (hb.bel.mono HB.out.size)))
        go_simp
        exact hK _ _ rfl (Below.refl _ _)
      · intro a w' hb hdep K hK
        obtain ⟨v8, e8, j8⟩ := hdep 8 (by kernel_rfl)
        replace e8 : a.tmps[20]? = some v8 := e8
        obtain rfl : v8 = _ := j8
        obtain ⟨v10, e10, j10⟩ := hdep 10 (by kernel_rfl)
        replace e10 : a.tmps[22]? = some v10 := e10
        obtain rfl : v10 = _ := j10
        obtain ⟨v5, e5, j5⟩ := hdep 5 (by kernel_rfl)
        replace e5 : a.tmps[17]? = some v5 := e5
        obtain rfl : v5 = _ := j5
        clear hdep
        go_simp
        exact hK _ _ rfl (Below.refl _ _)
      · intro a w' hb hdep K hK
        obtain ⟨v5, e5, j5⟩ := hdep 5 (by kernel_rfl)
        replace e5 : a.tmps[17]? = some v5 := e5
        obtain rfl : v5 = _ := j5
        obtain ⟨v11, e11, j11⟩ := hdep 11 (by kernel_rfl)
        replace e11 : a.tmps[23]? = some v11 := e11
        obtain rfl : v11 = _ := j11
        clear hdep
        go_simp
        exact hK _ _ rfl (Below.refl _ _)
      · intro a w' hb hdep K hK
        obtain ⟨v12, e12, j12⟩ := hdep 12 (by kernel_rfl)
        replace e12 : a.tmps[24]? = some v12 := e12
        obtain rfl : v12 = _ := j12
        clear hdep
        go_simp
        exact hK _ _ rfl (Below.refl _ _)
      · intro a w' hb hdep K hK
        have c0 := hb.at 0 0 _ rfl
        obtain ⟨v13, e13, j13⟩ := hdep 13 (by kernel_rfl)
        replace e13 : a.tmps[25]? = some v13 := e13
        obtain rfl : v13 = _ := j13
        clear hdep
        go_simp
        exact hK _ _ rfl (Below.refl _ _)
      · intro a w' hb hdep K hK
        obtain ⟨v14, e14, j14⟩ := hdep 14 (by kernel_rfl)
        replace e14 : a.tmps[26]? = some v14 := e14
        obtain rfl : v14 = _ := j14
        obtain ⟨v13, e13, j13⟩ := hdep 13 (by kernel_rfl)
        replace e13 : a.tmps[25]? = some v13 := e13
        obtain rfl : v13 = _ := j13
        clear hdep
        go_simp
        go_at_call 19
        refine (HB2.out w' (HS.out.below (HB.out.trans (hb.bel.mono HB.out.size)))).mono ?_
        rintro e w20 ⟨v20, rfl, hv20, hb20⟩
        exact hK _ _ hv20 hb20
      · intro a w' hb hdep K hK
        obtain ⟨v15, e15, j15⟩ := hdep 15 (by kernel_rfl)
        replace e15 : a.tmps[27]? = some v15 := e15
        obtain ⟨v13, e13, j13⟩ := hdep 13 (by kernel_rfl)
        replace e13 : a.tmps[25]? = some v13 := e13
        obtain rfl : v13 = _ := j13
        clear hdep
        obtain ⟨a20, c20, rfl, hs20⟩ := j15
        go_simp
        go_at_call 17
        refine (HF2.out _ _ w' hs20).mono ?_
        rintro e w20 ⟨v20, rfl, hv20, hb20⟩
        exact hK _ _ hv20 hb20
      · intro a w' hb hdep K hK
        obtain ⟨v16, e16, j16⟩ := hdep 16 (by kernel_rfl)
        replace e16 : a.tmps[28]? = some v16 := e16
        obtain ⟨v13, e13, j13⟩ := hdep 13 (by kernel_rfl)
        replace e13 : a.tmps[25]? = some v13 := e13
        obtain rfl : v13 = _ := j13
        clear hdep
        obtain ⟨a20, c20, rfl, hs20⟩ := j16
        have hcv := run_bstr (P := Try.prog) byteT u8U strT w' a20 n c20 q HQL.out hs20
        clear hs20
        go_simp
        exact hK _ _ rfl (Below.refl _ _)
      · intro a w' hb hdep K hK
        have c0 := hb.at 0 0 _ rfl
        obtain ⟨v13, e13, j13⟩ := hdep 13 (by kernel_rfl)
        replace e13 : a.tmps[25]? = some v13 := e13
        obtain rfl : v13 = _ := j13
        clear hdep
        go_simp
        exact hK _ _ rfl (Below.refl _ _)
      · intro a w' hb hdep K hK
        obtain ⟨v18, e18, j18⟩ := hdep 18 (by kernel_rfl)
        replace e18 : a.tmps[30]? = some v18 := e18
        obtain rfl : v18 = _ := j18
        obtain ⟨v13, e13, j13⟩ := hdep 13 (by kernel_rfl)
        replace e13 : a.tmps[25]? = some v13 := e13
        obtain rfl : v13 = _ := j13
        clear hdep
        have hcv := run_bstr (P := Try.prog) byteT u8U strT w' sp n cap q HQL.out (HS.out.below (HB.out.trans (hb.bel.mono HB.out.size)))
        go_simp
        exact hK _ _ rfl (Below.refl _ _)
      · intro a w' hb hdep K hK
        obtain ⟨v17, e17, j17⟩ := hdep 17 (by kernel_rfl)
        replace e17 : a.tmps[29]? = some v17 := e17
        obtain rfl : v17 = _ := j17
        obtain ⟨v19, e19, j19⟩ := hdep 19 (by kernel_rfl)
        replace e19 : a.tmps[31]? = some v19 := e19
        obtain rfl : v19 = _ := j19
        obtain ⟨v13, e13, j13⟩ := hdep 13 (by kernel_rfl)
        replace e13 : a.tmps[25]? = some v13 := e13
        obtain rfl : v13 = _ := j13
        clear hdep
        go_simp
        exact hK _ _ rfl (Below.refl _ _)
      · intro a w' hb hdep K hK
        obtain ⟨v13, e13, j13⟩ := hdep 13 (by kernel_rfl)
        replace e13 : a.tmps[25]? = some v13 := e13
        obtain rfl : v13 = _ := j13
        obtain ⟨v20, e20, j20⟩ := hdep 20 (by kernel_rfl)
        replace e20 : a.tmps[32]? = some v20 := e20
        obtain rfl : v20 = _ := j20
        clear hdep
        go_simp
        exact hK _ _ rfl (Below.refl _ _)
    · intro vs w' hvl hall hb
      match vs, hvl with
      | [v0, v1, v2, v3, v4, v5, v6, v7, v8, v9, v10, v11, v12, v13, v14, v15, v16, v17, v18, v19, v20, v21], _ =>
        obtain rfl : v0 = _ := hall 0 (by decide)
        obtain rfl : v1 = _ := hall 1 (by decide)
        obtain rfl : v2 = _ := hall 2 (by decide)
        obtain rfl : v3 = _ := hall 3 (by decide)
        obtain rfl : v4 = _ := hall 4 (by decide)
        obtain rfl : v5 = _ := hall 5 (by decide)
        obtain rfl : v6 = _ := hall 6 (by decide)
        have hj7 := hall 7 (by decide)
        obtain rfl : v8 = _ := hall 8 (by decide)
        obtain rfl : v9 = _ := hall 9 (by decide)
        obtain rfl : v10 = _ := hall 10 (by decide)
        obtain rfl : v11 = _ := hall 11 (by decide)
        obtain rfl : v12 = _ := hall 12 (by decide)
        obtain rfl : v13 = _ := hall 13 (by decide)
        obtain rfl : v14 = _ := hall 14 (by decide)
        have hj15 := hall 15 (by decide)
        have hj16 := hall 16 (by decide)
        obtain rfl : v17 = _ := hall 17 (by decide)
        obtain rfl : v18 = _ := hall 18 (by decide)
        obtain rfl : v19 = _ := hall 19 (by decide)
        obtain rfl : v20 = _ := hall 20 (by decide)
        obtain rfl : v21 = _ := hall 21 (by decide)
        simp only [putAll, List.setIfInBounds_toArray, List.set_cons_zero, List.set_cons_succ]
        go_wp2
        go_meet
        exact ⟨rfl, hb⟩
  case rest =>
    obtain ⟨rfl, hb4⟩ := hcut
    have HA4 := Lib.hid (HA.out.below hb4)
    have HS4 := Lib.hid (HS.out.below (HB.out.trans (hb4.mono HB.out.size)))
    have HB4 := Lib.hid (HB.out.trans (hb4.mono HB.out.size))
    clear hb4 HA HB HBK HB2 HF2 HF1
    go_wp2_with fail
    go_loopw [4] (fun v wr => ∃ i : Nat, i ≤ n ∧ v = .int .i64 i ∧ Below wc.heap.size wc wr) (fun v _ => n - (intOf v).toNat)
    case atStart => exact ⟨0, by omega, rfl, Below.refl _ _⟩
    case round =>
      obtain ⟨i, hi, rfl, hb⟩ := hrel
      have HBR := Lib.hid hb
      have HAR := Lib.hid (HA4.out.below hb)
      have HSR := Lib.hid (HS4.out.below hb)
      clear hb
      by_cases hlt : i < n
      · have hz := HZ.out i (by rw [HQL.out]; exact hlt)
        obtain ⟨ga, oa, hae, ca⟩ := HAR.out.get (show i < P.length by rw [HPL.out]; exact hlt)
        obtain ⟨gs, os, rfl, cs⟩ := HSR.out.get (show i < q.length by rw [HQL.out]; exact hlt)
        rw [hae]
        clear hae
        by_cases h0 : i = 0
        · subst h0
          rw [if_pos rfl] at hz
          rw [Nat.add_zero] at ca cs
          generalize P.getD 0 0 = PV at ca hz
          generalize q.getD 0 0 = QV at cs hz
          go_upto_region 12 with fail
          by_cases hqv : QV = 0
          · have hpv := hz.2 hqv
            subst hqv
            subst hpv
            clear hz
            go_quiet (fail)
            go_wp2_with fail
            exact ⟨⟨1, by omega, by go_num, HBR.out.drewN _⟩, by simp [intOf]; omega⟩
          · have hpv : ¬ PV = 0 := fun e => hqv (hz.1 e)
            have e1 : (PV == 0) = false := beq_false_of_ne hpv
            have e2 : (QV == 0) = false := beq_false_of_ne hqv
            clear hz
            go_quiet (fail)
            go_wp2_with fail
            exact ⟨⟨1, by omega, by go_num, HBR.out.drewN _⟩, by simp [intOf]; omega⟩
        · obtain ⟨j, rfl⟩ : ∃ j, i = j + 1 := ⟨i - 1, by omega⟩
          rw [if_neg (by omega), Nat.add_sub_cancel] at hz
          obtain ⟨gs2, os2, hse, cs2⟩ := HSR.out.get (show j < q.length by rw [HQL.out]; omega)
          injection hse with hse
          injection hse with hs1 hs2
          subst hs1 hs2
          have hw1 : IntKind.i64.wrap (((j + 1 : Nat) : Int) - 1) = (j : Int) := by rw [IntKind.wrap_i64]; omega
          have hw2 : IntKind.i64.wrap ((j : Int) + 1 - 1) = (j : Int) := by rw [IntKind.wrap_i64]; omega
          generalize P.getD (j + 1) 0 = PV at ca hz
          generalize q.getD (j + 1) 0 = QV at cs hz
          generalize q.getD j 0 = LV at cs2 hz
          go_upto_region 12 with fail
          by_cases hqv : QV = LV
          · have hpv := hz.2 hqv
            subst hqv
            subst hpv
            have e2 : (QV == QV) = true := beq_self_eq_true QV
            clear hz
            go_quiet (fail)
            go_wp2_with fail
            exact ⟨⟨j + 1 + 1, by omega, by go_num, HBR.out.drewN _⟩, by simp [intOf]; omega⟩
          · have hpv : ¬ PV = 0 := fun e => hqv (hz.1 e)
            have e1 : (PV == 0) = false := beq_false_of_ne hpv
            have e2 : (QV == LV) = false := beq_false_of_ne hqv
            clear hz
            go_quiet (fail)
            go_wp2_with fail
            exact ⟨⟨j + 1 + 1, by omega, by go_num, HBR.out.drewN _⟩, by simp [intOf]; omega⟩
      · obtain rfl : i = n := by omega
        go_wp2_with ((with_reducible refine (HWK.out _).mono ?_); rintro e z ⟨rfl, hb3⟩)
        go_ret
        exact ⟨rfl, (HB4.out.trans (HBR.out.mono HB4.out.size)).trans (hb3.mono (Nat.le_trans HB4.out.size HBR.out.size))⟩
end Go.Proofs.Ytaemmeofchonaaa
