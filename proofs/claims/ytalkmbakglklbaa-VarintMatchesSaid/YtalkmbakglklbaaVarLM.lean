/- The walk over winepresslaw05.VarintMatches. -/
import Derived.Test.YtalkmbakglklbaaVarK
set_option linter.unusedVariables false
set_option linter.unusedSimpArgs false
namespace Go.Proofs.Ytalkmbakglklbaa
open Go.RowKit

/-- The encoding, and the error, of any integer. -/
def encX (N : Int) : List Int := if 0 ≤ N ∧ N ≤ 2147483647 then enc N.toNat else []
def errX (N : Int) : Int := if 0 ≤ N ∧ N ≤ 2147483647 then 0 else 2
theorem encX_len (N : Int) : (encX N).length ≤ 5 := by
  unfold encX
  split
  · rw [enc_length]
    exact (vsz_bd _ (by omega)).2
  · simp
/-- What both Puts return. -/
def AnyP (w : World) (N : Int) (e : Ending) (w' : World) : Prop :=
  ∃ a c, e = .returned (.tuple #[.slice a (encX N).length c, .int .i64 (errX N)]) ∧ WinS w' .u8 5 a c (encX N) ∧ Below w.heap.size w w'
theorem put_any (N : Int) (w : World) : Calls Try.prog 9 #[.int .i64 N] w (AnyP w N) := by
  by_cases h : 0 ≤ N ∧ N ≤ 2147483647
  · obtain ⟨n, rfl⟩ := Int.eq_ofNat_of_zero_le h.1
    refine (put_yes n (by omega) w).mono ?_
    rintro e w' ⟨g, k, rfl, _, h1, h2⟩
    have he : encX (n : Int) = enc n := by unfold encX; rw [if_pos h]; rfl
    exact ⟨_, k, by rw [he, enc_length, errX, if_pos h], by rw [he]; exact h1, h2⟩
  · refine (put_no N (by omega) w).mono ?_
    rintro e w' ⟨rfl, rfl⟩
    exact ⟨none, 0, by rw [encX, errX, if_neg h, if_neg h]; rfl, by rw [encX, if_neg h]; exact WinS.nil _ _ _, Below.refl _ _⟩
theorem rput_any (N : Int) (w : World) : Calls Try.prog 10 #[.int .i64 N] w (AnyP w N) := by
  by_cases h : 0 ≤ N ∧ N ≤ 2147483647
  · obtain ⟨n, rfl⟩ := Int.eq_ofNat_of_zero_le h.1
    refine (rput_yes n (by omega) w).mono ?_
    rintro e w' ⟨a, k, rfl, h1, h2⟩
    have he : encX (n : Int) = enc n := by unfold encX; rw [if_pos h]; rfl
    exact ⟨_, k, by rw [he, enc_length, errX, if_pos h], by rw [he]; exact h1, h2⟩
  · refine (rput_no N (by omega) w).mono ?_
    rintro e w' ⟨rfl, rfl⟩
    exact ⟨none, 0, by rw [encX, errX, if_neg h, if_neg h]; rfl, by rw [encX, if_neg h]; exact WinS.nil _ _ _, Below.refl _ _⟩
theorem size_any (N : Int) (w : World) : Calls Try.prog 15 #[.int .i64 N] w fun e w' => e = .returned (.int .i64 ((encX N).length : Nat)) ∧ w = w' := by
  by_cases h : 0 ≤ N ∧ N ≤ 2147483647
  · obtain ⟨n, rfl⟩ := Int.eq_ofNat_of_zero_le h.1
    have he : encX (n : Int) = enc n := by unfold encX; rw [if_pos h]; rfl
    rw [he, enc_length]
    exact size_yes n (by omega) w
  · rw [encX, if_neg h]
    exact size_no N w (by omega)

def matJ (a u : Value) (D : Bool) (E : Int) (ok : Bool) : List (Value → World → Prop) :=
  [eqv a, eqv a, eqv (.bool true), eqv (.bool true), eqv (.bool D), eqv (.bool D), eqv (.bool true), eqv (.bool true), eqv (.bool true), eqv (.int .i64 E), eqv (.int .i64 E), eqv (.bool true), eqv (.bool true), eqv (.bool true),
   eqv u, eqv (.bool ok), eqv u, eqv (.bool ok), eqv (.bool true), eqv (.bool true), eqv (.bool true), eqv (.bool true), eqv (.bool true), eqv (.bool true)]
theorem matJ_mono {a u : Value} {D : Bool} {E : Int} {ok : Bool} : MonoAll (matJ a u D E ok) := by
  repeat' apply And.intro
  all_goals first | exact eqv_mono _ | trivial

theorem mat_out (N : Int) (a0 : Option Addr) (n cap0 : Nat) (V M C : Int) (w : World) (h : 300 < n) (h63 : n ≤ 9223372036854775807) :
    Calls Try.prog 3 #[.int .i64 N, .slice a0 n cap0, .agg #[.int .i64 V, .int .i64 M], .int .u8 C] w fun e w' => e = .returned (.bool true) ∧ Below w.heap.size w w' := by
  have d1 : decide ((300 : Int) < (n : Int)) = true := by simp; omega
  have hb0 := (Below.refl _ w).alloc (Nat.le_refl _) (.cells #[.int .i64 V, .int .i64 M] 24)
  go_enter Try.func3, Try.ntmps3
  go_wp2_with fail
  refine (wakes_call _).mono ?_
  rintro e w1 ⟨rfl, hb⟩
  go_wp2
  go_ret
  exact ⟨rfl, hb0.trans (hb.mono hb0.size)⟩

set_option maxRecDepth 100000 in
set_option maxHeartbeats 2000000 in
theorem mat_in (N : Int) (a0 : Option Addr) (n cap0 : Nat) (V M : Int) (c : Nat) (hc : c < 256) (w : World) (l : List Int) (hl : l.length = n) (hs : Src w .u8 a0 l) (hby : Byts l) (hn : n ≤ 300) (hlc : n ≤ cap0) (hcm : cap0 ≤ maxLen) :
    Calls Try.prog 3 #[.int .i64 N, .slice a0 n cap0, .agg #[.int .i64 V, .int .i64 M], .int .u8 c] w fun e w' => e = .returned (.bool true) ∧ Below w.heap.size w w' := by
  have d1 : decide ((300 : Int) < (n : Int)) = false := by simp; omega
  have HL := Lib.hid hl
  have HS := Lib.hid hs
  have HY := Lib.hid hby
  clear hl hs hby
  go_enter Try.func3, Try.ntmps3
  go_wp2_with fail
  have hT : TwoI (w.alloc (.cells #[.int .i64 V, .int .i64 M] 24)) w.heap.size V M := TwoI.new _ _ _ _
  have hB := (Below.refl _ w).alloc (Nat.le_refl _) (.cells #[.int .i64 V, .int .i64 M] 24)
  obtain ⟨p, hp⟩ : ∃ p, p = w.heap.size := ⟨_, rfl⟩
  rw [← hp] at hT ⊢
  clear hp
  generalize w.alloc (.cells #[.int .i64 V, .int .i64 M] 24) = w0 at *
  have T0 := Lib.hid hT
  have B0 := Lib.hid hB
  clear hT hB d1
  have hpx := Lib.hid (fun w => put_any N w)
  have hrx := Lib.hid (fun w => rput_any N w)
  have hsx := Lib.hid (fun w => size_any N w)
  unfold AnyP at hpx hrx
  obtain ⟨L, hL⟩ : ∃ L, L = encX N := ⟨_, rfl⟩
  obtain ⟨ev, hev⟩ : ∃ ev, ev = errX N := ⟨_, rfl⟩
  rw [← hL] at hpx hrx hsx
  rw [← hev] at hpx hrx
  clear hL hev
  obtain ⟨m, hm⟩ : ∃ m, L.length = m := ⟨_, rfl⟩
  rw [hm] at hpx hrx hsx
  have HM := Lib.hid hm
  clear hm
  refine (hpx.out w0).mono ?_
  rintro e w1 ⟨a1, k1, rfl, hw1, hb1⟩
  have W1 := Lib.hid hw1
  have B1 := Lib.hid hb1
  clear hw1 hb1 hpx
  go_wp2_with fail
  refine (hrx.out w1).mono ?_
  rintro e w2 ⟨a2, k2, rfl, hw2, hb2⟩
  have W2 := Lib.hid hw2
  have B2 := Lib.hid hb2
  clear hw2 hb2 hrx
  have B02 := Lib.hid (B0.out.trans ((B1.out.trans (B2.out.mono B1.out.size)).mono B0.out.size))
  go_wp2_with fail
  refine (take_call w2 a0 n cap0 l HL.out (HS.out.below B02.out) HY.out (by omega) hlc hcm).mono ?_
  rintro e w3 ⟨a3, k3, rfl, hw3, _, hb3⟩
  have W3 := Lib.hid hw3
  have B3 := Lib.hid hb3
  clear hw3 hb3
  have B03 := Lib.hid (B02.out.trans (B3.out.mono B02.out.size))
  have htk := rtake_call w3 a0 n cap0 l HL.out (HS.out.below B03.out) HY.out (by omega) hlc hcm
  unfold TakeP at htk
  obtain ⟨R, hR⟩ : ∃ R, R = takeF 0 0 l := ⟨_, rfl⟩
  rw [← hR] at W3 htk ⊢
  clear hR
  obtain ⟨x, r, q⟩ := R
  dsimp only at W3 htk ⊢
  obtain ⟨rm, hrm⟩ : ∃ rm, r.length = rm := ⟨_, rfl⟩
  rw [hrm] at htk ⊢
  have HRM := Lib.hid hrm
  have HTK := Lib.hid htk
  clear hrm htk
  go_wp2_with fail
  refine HTK.out.mono ?_
  rintro e w4 ⟨a4, k4, rfl, hw4, _, hb4⟩
  have W4 := Lib.hid hw4
  have B4 := Lib.hid hb4
  clear hw4 hb4 HTK
  have B04 := Lib.hid (B03.out.trans (B4.out.mono B03.out.size))
  have x3 : Below w3.heap.size w3 w4 := B4.out
  have x2 : Below w2.heap.size w2 w4 := B3.out.trans (x3.mono B3.out.size)
  have x1 : Below w1.heap.size w1 w4 := B2.out.trans (x2.mono B2.out.size)
  have x0 : Below w0.heap.size w0 w4 := B1.out.trans (x1.mono B1.out.size)
  have W1 := Lib.hid (W1.out.below x1)
  have W2 := Lib.hid (W2.out.below x2)
  have W3 := Lib.hid (W3.out.below x3)
  have T0 := Lib.hid (T0.out.on x0)
  have hsc := fun w => step_call V M c hc w
  have hrc := fun w => rstep_call V M c hc w
  have hvc := Lib.hid (fun w => valid_call V M w)
  have hrv := Lib.hid (fun w => rvalid_call V M w)
  unfold stepR at hsc hrc
  obtain ⟨V', hV'⟩ : ∃ q, q = stepV V M c := ⟨_, rfl⟩
  obtain ⟨M', hM'⟩ : ∃ q, q = stepM V M c := ⟨_, rfl⟩
  obtain ⟨D, hD⟩ : ∃ q, q = stepD V M c := ⟨_, rfl⟩
  obtain ⟨E, hE⟩ : ∃ q, q = stepE V M c := ⟨_, rfl⟩
  obtain ⟨ok, hok⟩ : ∃ q, q = decide (okV V M) := ⟨_, rfl⟩
  rw [← hV', ← hM', ← hD, ← hE] at hsc hrc
  rw [← hok] at hvc hrv
  have HSC := Lib.hid hsc
  have HRC := Lib.hid hrc
  have v0 := T0.out.c0
  have v1 := T0.out.c1
  clear hV' hM' hD hE hok hsc hrc x0 x1 x2 x3 B0 B1 B2 B3 B4 B02 B03
  go_wp2_with fail
  refine (HSC.out w4).mono ?_
  rintro e w5 ⟨rfl, hb5⟩
  have hT1 : TwoI (w5.alloc (.cells #[.int .i64 V', .int .i64 M'] 24)) w5.heap.size V' M' := TwoI.new _ _ _ _
  have hb6 : Below w4.heap.size w4 (w5.alloc (.cells #[.int .i64 V', .int .i64 M'] 24)) := hb5.alloc hb5.size _
  have B6 := Lib.hid hb6
  have T6 := Lib.hid (T0.out.on hb6)
  clear v0 v1 hb5 hb6
  have v0 := T6.out.c0
  have v1 := T6.out.c1
  go_wp2_with fail
  obtain ⟨g1, hg1⟩ : ∃ g1, g1 = w5.heap.size := ⟨_, rfl⟩
  rw [← hg1] at hT1 ⊢
  clear hg1
  generalize w5.alloc (.cells #[.int .i64 V', .int .i64 M'] 24) = w6 at *
  refine (HRC.out w6).mono ?_
  rintro e w7 ⟨rfl, hb7⟩
  obtain ⟨w8, hw8⟩ : ∃ w8, w8 = w7.alloc (.cells #[.int .i64 V', .int .i64 M'] 24) := ⟨_, rfl⟩
  have hT2 : TwoI w8 w7.heap.size V' M' := by rw [hw8]; exact TwoI.new _ _ _ _
  have hb8 : Below w6.heap.size w6 w8 := by rw [hw8]; exact hb7.alloc hb7.size _
  have b48 := B6.out.trans (hb8.mono B6.out.size)
  have t1 := (W1.out.below b48).str HM.out
  have t2 := (W2.out.below b48).str HM.out
  have t3 := (W3.out.below b48).str HRM.out
  have t4 := (W4.out.below b48).str HRM.out
  have T1 := Lib.hid (hT1.on hb8)
  have T8 := Lib.hid (T6.out.on hb8)
  have T2 := Lib.hid hT2
  have B8 := Lib.hid (B04.out.trans (b48.mono B04.out.size))
  obtain ⟨s1, hs1⟩ : ∃ s, s = bstr L := ⟨_, rfl⟩
  obtain ⟨s2, hs2⟩ : ∃ s, s = bstr r := ⟨_, rfl⟩
  rw [← hs1] at t1 t2
  rw [← hs2] at t3 t4
  clear hs1 hs2 hb7 hb8 b48 hT1 hT2 W1 W2 W3 W4 v0 v1 T0 T6 HSC HRC B04 B6
  rw [hw8] at t1 t2 t3 t4
  go_wp2_with fail
  rw [← hw8] at t3 t4 ⊢
  clear t1 t2
  obtain ⟨g2, hg2⟩ : ∃ g2, g2 = w7.heap.size := ⟨_, rfl⟩
  rw [← hg2] at T2 ⊢
  clear hg2 hw8
  refine (hsx.out w8).mono ?_
  rintro e w9 ⟨rfl, rfl⟩
  go_wp2_with fail
  clear t3 t4 hsx
  -- REGION
  refine wp_region_inv (J := Js (matJ (.agg #[.int .i64 V', .int .i64 M']) (.agg #[.int .i64 V, .int .i64 M]) D E ok)) (ds := [99, 100, 101, 102, 103, 104, 105, 106, 107, 108, 109, 110, 111, 112, 113, 114, 115, 116, 117, 118, 119, 120, 121, 8]) (N := 122)
    (B := [(19, .pointer (some ⟨g1, 0, none⟩)), (22, .pointer (some ⟨g2, 0, none⟩)), (20, .bool D), (23, .bool D), (21, .int .i64 E), (24, .int .i64 E), (6, .pointer (some ⟨p, 0, none⟩))]) (by kernel_rfl) (by kernel_rfl) (Js_mono matJ_mono) rfl rfl (by simp) ?_ ?_
  · refine ⟨?_, ?_, ?_, ?_, ?_, ?_, ?_, ?_, ?_, ?_, ?_, ?_, ?_, ?_, ?_, ?_, ?_, ?_, ?_, ?_, ?_, ?_, ?_, ?_, trivial⟩
    · intro a w' hb hdep K hK
      have c19 := hb.at 0 19 _ rfl
      have q0 := (T1.out.on hb.bel).c0
      have q1 := (T1.out.on hb.bel).c1
      clear hdep
      go_simp
      exact hK _ _ rfl (Below.refl _ _)
    · intro a w' hb hdep K hK
      have c22 := hb.at 1 22 _ rfl
      have q0 := (T2.out.on hb.bel).c0
      have q1 := (T2.out.on hb.bel).c1
      clear hdep
      go_simp
      exact hK _ _ rfl (Below.refl _ _)
    · intro a w' hb hdep K hK
      obtain ⟨v0, e0, j0⟩ := hdep 0 (by kernel_rfl)
      replace e0 : a.tmps[99]? = some v0 := e0
      obtain rfl : v0 = _ := j0
      obtain ⟨v1, e1, j1⟩ := hdep 1 (by kernel_rfl)
      replace e1 : a.tmps[100]? = some v1 := e1
      obtain rfl : v1 = _ := j1
      clear hdep
      go_simp
      exact hK _ _ rfl (Below.refl _ _)
    · intro a w' hb hdep K hK
      obtain ⟨v2, e2, j2⟩ := hdep 2 (by kernel_rfl)
      replace e2 : a.tmps[101]? = some v2 := e2
      obtain rfl : v2 = _ := j2
      clear hdep
      go_simp
      exact hK _ _ rfl (Below.refl _ _)
    · intro a w' hb hdep K hK
      have c20 := hb.at 2 20 _ rfl
      obtain ⟨v3, e3, j3⟩ := hdep 3 (by kernel_rfl)
      replace e3 : a.tmps[102]? = some v3 := e3
      obtain rfl : v3 = _ := j3
      clear hdep
      go_simp
      exact hK _ _ rfl (Below.refl _ _)
    · intro a w' hb hdep K hK
      have c23 := hb.at 3 23 _ rfl
      obtain ⟨v3, e3, j3⟩ := hdep 3 (by kernel_rfl)
      replace e3 : a.tmps[102]? = some v3 := e3
      obtain rfl : v3 = _ := j3
      clear hdep
      go_simp
      exact hK _ _ rfl (Below.refl _ _)
    · intro a w' hb hdep K hK
      obtain ⟨v4, e4, j4⟩ := hdep 4 (by kernel_rfl)
      replace e4 : a.tmps[103]? = some v4 := e4
      obtain rfl : v4 = _ := j4
      obtain ⟨v5, e5, j5⟩ := hdep 5 (by kernel_rfl)
      replace e5 : a.tmps[104]? = some v5 := e5
      obtain rfl : v5 = _ := j5
      obtain ⟨v3, e3, j3⟩ := hdep 3 (by kernel_rfl)
      replace e3 : a.tmps[102]? = some v3 := e3
      obtain rfl : v3 = _ := j3
      clear hdep
      go_simp
      exact hK _ _ rfl (Below.refl _ _)
    · intro a w' hb hdep K hK
      obtain ⟨v3, e3, j3⟩ := hdep 3 (by kernel_rfl)
      replace e3 : a.tmps[102]? = some v3 := e3
      obtain rfl : v3 = _ := j3
      obtain ⟨v6, e6, j6⟩ := hdep 6 (by kernel_rfl)
      replace e6 : a.tmps[105]? = some v6 := e6
      obtain rfl : v6 = _ := j6
      clear hdep
      go_simp
      exact hK _ _ rfl (Below.refl _ _)
    · intro a w' hb hdep K hK
      obtain ⟨v7, e7, j7⟩ := hdep 7 (by kernel_rfl)
      replace e7 : a.tmps[106]? = some v7 := e7
      obtain rfl : v7 = _ := j7
      clear hdep
      go_simp
      exact hK _ _ rfl (Below.refl _ _)
    · intro a w' hb hdep K hK
      have c21 := hb.at 4 21 _ rfl
      obtain ⟨v8, e8, j8⟩ := hdep 8 (by kernel_rfl)
      replace e8 : a.tmps[107]? = some v8 := e8
      obtain rfl : v8 = _ := j8
      clear hdep
      go_simp
      exact hK _ _ rfl (Below.refl _ _)
    · intro a w' hb hdep K hK
      have c24 := hb.at 5 24 _ rfl
      obtain ⟨v8, e8, j8⟩ := hdep 8 (by kernel_rfl)
      replace e8 : a.tmps[107]? = some v8 := e8
      obtain rfl : v8 = _ := j8
      clear hdep
      go_simp
      exact hK _ _ rfl (Below.refl _ _)
    · intro a w' hb hdep K hK
      obtain ⟨v9, e9, j9⟩ := hdep 9 (by kernel_rfl)
      replace e9 : a.tmps[108]? = some v9 := e9
      obtain rfl : v9 = _ := j9
      obtain ⟨v10, e10, j10⟩ := hdep 10 (by kernel_rfl)
      replace e10 : a.tmps[109]? = some v10 := e10
      obtain rfl : v10 = _ := j10
      obtain ⟨v8, e8, j8⟩ := hdep 8 (by kernel_rfl)
      replace e8 : a.tmps[107]? = some v8 := e8
      obtain rfl : v8 = _ := j8
      clear hdep
      go_simp
      exact hK _ _ rfl (Below.refl _ _)
    · intro a w' hb hdep K hK
      obtain ⟨v8, e8, j8⟩ := hdep 8 (by kernel_rfl)
      replace e8 : a.tmps[107]? = some v8 := e8
      obtain rfl : v8 = _ := j8
      obtain ⟨v11, e11, j11⟩ := hdep 11 (by kernel_rfl)
      replace e11 : a.tmps[110]? = some v11 := e11
      obtain rfl : v11 = _ := j11
      clear hdep
      go_simp
      exact hK _ _ rfl (Below.refl _ _)
    · intro a w' hb hdep K hK
      obtain ⟨v12, e12, j12⟩ := hdep 12 (by kernel_rfl)
      replace e12 : a.tmps[111]? = some v12 := e12
      obtain rfl : v12 = _ := j12
      clear hdep
      go_simp
      exact hK _ _ rfl (Below.refl _ _)
    · intro a w' hb hdep K hK
      have c6 := hb.at 6 6 _ rfl
      obtain ⟨v13, e13, j13⟩ := hdep 13 (by kernel_rfl)
      replace e13 : a.tmps[112]? = some v13 := e13
      obtain rfl : v13 = _ := j13
      have q0 := (T8.out.on hb.bel).c0
      have q1 := (T8.out.on hb.bel).c1
      clear hdep
      go_simp
      exact hK _ _ rfl (Below.refl _ _)
    · intro a w' hb hdep K hK
      obtain ⟨v14, e14, j14⟩ := hdep 14 (by kernel_rfl)
      replace e14 : a.tmps[113]? = some v14 := e14
      obtain rfl : v14 = _ := j14
      obtain ⟨v13, e13, j13⟩ := hdep 13 (by kernel_rfl)
      replace e13 : a.tmps[112]? = some v13 := e13
      obtain rfl : v13 = _ := j13
      clear hdep
      go_simp
      go_at_call 16
      refine (hvc.out w').mono ?_
      rintro e w2 ⟨rfl, hb2⟩
      exact hK _ _ rfl hb2
    · intro a w' hb hdep K hK
      have c6 := hb.at 6 6 _ rfl
      obtain ⟨v13, e13, j13⟩ := hdep 13 (by kernel_rfl)
      replace e13 : a.tmps[112]? = some v13 := e13
      obtain rfl : v13 = _ := j13
      have q0 := (T8.out.on hb.bel).c0
      have q1 := (T8.out.on hb.bel).c1
      clear hdep
      go_simp
      exact hK _ _ rfl (Below.refl _ _)
    · intro a w' hb hdep K hK
      obtain ⟨v16, e16, j16⟩ := hdep 16 (by kernel_rfl)
      replace e16 : a.tmps[115]? = some v16 := e16
      obtain rfl : v16 = _ := j16
      obtain ⟨v13, e13, j13⟩ := hdep 13 (by kernel_rfl)
      replace e13 : a.tmps[112]? = some v13 := e13
      obtain rfl : v13 = _ := j13
      clear hdep
      go_simp
      go_at_call 17
      refine (hrv.out w').mono ?_
      rintro e w2 ⟨rfl, hb2⟩
      exact hK _ _ rfl hb2
    · intro a w' hb hdep K hK
      obtain ⟨v15, e15, j15⟩ := hdep 15 (by kernel_rfl)
      replace e15 : a.tmps[114]? = some v15 := e15
      obtain rfl : v15 = _ := j15
      obtain ⟨v17, e17, j17⟩ := hdep 17 (by kernel_rfl)
      replace e17 : a.tmps[116]? = some v17 := e17
      obtain rfl : v17 = _ := j17
      obtain ⟨v13, e13, j13⟩ := hdep 13 (by kernel_rfl)
      replace e13 : a.tmps[112]? = some v13 := e13
      obtain rfl : v13 = _ := j13
      clear hdep
      go_simp
      exact hK _ _ rfl (Below.refl _ _)
    · intro a w' hb hdep K hK
      obtain ⟨v13, e13, j13⟩ := hdep 13 (by kernel_rfl)
      replace e13 : a.tmps[112]? = some v13 := e13
      obtain rfl : v13 = _ := j13
      obtain ⟨v18, e18, j18⟩ := hdep 18 (by kernel_rfl)
      replace e18 : a.tmps[117]? = some v18 := e18
      obtain rfl : v18 = _ := j18
      clear hdep
      go_simp
      exact hK _ _ rfl (Below.refl _ _)
    · intro a w' hb hdep K hK
      obtain ⟨v19, e19, j19⟩ := hdep 19 (by kernel_rfl)
      replace e19 : a.tmps[118]? = some v19 := e19
      obtain rfl : v19 = _ := j19
      clear hdep
      go_simp
      exact hK _ _ rfl (Below.refl _ _)
    · intro a w' hb hdep K hK
      obtain ⟨v20, e20, j20⟩ := hdep 20 (by kernel_rfl)
      replace e20 : a.tmps[119]? = some v20 := e20
      obtain rfl : v20 = _ := j20
      clear hdep
      go_simp
      go_at_call 8
      refine (wakes_call w').mono ?_
      rintro e w2 ⟨rfl, hb2⟩
      exact hK _ _ rfl hb2
    · intro a w' hb hdep K hK
      obtain ⟨v20, e20, j20⟩ := hdep 20 (by kernel_rfl)
      replace e20 : a.tmps[119]? = some v20 := e20
      obtain rfl : v20 = _ := j20
      obtain ⟨v21, e21, j21⟩ := hdep 21 (by kernel_rfl)
      replace e21 : a.tmps[120]? = some v21 := e21
      obtain rfl : v21 = _ := j21
      clear hdep
      go_simp
      exact hK _ _ rfl (Below.refl _ _)
    · intro a w' hb hdep K hK
      obtain ⟨v22, e22, j22⟩ := hdep 22 (by kernel_rfl)
      replace e22 : a.tmps[121]? = some v22 := e22
      obtain rfl : v22 = _ := j22
      clear hdep
      go_simp
      exact hK _ _ rfl (Below.refl _ _)
  · intro a w' hb hall
    obtain ⟨v, h8, hv⟩ := hall 23 (by decide)
    obtain rfl : v = .bool true := hv
    have HBB := Lib.hid (B8.out.trans (hb.bel.mono B8.out.size))
    have hd := hb.defers
    clear hall hb
    go_wp2
    replace h8 : a.tmps[8]? = some (.bool true) := h8
    exact bodyPost_ret (v := .bool true) (by simp [results, Try.results3, go_sem, h8]) hd ⟨rfl, HBB.out⟩
  -- END REGION
theorem mat_call (N : Int) (wN : (Lit.int .i64 N).wf = true) (a0 : Option Addr) (len0 cap0 : Nat) (z0 : List Int) (V M C : Int) (wC : (Lit.int .u8 C).wf = true) (w : World) (h0 : IsRow .u8 w a0 len0 cap0 z0) :
    Calls Try.prog 3 #[.int .i64 N, .slice a0 len0 cap0, .agg #[.int .i64 V, .int .i64 M], .int .u8 C] w fun e w' => e = .returned (.bool true) ∧ Below w.heap.size w w' := by
  have hcm := h0.capMax
  obtain ⟨hl, hs, hwf, h63, hlc⟩ := h0.src
  have hcb := bounds_u8 wC
  by_cases h : 300 < len0
  · exact mat_out N a0 len0 cap0 V M C w h h63
  · obtain ⟨c, rfl⟩ := Int.eq_ofNat_of_zero_le hcb.1
    exact mat_in N a0 len0 cap0 V M c (by omega) w (z0.take len0) hl hs (Byts.of_wf hwf) (by omega) hlc hcm
end Go.Proofs.Ytalkmbakglklbaa
