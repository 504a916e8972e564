/- The walk over winepresslaw05.VarintOnly. -/
import Derived.Test.YtalkmbakglklbaaVarK
set_option linter.unusedVariables false
set_option linter.unusedSimpArgs false
namespace Go.Proofs.Ytalkmbakglklbaa
open Go.RowKit

theorem bstr_size (l : List Int) : (bstr l).size = l.length := by simp [bstr, ByteArray.size]
theorem bstr_append (l m : List Int) : bstr (l ++ m) = bstr l ++ bstr m := by
  apply ByteArray.ext
  simp [bstr, ByteArray.data_append]
theorem only_out (a0 : Option Addr) (n cap0 : Nat) (w : World) (h : 300 < n) (h63 : n ≤ 9223372036854775807) :
    Calls Try.prog 5 #[.slice a0 n cap0] w fun e w' => e = .returned (.bool true) ∧ Below w.heap.size w w' := by
  have d1 : decide ((300 : Int) < (n : Int)) = true := by simp; omega
  go_enter Try.func5, Try.ntmps5
  go_wp2_with fail
  refine (wakes_call w).mono ?_
  rintro e w1 ⟨rfl, hb⟩
  go_wp2
  go_ret
  exact ⟨rfl, hb⟩

set_option maxRecDepth 100000 in
set_option maxHeartbeats 1000000 in
theorem only_in (a0 : Option Addr) (n cap0 : Nat) (w : World) (l : List Int) (hl : l.length = n) (hs : Src w .u8 a0 l) (hby : Byts l) (hn : n ≤ 300) (hlc : n ≤ cap0) (hcm : cap0 ≤ maxLen) :
    Calls Try.prog 5 #[.slice a0 n cap0] w fun e w' => e = .returned (.bool true) ∧ Below w.heap.size w w' := by
  have d1 : decide ((300 : Int) < (n : Int)) = false := by simp; omega
  have HL := Lib.hid hl
  have HS := Lib.hid hs
  have HY := Lib.hid hby
  have HTK := Lib.hid (take_call w a0 n cap0 l hl hs hby (by omega) hlc hcm)
  have HON := Lib.hid (take_only l 0 0 okV_zero hby)
  have HBAD := Lib.hid (take_bad l 0 0 okV_zero hby)
  clear hl hs hby
  go_enter Try.func5, Try.ntmps5
  go_wp2_with fail
  refine HTK.out.mono ?_
  rintro e w1 ⟨a1, c1, rfl, hw1, _, hb1⟩
  have W1 := Lib.hid hw1
  have B1 := Lib.hid hb1
  clear hw1 hb1 HTK
  generalize takeF 0 0 l = R at *
  obtain ⟨v, r, q⟩ := R
  dsimp only
  by_cases h0 : q = 0
  · subst h0
    obtain ⟨N, hN, hv, he⟩ := HON.out rfl
    dsimp only at hv he
    subst hv
    have HE := Lib.hid (show l = enc N ++ r from he)
    clear he HON HBAD
    have W1' : Hid (WinS w1 .u8 5 a1 c1 r) := W1
    obtain ⟨m, hm⟩ : ∃ m, r.length = m := ⟨_, rfl⟩
    have HM := Lib.hid hm
    rw [hm]
    clear hm W1
    go_wp2_with fail
    refine (put_yes N hN w1).mono ?_
    rintro e w2 ⟨g2, k2, rfl, _, hw2, hb2⟩
    have t1 := hw2.str (enc_length N)
    have t2 := (W1'.out.below hb2).str HM.out
    have B2 := Lib.hid (B1.out.trans (hb2.mono B1.out.size))
    have t3 : (convert 22 9 (.slice a0 n cap0)).run Try.prog w2 = .ok (.string (bstr l)) w2 := run_bstr Try.underlying22 Try.underlying5 Try.underlying9 w2 a0 n cap0 l HL.out (HS.out.below B2.out)
    have hsz : (bstr (enc N)).size + (bstr r).size = n := by
      rw [bstr_size, bstr_size, ← HL.out, HE.out, List.length_append]
    rw [HE.out, bstr_append] at t3
    clear hw2 hb2 B1 W1'
    obtain ⟨s1, hs1⟩ : ∃ s, s = bstr (enc N) := ⟨_, rfl⟩
    obtain ⟨s2, hs2⟩ : ∃ s, s = bstr r := ⟨_, rfl⟩
    rw [← hs1] at t1 t3 hsz
    rw [← hs2] at t2 t3 hsz
    have da : ¬ (9223372036854775807 < s1.size + s2.size) := by omega
    have da2 : ¬ ((9223372036854775807 : Int) < (s1.size : Int) + (s2.size : Int)) := by omega
    have da3 : ¬ ((9223372036854775807 : Int) < ((s1.size + s2.size : Nat) : Int)) := by omega
    clear hs1 hs2 hsz
    go_wp2_with fail
    refine (wakes_call w2).mono ?_
    rintro e w3 ⟨rfl, hb⟩
    go_wp2
    go_ret
    exact ⟨rfl, B2.out.trans (hb.mono B2.out.size)⟩
  · have d0 : (q != 0) = true := by simp [h0]
    obtain ⟨e1, e2, e3⟩ := HBAD.out h0
    dsimp only at e1 e2 e3
    subst e1 e2
    clear HON HBAD W1 h0
    have hs : q = 50 ∨ q = 51 ∨ q = 52 := e3
    clear e3
    rcases hs with rfl | rfl | rfl
    all_goals
      go_wp2_with fail
      refine (wakes_call w1).mono ?_
      rintro e w2 ⟨rfl, hb⟩
      go_wp2
      go_ret
      exact ⟨rfl, B1.out.trans (hb.mono B1.out.size)⟩

theorem only_call (a0 : Option Addr) (len0 cap0 : Nat) (z0 : List Int) (w : World) (h0 : IsRow .u8 w a0 len0 cap0 z0) :
    Calls Try.prog 5 #[.slice a0 len0 cap0] w fun e w' => e = .returned (.bool true) ∧ Below w.heap.size w w' := by
  have hcm := h0.capMax
  obtain ⟨hl, hs, hwf, h63, hlc⟩ := h0.src
  by_cases h : 300 < len0
  · exact only_out a0 len0 cap0 w h h63
  · exact only_in a0 len0 cap0 w (z0.take len0) hl hs (Byts.of_wf hwf) (by omega) hlc hcm
end Go.Proofs.Ytalkmbakglklbaa
