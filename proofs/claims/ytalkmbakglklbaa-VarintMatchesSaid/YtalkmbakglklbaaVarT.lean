/- Package varint and its reference: Take. -/
import Derived.Test.YtalkmbakglklbaaVarP
import Derived.Test.YtalkmbakglklbaaApd
set_option linter.unusedVariables false
set_option linter.unusedSimpArgs false
namespace Go.Proofs.Ytalkmbakglklbaa
open Go.RowKit

/-- What Take returns. -/
def TakeP (w : World) (R : Int × List Int × Int) (e : Ending) (w' : World) : Prop :=
  ∃ a c, e = .returned (.tuple #[.int .i64 R.1, .slice a R.2.1.length c, .int .i64 R.2.2]) ∧ WinS w' .u8 5 a c R.2.1 ∧ (∀ g, blk a = some g → w.heap.size ≤ g) ∧ Below w.heap.size w w'

set_option maxRecDepth 100000 in
set_option maxHeartbeats 1000000 in
theorem take_call (w : World) (sp : Option Addr) (n cap : Nat) (l : List Int) (hl : l.length = n) (hs : Src w .u8 sp l) (hby : Byts l) (hn : n ≤ 1000000) (hlc : n ≤ cap) (hcm : cap ≤ maxLen) :
    Calls Try.prog 11 #[.slice sp n cap] w (TakeP w (takeF 0 0 l)) := by
  have HL := Lib.hid hl
  have HS := Lib.hid hs
  have HY := Lib.hid hby
  obtain ⟨R, hR⟩ : ∃ R, R = takeF 0 0 l := ⟨_, rfl⟩
  have HR := Lib.hid hR
  rw [← hR]
  clear hl hs hby hR
  unfold maxLen at hcm
  go_enter Try.func11, Try.ntmps11
  go_wp2_with fail
  have hT : TwoI (w.alloc (.cells #[.int .i64 0, .int .i64 0] 24)) w.heap.size 0 0 := ⟨_, heap_alloc_new w _⟩
  have hB := (Below.refl _ w).alloc (Nat.le_refl _) (.cells #[.int .i64 0, .int .i64 0] 24)
  go_loopw [11] (fun x wr => ∃ (k : Nat) (V M : Int), k ≤ n ∧ x = .int .i64 k ∧ okV V M ∧ TwoI wr w.heap.size V M ∧ takeF V M (l.drop k) = R ∧ Below w.heap.size w wr) (fun x _ => n - (intOf x).toNat)
  case atStart => exact ⟨0, 0, 0, Nat.zero_le _, rfl, okV_zero, hT, HR.out.symm, hB⟩
  case round =>
    obtain ⟨k, V, M, hk, rfl, hok, hT, hR, hbw⟩ := hrel
    have HOK := Lib.hid hok
    have HT := Lib.hid hT
    have HRR := Lib.hid hR
    have HB := Lib.hid hbw
    by_cases hlt : k < n
    · rcases HS.out with rfl | ⟨g, o, rfl, hc⟩
      · have := HL.out
        simp at this
        omega
      have c1 := cell_on hbw (hc k (by rw [HL.out]; exact hlt))
      have hx := HY.out.getD k
      have HTA := Lib.hid (take_at l k (by rw [HL.out]; exact hlt) V M)
      obtain ⟨xi, hxi⟩ : ∃ xi, xi = l.getD k 0 := ⟨_, rfl⟩
      rw [← hxi] at c1 hx HTA
      obtain ⟨x, rfl⟩ := Int.eq_ofNat_of_zero_le hx.1
      have v0 := hT.c0
      have v1 := hT.c1
      clear hc hxi hok hT hR hbw
      go_wp2_with fail
      refine (step_call V M x (by omega) _).mono ?_
      rintro e w2 ⟨rfl, hb2⟩
      have HT2 := Lib.hid (HT.out.on hb2)
      have HB2 := Lib.hid (HB.out.trans (hb2.mono HB.out.size))
      have HSV := Lib.hid (step_valid V M x HOK.out (by omega))
      have HSE := Lib.hid (step_err V M x HOK.out)
      unfold stepR
      clear HT HB hb2 v0 v1 c1
      obtain ⟨V', hV'⟩ : ∃ q, q = stepV V M x := ⟨_, rfl⟩
      obtain ⟨M', hM'⟩ : ∃ q, q = stepM V M x := ⟨_, rfl⟩
      obtain ⟨D, hD⟩ : ∃ q, q = stepD V M x := ⟨_, rfl⟩
      obtain ⟨E, hE⟩ : ∃ q, q = stepE V M x := ⟨_, rfl⟩
      rw [← hV', ← hM', ← hD, ← hE] at HSV HTA
      rw [← hV', ← hM', ← hD, ← hE]
      have u0 := HT2.out.c0
      have u1 := (HT2.out.set0 V').c1
      have f0 := HT2.out.f 0
      have f1 := (HT2.out.set0 V').f 1
      have HT3 := Lib.hid (HT2.out.set V' M')
      have HB3 := Lib.hid ((HB2.out.setCell (p := ⟨w.heap.size, 0, none⟩) (Nat.le_refl _) (.int .i64 V')).setCell (p := ⟨w.heap.size, 1, none⟩) (Nat.le_refl _) (.int .i64 M'))
      clear HT2 HB2 hV' hM' hD hE
      by_cases h0 : E = 0
      · subst h0
        cases D
        · go_wp2_with fail
          refine ⟨⟨k + 1, V', M', by omega, by go_num, by have := HSV.out; simpa using this, HT3.out, ?_, HB3.out⟩, by simp [intOf]; omega⟩
          rw [← HRR.out, HTA.out]
          simp
        · have hRv : R = (V', l.drop (k + 1), 0) := by rw [← HRR.out, HTA.out]; simp
          have HL2 := Lib.hid (show (l.drop (k + 1)).length = n - (k + 1) by rw [List.length_drop, HL.out])
          subst hRv
          clear HRR HTA HSV HSE HR hT hB
          go_wp2_with fail
          clear u0 u1 f0 f1
          obtain ⟨w3, hw3⟩ : ∃ w3, w3 = (w2.setCell ⟨w.heap.size, 0, none⟩ (.int .i64 V')).setCell ⟨w.heap.size, 1, none⟩ (.int .i64 M') := ⟨_, rfl⟩
          rw [← hw3] at HT3 HB3 ⊢
          clear hw3
          have wk : IntKind.i64.wrap ((k : Int) + 1) = ((k + 1 : Nat) : Int) := by rw [IntWalk.i64_in _ (by omega)]; omega
          -- REGION
          refine wp_region_inv (J := Js [eqv (.pointer (some ⟨w.heap.size, 0, none⟩)), eqv (.int .i64 V'), eqv (.slice (some ⟨g, o, none⟩) n cap), eqv (.int .i64 k), eqv (.int .i64 (k + 1 : Nat)), SrcP .u8 (l.drop (k + 1)) (n - (k + 1)) (cap - (k + 1)), AppP .u8 5 w.heap.size (l.drop (k + 1)), eqv (.int .i64 V'), AppP .u8 5 w.heap.size (l.drop (k + 1)), eqv (.int .i64 0)]) (ds := [27, 28, 29, 30, 31, 32, 33, 2, 3, 4]) (N := 35)
            (B := [(0, .slice (some ⟨g, o, none⟩) n cap), (5, .pointer (some ⟨w.heap.size, 0, none⟩)), (7, .int .i64 k)]) (by kernel_rfl) (by kernel_rfl) (Js_mono ⟨eqv_mono _, eqv_mono _, eqv_mono _, eqv_mono _, eqv_mono _, SrcP_mono _ _ _ _, AppP_mono _ _ _ _, eqv_mono _, AppP_mono _ _ _ _, eqv_mono _, trivial⟩) rfl rfl (by simp) ?_ ?_
          · refine ⟨?_, ?_, ?_, ?_, ?_, ?_, ?_, ?_, ?_, ?_, trivial⟩
            · intro a w' hb hdep K hK
              have c5 := hb.at 1 5 _ rfl
              clear hdep
              go_simp
              exact hK _ _ rfl (Below.refl _ _)
            · intro a w' hb hdep K hK
              obtain ⟨v0, e0, j0⟩ := hdep 0 (by kernel_rfl)
              replace e0 : a.tmps[27]? = some v0 := e0
              obtain rfl : v0 = _ := j0
              have q0 := (HT3.out.on hb.bel).c0
              clear hdep
              go_simp
              exact hK _ _ rfl (Below.refl _ _)
            · intro a w' hb hdep K hK
              have c0 := hb.at 0 0 _ rfl
              clear hdep
              go_simp
              exact hK _ _ rfl (Below.refl _ _)
            · intro a w' hb hdep K hK
              have c7 := hb.at 2 7 _ rfl
              clear hdep
              go_simp
              exact hK _ _ rfl (Below.refl _ _)
            · intro a w' hb hdep K hK
              obtain ⟨v3, e3, j3⟩ := hdep 3 (by kernel_rfl)
              replace e3 : a.tmps[30]? = some v3 := e3
              obtain rfl : v3 = _ := j3
              clear hdep
              go_simp
              exact hK _ _ rfl (Below.refl _ _)
            · intro a w' hb hdep K hK
              obtain ⟨v2, e2, j2⟩ := hdep 2 (by kernel_rfl)
              replace e2 : a.tmps[29]? = some v2 := e2
              obtain rfl : v2 = _ := j2
              obtain ⟨v4, e4, j4⟩ := hdep 4 (by kernel_rfl)
              replace e4 : a.tmps[31]? = some v4 := e4
              obtain rfl : v4 = _ := j4
              have hq : 0 ≤ (k : Int) + 1 ∧ (k : Int) + 1 ≤ (n : Int) := by omega
              clear hdep
              go_simp
              exact hK _ _ ⟨_, rfl, (HS.out.below (HB3.out.trans (hb.bel.mono HB3.out.size))).slc (k + 1) cap (by rw [HL.out]; omega) (by rw [HL.out]; exact hlc)⟩ (Below.refl _ _)
            · intro a w' hb hdep K hK
              obtain ⟨v5, e5, j5⟩ := hdep 5 (by kernel_rfl)
              replace e5 : a.tmps[32]? = some v5 := e5
              clear hdep
              obtain ⟨a5, rfl, hs5⟩ := j5
              refine op_appendW rfl _ _ 22 rfl 5 .u8 1 sliceT byteI none 0 [] 0 rfl rfl (WinS.nil w' _ _) a5 (n - (k + 1)) (cap - (k + 1)) (by simp [Act.eval, e5]) (l.drop (k + 1)) HL2.out hs5 (by unfold maxLen; omega) (by omega) ?_
              intro a2 c2 w4 h1 h2 h3
              rw [List.nil_append] at h1
              exact hK _ _ ⟨a2, c2, by rw [HL2.out, Nat.zero_add], h1, fun q hq => by
                rcases h3 with h3 | h3
                · rw [h3] at hq
                  injection hq
                · rw [h3] at hq
                  injection hq with hq
                  subst hq
                  exact Nat.le_trans HB3.out.size hb.bel.size⟩ ((Below.refl _ _).grown h2 (Nat.le_refl _) (by intro q e; injection e))
            · intro a w' hb hdep K hK
              obtain ⟨v1, e1, j1⟩ := hdep 1 (by kernel_rfl)
              replace e1 : a.tmps[28]? = some v1 := e1
              obtain rfl : v1 = _ := j1
              clear hdep
              go_simp
              exact hK _ _ rfl (Below.refl _ _)
            · intro a w' hb hdep K hK
              obtain ⟨v6, e6, j6⟩ := hdep 6 (by kernel_rfl)
              replace e6 : a.tmps[33]? = some v6 := e6
              clear hdep
              go_simp
              exact hK _ _ j6 (Below.refl _ _)
            · intro a w' hb hdep K hK
              clear hdep
              go_simp
              exact hK _ _ rfl (Below.refl _ _)
          · intro a w' hb hall
            obtain ⟨v7, h7, j7⟩ := hall 7 (by decide)
            obtain rfl : v7 = _ := j7
            obtain ⟨v8, h8, j8⟩ := hall 8 (by decide)
            obtain ⟨a8, c8, rfl, hw8, hn8⟩ := j8
            obtain ⟨v9, h9, j9⟩ := hall 9 (by decide)
            obtain rfl : v9 = _ := j9
            have HBB := Lib.hid (HB3.out.trans (hb.bel.mono HB3.out.size))
            have hd := hb.defers
            clear hall hb
            go_wp2
            replace h7 : a.tmps[2]? = some (.int .i64 V') := h7
            replace h8 : a.tmps[3]? = some (.slice a8 (l.drop (k + 1)).length c8) := h8
            replace h9 : a.tmps[4]? = some (.int .i64 0) := h9
            exact bodyPost_ret (v := .tuple #[.int .i64 V', .slice a8 (l.drop (k + 1)).length c8, .int .i64 0]) (by simp [results, Try.results11, go_sem, h7, h8, h9]) hd ⟨a8, c8, rfl, hw8, hn8, HBB.out⟩
          -- END REGION
      · have d0 : (E != 0) = true := by simp [h0]
        have hRv : R = (0, [], E) := by rw [← HRR.out, HTA.out, if_neg h0]
        subst hRv
        go_wp2_with fail
        go_ret3
        exact ⟨none, 0, rfl, WinS.nil _ _ _, (fun g e => by injection e), HB3.out⟩
    · obtain rfl : k = n := by omega
      have hRv : R = (0, [], 50) := by
        rw [← HRR.out, List.drop_eq_nil_of_le (by rw [HL.out]; omega)]
        rfl
      subst hRv
      go_wp2_with fail
      go_ret3
      exact ⟨none, 0, rfl, WinS.nil _ _ _, (fun g e => by injection e), HB.out⟩
def takJ (p v s k t a1 a2 : Value → World → Prop) : List (Value → World → Prop) := [p, v, s, k, k, t, a1, v, a1, a2]
end Go.Proofs.Ytalkmbakglklbaa
