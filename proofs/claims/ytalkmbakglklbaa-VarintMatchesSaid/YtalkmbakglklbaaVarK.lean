/- The walk over winepresslaw05.wakes. -/
import Derived.Test.YtalkmbakglklbaaVarQ
set_option linter.unusedVariables false
set_option linter.unusedSimpArgs false
namespace Go.Proofs.Ytalkmbakglklbaa
open Go.RowKit

theorem put_lit (n : Nat) (N : Int) (hN : N = n) (h : n ≤ 2147483647) (l : List Int) (m : Nat) (hl : enc n = l) (hm : vsz n = m) (w : World) :
    Calls Try.prog 9 #[.int .i64 N] w fun e w' => ∃ g cap, e = .returned (.tuple #[.slice (some ⟨g, 0, none⟩) m cap, .int .i64 0]) ∧ w.heap.size ≤ g ∧ WinS w' .u8 5 (some ⟨g, 0, none⟩) cap l ∧ Below w.heap.size w w' := by
  subst hN hl hm
  exact put_yes n h w
/-- Take of a literal. -/
theorem take_lit (w : World) (l : List Int) (n : Nat) (hn : l.length = n) (hb : Byts l) (hm : n ≤ 1000000) (t : TypeId) (v : Int) (r : List Int) (q : Int) (hR : takeF 0 0 l = (v, r, q)) :
    Calls Try.prog 11 #[.slice (some ⟨w.heap.size, 0, none⟩) n n] (w.alloc (.cells (icells .u8 l) t)) fun e w' => ∃ a c, e = .returned (.tuple #[.int .i64 v, .slice a r.length c, .int .i64 q]) ∧ WinS w' .u8 5 a c r ∧ Below w.heap.size w w' := by
  have h1 := heap_alloc_new w (.cells (icells .u8 l) t)
  refine (take_call _ (some ⟨w.heap.size, 0, none⟩) n n l hn (Src.whole h1) hb hm (Nat.le_refl _) (by unfold maxLen; omega)).mono ?_
  rintro e w' ⟨a, c, rfl, h2, h3, h4⟩
  rw [hR] at h2 ⊢
  exact ⟨a, c, rfl, h2, ((Below.refl _ w).alloc (Nat.le_refl _) _).trans (h4.mono (by simp))⟩
theorem step_lit (V M C : Int) (c : Nat) (hC : C = c) (hc : c < 256) (v m : Int) (d : Bool) (q : Int) (hR : stepR V M c = .tuple #[.agg #[.int .i64 v, .int .i64 m], .bool d, .int .i64 q]) (w : World) :
    Calls Try.prog 13 #[.agg #[.int .i64 V, .int .i64 M], .int .u8 C] w fun e w' => e = .returned (.tuple #[.agg #[.int .i64 v, .int .i64 m], .bool d, .int .i64 q]) ∧ Below w.heap.size w w' := by
  subst hC
  rw [← hR]
  exact step_call V M c hc w
theorem size_lit (n : Nat) (N : Int) (hN : N = n) (h : n ≤ 2147483647) (m : Int) (hm : ((vsz n : Nat) : Int) = m) (w : World) :
    Calls Try.prog 15 #[.int .i64 N] w fun e w' => e = .returned (.int .i64 m) ∧ w = w' := by
  subst hN hm
  exact size_yes n h w
theorem valid_lit (V M : Int) (b : Bool) (hb : decide (okV V M) = b) (w : World) :
    Calls Try.prog 16 #[.agg #[.int .i64 V, .int .i64 M]] w fun e w' => e = .returned (.bool b) ∧ Below w.heap.size w w' := by
  rw [← hb]
  exact valid_call V M w
theorem WinS.str {w : World} {a : Option Addr} {c n : Nat} {l : List Int} (h : WinS w .u8 5 a c l) (hn : l.length = n) :
    (convert 22 9 (.slice a n c)).run Try.prog w = .ok (.string (bstr l)) w :=
  run_bstr Try.underlying22 Try.underlying5 Try.underlying9 w a n c l hn h.src

set_option maxRecDepth 100000 in
set_option maxHeartbeats 4000000 in
theorem wakes_call (w : World) :
    Calls Try.prog 8 #[] w fun e w' => e = .returned (.bool true) ∧ Below w.heap.size w w' := by
  go_enter Try.func8, Try.ntmps8
  go_wp2_with fail
  refine (put_lit 5 5 rfl (by omega) [5] 1 (by decide +kernel) (by decide +kernel) _).mono ?_
  rintro e w1 ⟨g1, k1, rfl, _, hw1, hb1⟩
  have W1 := Lib.hid hw1
  have B1 := Lib.hid hb1
  clear hw1 hb1
  go_wp2_with fail
  refine (put_lit 300 300 rfl (by omega) [130, 44] 2 (by decide +kernel) (by decide +kernel) _).mono ?_
  rintro e w2 ⟨g2, k2, rfl, _, hw2, hb2⟩
  have W2 := Lib.hid hw2
  have B2 := Lib.hid hb2
  clear hw2 hb2
  go_wp2_with fail
  refine (put_lit 0 0 rfl (by omega) [0] 1 (by decide +kernel) (by decide +kernel) _).mono ?_
  rintro e w3 ⟨g3, k3, rfl, _, hw3, hb3⟩
  have W3 := Lib.hid hw3
  have B3 := Lib.hid hb3
  clear hw3 hb3
  go_wp2_with fail
  refine (put_no (-1) (by omega) _).mono ?_
  rintro e w3' ⟨rfl, rfl⟩
  go_wp2_with fail
  refine (put_lit 2147483647 2147483647 rfl (by omega) [135, 255, 255, 255, 127] 5 (by decide +kernel) (by decide +kernel) _).mono ?_
  rintro e w5 ⟨g5, k5, rfl, _, hw5, hb5⟩
  have W5 := Lib.hid hw5
  have B5 := Lib.hid hb5
  clear hw5 hb5
  go_wp2_with fail
  refine (take_lit w5 [130, 44, 9] 3 rfl (by simp [Byts]) (by omega) _ 300 [9] 0 (by decide +kernel)).mono ?_
  rintro e w6 ⟨a6, k6, rfl, hw6, hb6⟩
  have W6 := Lib.hid hw6
  have B6 := Lib.hid hb6
  clear hw6 hb6
  go_wp2_with fail
  refine (take_lit w6 [128, 5] 2 rfl (by simp [Byts]) (by omega) _ 0 [] 51 (by decide +kernel)).mono ?_
  rintro e w7 ⟨a7, k7, rfl, _, hb7⟩
  have B7 := Lib.hid hb7
  clear hb7
  go_wp2_with fail
  refine (take_lit w7 [130] 1 rfl (by simp [Byts]) (by omega) _ 0 [] 50 (by decide +kernel)).mono ?_
  rintro e w8 ⟨a8, k8, rfl, _, hb8⟩
  have B8 := Lib.hid hb8
  clear hb8
  go_wp2_with fail
  refine (take_lit w8 [136, 128, 128, 128, 0] 5 rfl (by simp [Byts]) (by omega) _ 0 [] 52 (by decide +kernel)).mono ?_
  rintro e w9 ⟨a9, k9, rfl, _, hb9⟩
  have B9 := Lib.hid hb9
  clear hb9
  go_wp2_with fail
  refine (take_lit w9 [129, 128, 128, 128, 128] 5 rfl (by simp [Byts]) (by omega) _ 0 [] 52 (by decide +kernel)).mono ?_
  rintro e w10 ⟨a10, k10, rfl, _, hb10⟩
  have B10 := Lib.hid hb10
  clear hb10
  go_wp2_with fail
  refine (step_lit 0 0 130 130 rfl (by omega) 2 1 false 0 (by rfl) _).mono ?_
  rintro e w11 ⟨rfl, hb11⟩
  have B11 := Lib.hid hb11
  clear hb11
  go_wp2_with fail
  have hv11 : TwoI (w11.alloc (.cells #[.int .i64 2, .int .i64 1] 24)) w11.heap.size 2 1 := TwoI.new _ _ _ _
  have ha11 := (Below.refl w11.heap.size w11).alloc (Nat.le_refl _) (.cells #[.int .i64 2, .int .i64 1] 24)
  obtain ⟨p, hp⟩ : ∃ p, p = w11.heap.size := ⟨_, rfl⟩
  have hpl : p < (w11.alloc (.cells #[.int .i64 2, .int .i64 1] 24)).heap.size := by simp [hp]
  rw [← hp] at hv11 ⊢
  clear hp
  generalize w11.alloc (.cells #[.int .i64 2, .int .i64 1] 24) = w11' at *
  refine (step_lit 0 1 1 1 rfl (by omega) 0 0 false 2 (by rfl) _).mono ?_
  rintro e w12 ⟨rfl, hb12⟩
  obtain ⟨X, hX⟩ : ∃ X, X = w12.alloc (.cells #[.int .i64 0, .int .i64 0] 24) := ⟨_, rfl⟩
  have x12 : Below w12.heap.size w12 X := by rw [hX]; exact (Below.refl _ _).alloc (Nat.le_refl _) _
  have x11 : Below w11.heap.size w11 X := ha11.trans ((hb12.trans (x12.mono hb12.size)).mono ha11.size)
  have x11' : Below w11'.heap.size w11' X := hb12.trans (x12.mono hb12.size)
  have x10 : Below w10.heap.size w10 X := B11.out.trans (x11.mono B11.out.size)
  have x9 : Below w9.heap.size w9 X := B10.out.trans (x10.mono B10.out.size)
  have x8 : Below w8.heap.size w8 X := B9.out.trans (x9.mono B9.out.size)
  have x7 : Below w7.heap.size w7 X := B8.out.trans (x8.mono B8.out.size)
  have x6 : Below w6.heap.size w6 X := B7.out.trans (x7.mono B7.out.size)
  have x5 : Below w5.heap.size w5 X := B6.out.trans (x6.mono B6.out.size)
  have x3 : Below w3.heap.size w3 X := B5.out.trans (x5.mono B5.out.size)
  have x2 : Below w2.heap.size w2 X := B3.out.trans (x3.mono B3.out.size)
  have x1 : Below w1.heap.size w1 X := B2.out.trans (x2.mono B2.out.size)
  have BX := Lib.hid (B1.out.trans (x1.mono B1.out.size))
  have hc1 := (W1.out.below x1).str (n := 1) rfl
  have hc2 := (W2.out.below x2).str (n := 2) rfl
  have hc3 := (W3.out.below x3).str (n := 1) rfl
  have hc5 := (W5.out.below x5).str (n := 5) rfl
  have hc6 := (W6.out.below x6).str (n := 1) rfl
  have s1 : bstr [5] = ⟨#[5]⟩ := rfl
  have s2 : bstr [130, 44] = ⟨#[130, 44]⟩ := rfl
  have s3 : bstr [0] = ⟨#[0]⟩ := rfl
  have s5 : bstr [135, 255, 255, 255, 127] = ⟨#[135, 255, 255, 255, 127]⟩ := rfl
  have s6 : bstr [9] = ⟨#[9]⟩ := rfl
  rw [s1] at hc1
  rw [s2] at hc2
  rw [s3] at hc3
  rw [s5] at hc5
  rw [s6] at hc6
  have HT := Lib.hid (hv11.on x11')
  have c0 := HT.out.c0
  have c1 := HT.out.c1
  clear x1 x2 x3 x5 x6 x7 x8 x9 x10 x11 x11' x12 s1 s2 s3 s5 s6 W1 W2 W3 W5 W6 B1 B2 B3 B5 B6 B7 B8 B9 B10 B11 hb12 ha11 hv11 hpl
  rw [hX] at hc1 hc2 hc3 hc5 hc6 c0 c1
  go_wp2_with fail
  rw [← hX] at hc1 hc2 hc3 hc5 hc6 c0 c1 ⊢
  clear hX hc1 hc2 hc3 hc5 hc6
  refine (size_lit 300 300 rfl (by omega) 2 (by decide +kernel) _).mono ?_
  rintro e w13 ⟨rfl, rfl⟩
  go_wp2_with fail
  refine (size_no (-1) X (by omega)).mono ?_
  rintro e w13 ⟨rfl, rfl⟩
  go_wp2_with fail
  refine (valid_lit 2 1 true (by decide +kernel) _).mono ?_
  rintro e w14 ⟨rfl, hb14⟩
  clear c0 c1
  go_wp2_with fail
  refine (valid_lit 1 0 false (by decide +kernel) _).mono ?_
  rintro e w15 ⟨rfl, hb15⟩
  go_wp2_with fail
  go_ret
  exact ⟨rfl, BX.out.trans ((hb14.trans (hb15.mono hb14.size)).mono BX.out.size)⟩
end Go.Proofs.Ytalkmbakglklbaa
