/- The walk over winepresslaw04.CrcMatches. -/
import Derived.Test.YtpodepplfhjdfaaCrcLP
set_option linter.unusedVariables false
set_option linter.unusedSimpArgs false
namespace Go.Proofs.Ytpodepplfhjdfaa
open Go.RowKit

/-- What comes out of Take. -/
def takeV (l : List Int) : Int := if 4 ≤ l.length then word4b l else 0
def takeB (l : List Int) : Bool := decide (4 ≤ l.length)
theorem take_call (w : World) (a : Option Addr) (n c : Nat) (l : List Int) (hl : l.length = n) (hs : Src w .u8 a l) (hby : Byts l) (h63 : n ≤ 9223372036854775807) :
    Calls Try.prog 11 #[.slice a n c] w fun e w' => e = .returned (.tuple #[.int .u32 (takeV l), .bool (takeB l)]) ∧ Below w.heap.size w w' := by
  unfold takeV takeB
  by_cases h : 4 ≤ n
  · rw [if_pos (by omega), decide_eq_true (by omega)]
    exact take_yes w a n c l hl hs hby h h63
  · rw [if_neg (by omega), decide_eq_false (by omega)]
    exact (take_no w a n c (by omega)).mono fun e w' ⟨h1, h2⟩ => ⟨h1, by subst h2; exact Below.refl _ _⟩
theorem rtake_call (w : World) (a : Option Addr) (n c : Nat) (l : List Int) (hl : l.length = n) (hs : Src w .u8 a l) (hby : Byts l) (h63 : n ≤ 9223372036854775807) :
    Calls Try.prog 12 #[.slice a n c] w fun e w' => e = .returned (.tuple #[.int .u32 (takeV l), .bool (takeB l)]) ∧ Below w.heap.size w w' := by
  unfold takeV takeB
  by_cases h : 4 ≤ n
  · rw [if_pos (by omega), decide_eq_true (by omega)]
    exact rtake_yes w a n c l hl hs hby h h63
  · rw [if_neg (by omega), decide_eq_false (by omega)]
    exact (rtake_no w a n c (by omega)).mono fun e w' ⟨h1, h2⟩ => ⟨h1, by subst h2; exact Below.refl _ _⟩

/-- Four bytes made by the call. -/
def PutP (c : Nat) (v : Value) (w : World) : Prop := ∃ g, v = .slice (some ⟨g, 0, none⟩) 4 4 ∧ w.heap[g]? = some (.cells (icells .u8 (be4 c)) 5 (0, 0))
theorem PutP.monoV (c : Nat) : MonoV (PutP c) := fun _ _ _ ⟨g, h1, h2⟩ hb => ⟨g, h1, heap_on hb h2⟩
def matJ (c x : Nat) (sp : Option Addr) (m cc g : Nat) (R S O F : Nat) (TV : Int) (TB : Bool) : List (Value → World → Prop) :=
  [eqv (.int .u8 x), eqv (.pointer (some ⟨g, x, none⟩)), eqv (.int .u32 R), eqv (.int .u8 x), eqv (.int .u32 R), eqv (.bool true), eqv (.bool true),
   eqv (.int .u32 c), eqv (.int .u8 x), eqv (.int .u32 S), eqv (.int .u32 c), eqv (.int .u8 x), eqv (.int .u32 S), eqv (.bool true), eqv (.bool true), eqv (.bool true),
   eqv (.slice sp m cc), eqv (.int .u32 O), eqv (.slice sp m cc), eqv (.int .u32 O), eqv (.bool true), eqv (.bool true), eqv (.bool true),
   eqv (.int .u32 c), eqv (.slice sp m cc), eqv (.int .u32 F), eqv (.int .u32 c), eqv (.slice sp m cc), eqv (.int .u32 F), eqv (.bool true), eqv (.bool true), eqv (.bool true),
   eqv (.int .u32 c), PutP c, eqv (.string (bstr (be4 c))), eqv (.int .u32 c), PutP c, eqv (.string (bstr (be4 c))), eqv (.bool true), eqv (.bool true), eqv (.bool true),
   eqv (.int .u32 TV), eqv (.int .u32 TV), eqv (.bool true), eqv (.bool true), eqv (.bool true),
   eqv (.bool TB), eqv (.bool TB), eqv (.bool true), eqv (.bool true), eqv (.bool true), eqv (.bool true), eqv (.bool true), eqv (.bool true)]
theorem matJ_mono {c x : Nat} {sp : Option Addr} {m cc g : Nat} {R S O F : Nat} {TV : Int} {TB : Bool} : MonoAll (matJ c x sp m cc g R S O F TV TB) := by
  repeat first | exact trivial | refine ⟨eqv_mono _, ?_⟩ | refine ⟨PutP.monoV _, ?_⟩

set_option maxRecDepth 100000 in
set_option maxHeartbeats 4000000 in
theorem match_in (c : Nat) (hc : c < 4294967296) (x : Nat) (hx : x < 256) (sp : Option Addr) (m cc : Nat) (C : List Chk) (a0 : Option Addr) (n cap0 : Nat) (w : World) (l : List Int)
    (hC : C.length = m) (hCs : CSrc w sp C) (hok : ∀ d ∈ C, OkC w d) (hm : m ≤ 9223372036854775807)
    (hl : l.length = n) (hs : Src w .u8 a0 l) (hby : Byts l) (h63 : n ≤ 9223372036854775807) :
    Calls Try.prog 3 #[.int .u32 c, .int .u8 x, .slice sp m cc, .slice a0 n cap0] w fun e w' => e = .returned (.bool true) ∧ Below w.heap.size w w' := by
  have hxi : (x : Int) < 256 := by omega
  have HC := Lib.hid hC
  have HCS := Lib.hid hCs
  have HOK := Lib.hid hok
  have HL := Lib.hid hl
  have HS := Lib.hid hs
  have HY := Lib.hid hby
  have hz := tabZ
  clear hC hCs hok hl hs hby
  go_enter Try.func3, Try.ntmps3
  go_wp2_with fail
  refine (great_call w sp m cc C HC.out HCS.out HOK.out hm).mono ?_
  rintro e w' ⟨⟨b, rfl⟩, rfl⟩
  cases b
  · by_cases h3 : 300 < n
    · have d1 : decide ((300 : Int) < (n : Int)) = true := by simp; omega
      clear hz
      go_wp2_with fail
      refine (wakes_call w).mono ?_
      rintro e w1 ⟨rfl, hb⟩
      go_wp2
      go_ret
      exact ⟨rfl, hb⟩
    · have d1 : decide ((300 : Int) < (n : Int)) = false := by simp; omega
      go_wp2_with fail
      refine (table_call w).mono ?_
      rintro e w1 ⟨rfl, hb1⟩
      have HB1 := Lib.hid hb1
      clear hb1
      go_wp2_with (refine wpList_store_row rfl 27 _ _ rfl w1.heap.size tabR rfl rfl 27 (tabRow 0) (heap_alloc_last w1 _) (by rw [tabR_size]; exact tabI) (by rw [tabRow_size, tabR_size]) (tabRow_all 256) ?_)
      rw [World.setRow_alloc_new]
      have HT := Lib.hid (heap_alloc_last w1 (.cells tabR 27))
      have HB2 := Lib.hid (HB1.out.alloc HB1.out.size (.cells tabR 27))
      obtain ⟨g, hg⟩ : ∃ g, g = w1.heap.size := ⟨_, rfl⟩
      rw [← hg] at HT ⊢
      generalize w1.alloc (.cells tabR 27) = w2 at *
      clear HB1 hg hz
      refine (take_call w2 a0 n cap0 l HL.out (HS.out.below HB2.out) HY.out h63).mono ?_
      rintro e w3 ⟨rfl, hb⟩
      have HT2 := Lib.hid (heap_on hb HT.out)
      have HB2' := Lib.hid (HB2.out.trans (hb.mono HB2.out.size))
      clear hb HT HB2
      go_wp2_with fail
      refine (rtake_call w3 a0 n cap0 l HL.out (HS.out.below HB2'.out) HY.out h63).mono ?_
      rintro e w4 ⟨rfl, hb⟩
      have HT3 := Lib.hid (heap_on hb HT2.out)
      have HB3 := Lib.hid (HB2'.out.trans (hb.mono HB2'.out.size))
      clear hb HT2 HB2'
      go_wp2_with fail
      -- REGION
      refine wp_region_inv (J := Js (matJ c x sp m cc g (crcRow x) (crcStep c x) (crcFeed 0 (joinC C)) (crcFeed c (joinC C)) (takeV l) (takeB l))) (ds := [33, 34, 35, 36, 37, 38, 39, 40, 41, 42, 43, 44, 45, 46, 47, 48, 49, 50, 51, 52, 53, 54, 55, 56, 57, 58, 59, 60, 61, 62, 63, 64, 65, 66, 67, 68, 69, 70, 71, 72, 73, 74, 75, 76, 77, 78, 79, 80, 81, 82, 83, 84, 85, 8]) (N := 86)
        (B := [(0, .int .u32 c), (1, .int .u8 x), (2, .slice sp m cc), (9, .pointer (some ⟨g, 0, none⟩)), (10, .int .u32 (takeV l)), (11, .bool (takeB l)), (12, .int .u32 (takeV l)), (13, .bool (takeB l))]) (by kernel_rfl) (by kernel_rfl) (Js_mono matJ_mono) rfl rfl (by simp) ?_ ?_
      · refine ⟨?_, ?_, ?_, ?_, ?_, ?_, ?_, ?_, ?_, ?_, ?_, ?_, ?_, ?_, ?_, ?_, ?_, ?_, ?_, ?_, ?_, ?_, ?_, ?_, ?_, ?_, ?_, ?_, ?_, ?_, ?_, ?_, ?_, ?_, ?_, ?_, ?_, ?_, ?_, ?_, ?_, ?_, ?_, ?_, ?_, ?_, ?_, ?_, ?_, ?_, ?_, ?_, ?_, ?_, trivial⟩
        · intro a w' hb hdep K hK
          have c1 := hb.at 1 1 _ rfl
          clear hdep
          go_simp
          exact hK _ _ rfl (Below.refl _ _)
        · intro a w' hb hdep K hK
          have c9 := hb.at 3 9 _ rfl
          obtain ⟨v0, e0, j0⟩ := hdep 0 (by kernel_rfl)
          replace e0 : a.tmps[33]? = some v0 := e0
          obtain rfl : v0 = _ := j0
          clear hdep
          go_simp
          exact hK _ _ rfl (Below.refl _ _)
        · intro a w' hb hdep K hK
          obtain ⟨v1, e1, j1⟩ := hdep 1 (by kernel_rfl)
          replace e1 : a.tmps[34]? = some v1 := e1
          obtain rfl : v1 = _ := j1
          have hcx := (tab_cell (heap_on hb.bel HT3.out) x hx)
          clear hdep
          go_simp
          exact hK _ _ rfl (Below.refl _ _)
        · intro a w' hb hdep K hK
          have c1 := hb.at 1 1 _ rfl
          clear hdep
          go_simp
          exact hK _ _ rfl (Below.refl _ _)
        · intro a w' hb hdep K hK
          obtain ⟨v3, e3, j3⟩ := hdep 3 (by kernel_rfl)
          replace e3 : a.tmps[36]? = some v3 := e3
          obtain rfl : v3 = _ := j3
          clear hdep
          go_simp
          go_at_call 13
          refine (row_call x hx w').mono ?_
          rintro e w2 ⟨rfl, rfl⟩
          exact hK _ _ rfl (Below.refl _ _)
        · intro a w' hb hdep K hK
          obtain ⟨v2, e2, j2⟩ := hdep 2 (by kernel_rfl)
          replace e2 : a.tmps[35]? = some v2 := e2
          obtain rfl : v2 = _ := j2
          obtain ⟨v4, e4, j4⟩ := hdep 4 (by kernel_rfl)
          replace e4 : a.tmps[37]? = some v4 := e4
          obtain rfl : v4 = _ := j4
          clear hdep
          go_simp
          exact hK _ _ rfl (Below.refl _ _)
        · intro a w' hb hdep K hK
          obtain ⟨v5, e5, j5⟩ := hdep 5 (by kernel_rfl)
          replace e5 : a.tmps[38]? = some v5 := e5
          obtain rfl : v5 = _ := j5
          clear hdep
          go_simp
          exact hK _ _ rfl (Below.refl _ _)
        · intro a w' hb hdep K hK
          have c0 := hb.at 0 0 _ rfl
          obtain ⟨v6, e6, j6⟩ := hdep 6 (by kernel_rfl)
          replace e6 : a.tmps[39]? = some v6 := e6
          obtain rfl : v6 = _ := j6
          clear hdep
          go_simp
          exact hK _ _ rfl (Below.refl _ _)
        · intro a w' hb hdep K hK
          have c1 := hb.at 1 1 _ rfl
          obtain ⟨v6, e6, j6⟩ := hdep 6 (by kernel_rfl)
          replace e6 : a.tmps[39]? = some v6 := e6
          obtain rfl : v6 = _ := j6
          clear hdep
          go_simp
          exact hK _ _ rfl (Below.refl _ _)
        · intro a w' hb hdep K hK
          obtain ⟨v7, e7, j7⟩ := hdep 7 (by kernel_rfl)
          replace e7 : a.tmps[40]? = some v7 := e7
          obtain rfl : v7 = _ := j7
          obtain ⟨v8, e8, j8⟩ := hdep 8 (by kernel_rfl)
          replace e8 : a.tmps[41]? = some v8 := e8
          obtain rfl : v8 = _ := j8
          obtain ⟨v6, e6, j6⟩ := hdep 6 (by kernel_rfl)
          replace e6 : a.tmps[39]? = some v6 := e6
          obtain rfl : v6 = _ := j6
          clear hdep
          go_simp
          go_at_call 14
          refine (step_call c x hc hx w').mono ?_
          rintro e w2 ⟨rfl, rfl⟩
          exact hK _ _ rfl (Below.refl _ _)
        · intro a w' hb hdep K hK
          have c0 := hb.at 0 0 _ rfl
          obtain ⟨v6, e6, j6⟩ := hdep 6 (by kernel_rfl)
          replace e6 : a.tmps[39]? = some v6 := e6
          obtain rfl : v6 = _ := j6
          clear hdep
          go_simp
          exact hK _ _ rfl (Below.refl _ _)
        · intro a w' hb hdep K hK
          have c1 := hb.at 1 1 _ rfl
          obtain ⟨v6, e6, j6⟩ := hdep 6 (by kernel_rfl)
          replace e6 : a.tmps[39]? = some v6 := e6
          obtain rfl : v6 = _ := j6
          clear hdep
          go_simp
          exact hK _ _ rfl (Below.refl _ _)
        · intro a w' hb hdep K hK
          obtain ⟨v10, e10, j10⟩ := hdep 10 (by kernel_rfl)
          replace e10 : a.tmps[43]? = some v10 := e10
          obtain rfl : v10 = _ := j10
          obtain ⟨v11, e11, j11⟩ := hdep 11 (by kernel_rfl)
          replace e11 : a.tmps[44]? = some v11 := e11
          obtain rfl : v11 = _ := j11
          obtain ⟨v6, e6, j6⟩ := hdep 6 (by kernel_rfl)
          replace e6 : a.tmps[39]? = some v6 := e6
          obtain rfl : v6 = _ := j6
          clear hdep
          go_simp
          go_at_call 15
          refine (rstep_call c x hc hx w').mono ?_
          rintro e w2 ⟨rfl, rfl⟩
          exact hK _ _ rfl (Below.refl _ _)
        · intro a w' hb hdep K hK
          obtain ⟨v9, e9, j9⟩ := hdep 9 (by kernel_rfl)
          replace e9 : a.tmps[42]? = some v9 := e9
          obtain rfl : v9 = _ := j9
          obtain ⟨v12, e12, j12⟩ := hdep 12 (by kernel_rfl)
          replace e12 : a.tmps[45]? = some v12 := e12
          obtain rfl : v12 = _ := j12
          obtain ⟨v6, e6, j6⟩ := hdep 6 (by kernel_rfl)
          replace e6 : a.tmps[39]? = some v6 := e6
          obtain rfl : v6 = _ := j6
          clear hdep
          go_simp
          exact hK _ _ rfl (Below.refl _ _)
        · intro a w' hb hdep K hK
          obtain ⟨v6, e6, j6⟩ := hdep 6 (by kernel_rfl)
          replace e6 : a.tmps[39]? = some v6 := e6
          obtain rfl : v6 = _ := j6
          obtain ⟨v13, e13, j13⟩ := hdep 13 (by kernel_rfl)
          replace e13 : a.tmps[46]? = some v13 := e13
          obtain rfl : v13 = _ := j13
          clear hdep
          go_simp
          exact hK _ _ rfl (Below.refl _ _)
        · intro a w' hb hdep K hK
          obtain ⟨v14, e14, j14⟩ := hdep 14 (by kernel_rfl)
          replace e14 : a.tmps[47]? = some v14 := e14
          obtain rfl : v14 = _ := j14
          clear hdep
          go_simp
          exact hK _ _ rfl (Below.refl _ _)
        · intro a w' hb hdep K hK
          have c2 := hb.at 2 2 _ rfl
          obtain ⟨v15, e15, j15⟩ := hdep 15 (by kernel_rfl)
          replace e15 : a.tmps[48]? = some v15 := e15
          obtain rfl : v15 = _ := j15
          clear hdep
          go_simp
          exact hK _ _ rfl (Below.refl _ _)
        · intro a w' hb hdep K hK
          obtain ⟨v16, e16, j16⟩ := hdep 16 (by kernel_rfl)
          replace e16 : a.tmps[49]? = some v16 := e16
          obtain rfl : v16 = _ := j16
          obtain ⟨v15, e15, j15⟩ := hdep 15 (by kernel_rfl)
          replace e15 : a.tmps[48]? = some v15 := e15
          obtain rfl : v15 = _ := j15
          clear hdep
          go_simp
          go_at_call 16
          refine (of_call w' sp m cc C HC.out (HCS.out.below (HB3.out.trans (hb.bel.mono HB3.out.size))) (fun d hd => (HOK.out d hd).below (HB3.out.trans (hb.bel.mono HB3.out.size))) hm).mono ?_
          rintro e w2 ⟨rfl, hb2⟩
          exact hK _ _ rfl hb2
        · intro a w' hb hdep K hK
          have c2 := hb.at 2 2 _ rfl
          obtain ⟨v15, e15, j15⟩ := hdep 15 (by kernel_rfl)
          replace e15 : a.tmps[48]? = some v15 := e15
          obtain rfl : v15 = _ := j15
          clear hdep
          go_simp
          exact hK _ _ rfl (Below.refl _ _)
        · intro a w' hb hdep K hK
          obtain ⟨v18, e18, j18⟩ := hdep 18 (by kernel_rfl)
          replace e18 : a.tmps[51]? = some v18 := e18
          obtain rfl : v18 = _ := j18
          obtain ⟨v15, e15, j15⟩ := hdep 15 (by kernel_rfl)
          replace e15 : a.tmps[48]? = some v15 := e15
          obtain rfl : v15 = _ := j15
          clear hdep
          go_simp
          go_at_call 17
          refine (rof_call w' sp m cc C HC.out (HCS.out.below (HB3.out.trans (hb.bel.mono HB3.out.size))) (fun d hd => (HOK.out d hd).below (HB3.out.trans (hb.bel.mono HB3.out.size))) hm).mono ?_
          rintro e w2 ⟨rfl, rfl⟩
          exact hK _ _ rfl (Below.refl _ _)
        · intro a w' hb hdep K hK
          obtain ⟨v17, e17, j17⟩ := hdep 17 (by kernel_rfl)
          replace e17 : a.tmps[50]? = some v17 := e17
          obtain rfl : v17 = _ := j17
          obtain ⟨v19, e19, j19⟩ := hdep 19 (by kernel_rfl)
          replace e19 : a.tmps[52]? = some v19 := e19
          obtain rfl : v19 = _ := j19
          obtain ⟨v15, e15, j15⟩ := hdep 15 (by kernel_rfl)
          replace e15 : a.tmps[48]? = some v15 := e15
          obtain rfl : v15 = _ := j15
          clear hdep
          go_simp
          exact hK _ _ rfl (Below.refl _ _)
        · intro a w' hb hdep K hK
          obtain ⟨v15, e15, j15⟩ := hdep 15 (by kernel_rfl)
          replace e15 : a.tmps[48]? = some v15 := e15
          obtain rfl : v15 = _ := j15
          obtain ⟨v20, e20, j20⟩ := hdep 20 (by kernel_rfl)
          replace e20 : a.tmps[53]? = some v20 := e20
          obtain rfl : v20 = _ := j20
          clear hdep
          go_simp
          exact hK _ _ rfl (Below.refl _ _)
        · intro a w' hb hdep K hK
          obtain ⟨v21, e21, j21⟩ := hdep 21 (by kernel_rfl)
          replace e21 : a.tmps[54]? = some v21 := e21
          obtain rfl : v21 = _ := j21
          clear hdep
          go_simp
          exact hK _ _ rfl (Below.refl _ _)
        · intro a w' hb hdep K hK
          have c0 := hb.at 0 0 _ rfl
          obtain ⟨v22, e22, j22⟩ := hdep 22 (by kernel_rfl)
          replace e22 : a.tmps[55]? = some v22 := e22
          obtain rfl : v22 = _ := j22
          clear hdep
          go_simp
          exact hK _ _ rfl (Below.refl _ _)
        · intro a w' hb hdep K hK
          have c2 := hb.at 2 2 _ rfl
          obtain ⟨v22, e22, j22⟩ := hdep 22 (by kernel_rfl)
          replace e22 : a.tmps[55]? = some v22 := e22
          obtain rfl : v22 = _ := j22
          clear hdep
          go_simp
          exact hK _ _ rfl (Below.refl _ _)
        · intro a w' hb hdep K hK
          obtain ⟨v23, e23, j23⟩ := hdep 23 (by kernel_rfl)
          replace e23 : a.tmps[56]? = some v23 := e23
          obtain rfl : v23 = _ := j23
          obtain ⟨v24, e24, j24⟩ := hdep 24 (by kernel_rfl)
          replace e24 : a.tmps[57]? = some v24 := e24
          obtain rfl : v24 = _ := j24
          obtain ⟨v22, e22, j22⟩ := hdep 22 (by kernel_rfl)
          replace e22 : a.tmps[55]? = some v22 := e22
          obtain rfl : v22 = _ := j22
          clear hdep
          go_simp
          go_at_call 18
          refine (feed_call c hc w' sp m cc C HC.out (HCS.out.below (HB3.out.trans (hb.bel.mono HB3.out.size))) (fun d hd => (HOK.out d hd).below (HB3.out.trans (hb.bel.mono HB3.out.size))) hm).mono ?_
          rintro e w2 ⟨rfl, hb2⟩
          exact hK _ _ rfl hb2
        · intro a w' hb hdep K hK
          have c0 := hb.at 0 0 _ rfl
          obtain ⟨v22, e22, j22⟩ := hdep 22 (by kernel_rfl)
          replace e22 : a.tmps[55]? = some v22 := e22
          obtain rfl : v22 = _ := j22
          clear hdep
          go_simp
          exact hK _ _ rfl (Below.refl _ _)
        · intro a w' hb hdep K hK
          have c2 := hb.at 2 2 _ rfl
          obtain ⟨v22, e22, j22⟩ := hdep 22 (by kernel_rfl)
          replace e22 : a.tmps[55]? = some v22 := e22
          obtain rfl : v22 = _ := j22
          clear hdep
          go_simp
          exact hK _ _ rfl (Below.refl _ _)
        · intro a w' hb hdep K hK
          obtain ⟨v26, e26, j26⟩ := hdep 26 (by kernel_rfl)
          replace e26 : a.tmps[59]? = some v26 := e26
          obtain rfl : v26 = _ := j26
          obtain ⟨v27, e27, j27⟩ := hdep 27 (by kernel_rfl)
          replace e27 : a.tmps[60]? = some v27 := e27
          obtain rfl : v27 = _ := j27
          obtain ⟨v22, e22, j22⟩ := hdep 22 (by kernel_rfl)
          replace e22 : a.tmps[55]? = some v22 := e22
          obtain rfl : v22 = _ := j22
          clear hdep
          go_simp
          go_at_call 19
          refine (rfeed_call c hc w' sp m cc C HC.out (HCS.out.below (HB3.out.trans (hb.bel.mono HB3.out.size))) (fun d hd => (HOK.out d hd).below (HB3.out.trans (hb.bel.mono HB3.out.size))) hm).mono ?_
          rintro e w2 ⟨rfl, rfl⟩
          exact hK _ _ rfl (Below.refl _ _)
        · intro a w' hb hdep K hK
          obtain ⟨v25, e25, j25⟩ := hdep 25 (by kernel_rfl)
          replace e25 : a.tmps[58]? = some v25 := e25
          obtain rfl : v25 = _ := j25
          obtain ⟨v28, e28, j28⟩ := hdep 28 (by kernel_rfl)
          replace e28 : a.tmps[61]? = some v28 := e28
          obtain rfl : v28 = _ := j28
          obtain ⟨v22, e22, j22⟩ := hdep 22 (by kernel_rfl)
          replace e22 : a.tmps[55]? = some v22 := e22
          obtain rfl : v22 = _ := j22
          clear hdep
          go_simp
          exact hK _ _ rfl (Below.refl _ _)
        · intro a w' hb hdep K hK
          obtain ⟨v22, e22, j22⟩ := hdep 22 (by kernel_rfl)
          replace e22 : a.tmps[55]? = some v22 := e22
          obtain rfl : v22 = _ := j22
          obtain ⟨v29, e29, j29⟩ := hdep 29 (by kernel_rfl)
          replace e29 : a.tmps[62]? = some v29 := e29
          obtain rfl : v29 = _ := j29
          clear hdep
          go_simp
          exact hK _ _ rfl (Below.refl _ _)
        · intro a w' hb hdep K hK
          obtain ⟨v30, e30, j30⟩ := hdep 30 (by kernel_rfl)
          replace e30 : a.tmps[63]? = some v30 := e30
          obtain rfl : v30 = _ := j30
          clear hdep
          go_simp
          exact hK _ _ rfl (Below.refl _ _)
        · intro a w' hb hdep K hK
          have c0 := hb.at 0 0 _ rfl
          obtain ⟨v31, e31, j31⟩ := hdep 31 (by kernel_rfl)
          replace e31 : a.tmps[64]? = some v31 := e31
          obtain rfl : v31 = _ := j31
          clear hdep
          go_simp
          exact hK _ _ rfl (Below.refl _ _)
        · intro a w' hb hdep K hK
          obtain ⟨v32, e32, j32⟩ := hdep 32 (by kernel_rfl)
          replace e32 : a.tmps[65]? = some v32 := e32
          obtain rfl : v32 = _ := j32
          obtain ⟨v31, e31, j31⟩ := hdep 31 (by kernel_rfl)
          replace e31 : a.tmps[64]? = some v31 := e31
          obtain rfl : v31 = _ := j31
          clear hdep
          go_simp
          go_at_call 20
          refine (put_call c hc w').mono ?_
          rintro e w2 ⟨rfl, rfl⟩
          exact hK _ _ ⟨_, rfl, heap_alloc_last w' _⟩ ((Below.refl _ _).alloc (Nat.le_refl _) _)
        · intro a w' hb hdep K hK
          obtain ⟨v33, e33, j33⟩ := hdep 33 (by kernel_rfl)
          replace e33 : a.tmps[66]? = some v33 := e33
          obtain ⟨v31, e31, j31⟩ := hdep 31 (by kernel_rfl)
          replace e31 : a.tmps[64]? = some v31 := e31
          obtain rfl : v31 = _ := j31
          obtain ⟨g2, rfl, hg2⟩ := j33
          have hcv := run_bstr Try.underlying24 Try.underlying5 Try.underlying9 w' (some ⟨g2, 0, none⟩) 4 4 (be4 c) rfl (Src.whole hg2)
          clear hg2
          clear hdep
          go_simp
          exact hK _ _ rfl (Below.refl _ _)
        · intro a w' hb hdep K hK
          have c0 := hb.at 0 0 _ rfl
          obtain ⟨v31, e31, j31⟩ := hdep 31 (by kernel_rfl)
          replace e31 : a.tmps[64]? = some v31 := e31
          obtain rfl : v31 = _ := j31
          clear hdep
          go_simp
          exact hK _ _ rfl (Below.refl _ _)
        · intro a w' hb hdep K hK
          obtain ⟨v35, e35, j35⟩ := hdep 35 (by kernel_rfl)
          replace e35 : a.tmps[68]? = some v35 := e35
          obtain rfl : v35 = _ := j35
          obtain ⟨v31, e31, j31⟩ := hdep 31 (by kernel_rfl)
          replace e31 : a.tmps[64]? = some v31 := e31
          obtain rfl : v31 = _ := j31
          clear hdep
          go_simp
          go_at_call 21
          refine (rput_call c hc w').mono ?_
          rintro e w2 ⟨rfl, rfl⟩
          exact hK _ _ ⟨_, rfl, heap_alloc_last w' _⟩ ((Below.refl _ _).alloc (Nat.le_refl _) _)
        · intro a w' hb hdep K hK
          obtain ⟨v36, e36, j36⟩ := hdep 36 (by kernel_rfl)
          replace e36 : a.tmps[69]? = some v36 := e36
          obtain ⟨v31, e31, j31⟩ := hdep 31 (by kernel_rfl)
          replace e31 : a.tmps[64]? = some v31 := e31
          obtain rfl : v31 = _ := j31
          obtain ⟨g2, rfl, hg2⟩ := j36
          have hcv := run_bstr Try.underlying24 Try.underlying5 Try.underlying9 w' (some ⟨g2, 0, none⟩) 4 4 (be4 c) rfl (Src.whole hg2)
          clear hg2
          clear hdep
          go_simp
          exact hK _ _ rfl (Below.refl _ _)
        · intro a w' hb hdep K hK
          obtain ⟨v34, e34, j34⟩ := hdep 34 (by kernel_rfl)
          replace e34 : a.tmps[67]? = some v34 := e34
          obtain rfl : v34 = _ := j34
          obtain ⟨v37, e37, j37⟩ := hdep 37 (by kernel_rfl)
          replace e37 : a.tmps[70]? = some v37 := e37
          obtain rfl : v37 = _ := j37
          obtain ⟨v31, e31, j31⟩ := hdep 31 (by kernel_rfl)
          replace e31 : a.tmps[64]? = some v31 := e31
          obtain rfl : v31 = _ := j31
          clear hdep
          go_simp
          exact hK _ _ rfl (Below.refl _ _)
        · intro a w' hb hdep K hK
          obtain ⟨v31, e31, j31⟩ := hdep 31 (by kernel_rfl)
          replace e31 : a.tmps[64]? = some v31 := e31
          obtain rfl : v31 = _ := j31
          obtain ⟨v38, e38, j38⟩ := hdep 38 (by kernel_rfl)
          replace e38 : a.tmps[71]? = some v38 := e38
          obtain rfl : v38 = _ := j38
          clear hdep
          go_simp
          exact hK _ _ rfl (Below.refl _ _)
        · intro a w' hb hdep K hK
          obtain ⟨v39, e39, j39⟩ := hdep 39 (by kernel_rfl)
          replace e39 : a.tmps[72]? = some v39 := e39
          obtain rfl : v39 = _ := j39
          clear hdep
          go_simp
          exact hK _ _ rfl (Below.refl _ _)
        · intro a w' hb hdep K hK
          have c10 := hb.at 4 10 _ rfl
          obtain ⟨v40, e40, j40⟩ := hdep 40 (by kernel_rfl)
          replace e40 : a.tmps[73]? = some v40 := e40
          obtain rfl : v40 = _ := j40
          clear hdep
          go_simp
          exact hK _ _ rfl (Below.refl _ _)
        · intro a w' hb hdep K hK
          have c12 := hb.at 6 12 _ rfl
          obtain ⟨v40, e40, j40⟩ := hdep 40 (by kernel_rfl)
          replace e40 : a.tmps[73]? = some v40 := e40
          obtain rfl : v40 = _ := j40
          clear hdep
          go_simp
          exact hK _ _ rfl (Below.refl _ _)
        · intro a w' hb hdep K hK
          obtain ⟨v41, e41, j41⟩ := hdep 41 (by kernel_rfl)
          replace e41 : a.tmps[74]? = some v41 := e41
          obtain rfl : v41 = _ := j41
          obtain ⟨v42, e42, j42⟩ := hdep 42 (by kernel_rfl)
          replace e42 : a.tmps[75]? = some v42 := e42
          obtain rfl : v42 = _ := j42
          obtain ⟨v40, e40, j40⟩ := hdep 40 (by kernel_rfl)
          replace e40 : a.tmps[73]? = some v40 := e40
          obtain rfl : v40 = _ := j40
          clear hdep
          go_simp
          exact hK _ _ rfl (Below.refl _ _)
        · intro a w' hb hdep K hK
          obtain ⟨v40, e40, j40⟩ := hdep 40 (by kernel_rfl)
          replace e40 : a.tmps[73]? = some v40 := e40
          obtain rfl : v40 = _ := j40
          obtain ⟨v43, e43, j43⟩ := hdep 43 (by kernel_rfl)
          replace e43 : a.tmps[76]? = some v43 := e43
          obtain rfl : v43 = _ := j43
          clear hdep
          go_simp
          exact hK _ _ rfl (Below.refl _ _)
        · intro a w' hb hdep K hK
          obtain ⟨v44, e44, j44⟩ := hdep 44 (by kernel_rfl)
          replace e44 : a.tmps[77]? = some v44 := e44
          obtain rfl : v44 = _ := j44
          clear hdep
          go_simp
          exact hK _ _ rfl (Below.refl _ _)
        · intro a w' hb hdep K hK
          have c11 := hb.at 5 11 _ rfl
          obtain ⟨v45, e45, j45⟩ := hdep 45 (by kernel_rfl)
          replace e45 : a.tmps[78]? = some v45 := e45
          obtain rfl : v45 = _ := j45
          clear hdep
          go_simp
          exact hK _ _ rfl (Below.refl _ _)
        · intro a w' hb hdep K hK
          have c13 := hb.at 7 13 _ rfl
          obtain ⟨v45, e45, j45⟩ := hdep 45 (by kernel_rfl)
          replace e45 : a.tmps[78]? = some v45 := e45
          obtain rfl : v45 = _ := j45
          clear hdep
          go_simp
          exact hK _ _ rfl (Below.refl _ _)
        · intro a w' hb hdep K hK
          obtain ⟨v46, e46, j46⟩ := hdep 46 (by kernel_rfl)
          replace e46 : a.tmps[79]? = some v46 := e46
          obtain rfl : v46 = _ := j46
          obtain ⟨v47, e47, j47⟩ := hdep 47 (by kernel_rfl)
          replace e47 : a.tmps[80]? = some v47 := e47
          obtain rfl : v47 = _ := j47
          obtain ⟨v45, e45, j45⟩ := hdep 45 (by kernel_rfl)
          replace e45 : a.tmps[78]? = some v45 := e45
          obtain rfl : v45 = _ := j45
          clear hdep
          go_simp
          exact hK _ _ rfl (Below.refl _ _)
        · intro a w' hb hdep K hK
          obtain ⟨v45, e45, j45⟩ := hdep 45 (by kernel_rfl)
          replace e45 : a.tmps[78]? = some v45 := e45
          obtain rfl : v45 = _ := j45
          obtain ⟨v48, e48, j48⟩ := hdep 48 (by kernel_rfl)
          replace e48 : a.tmps[81]? = some v48 := e48
          obtain rfl : v48 = _ := j48
          clear hdep
          go_simp
          exact hK _ _ rfl (Below.refl _ _)
        · intro a w' hb hdep K hK
          obtain ⟨v49, e49, j49⟩ := hdep 49 (by kernel_rfl)
          replace e49 : a.tmps[82]? = some v49 := e49
          obtain rfl : v49 = _ := j49
          clear hdep
          go_simp
          exact hK _ _ rfl (Below.refl _ _)
        · intro a w' hb hdep K hK
          obtain ⟨v50, e50, j50⟩ := hdep 50 (by kernel_rfl)
          replace e50 : a.tmps[83]? = some v50 := e50
          obtain rfl : v50 = _ := j50
          clear hdep
          go_simp
          go_at_call 9
          refine (wakes_call w').mono ?_
          rintro e w2 ⟨rfl, hb2⟩
          exact hK _ _ rfl hb2
        · intro a w' hb hdep K hK
          obtain ⟨v50, e50, j50⟩ := hdep 50 (by kernel_rfl)
          replace e50 : a.tmps[83]? = some v50 := e50
          obtain rfl : v50 = _ := j50
          obtain ⟨v51, e51, j51⟩ := hdep 51 (by kernel_rfl)
          replace e51 : a.tmps[84]? = some v51 := e51
          obtain rfl : v51 = _ := j51
          clear hdep
          go_simp
          exact hK _ _ rfl (Below.refl _ _)
        · intro a w' hb hdep K hK
          obtain ⟨v52, e52, j52⟩ := hdep 52 (by kernel_rfl)
          replace e52 : a.tmps[85]? = some v52 := e52
          obtain rfl : v52 = _ := j52
          clear hdep
          go_simp
          exact hK _ _ rfl (Below.refl _ _)
      · intro a w' hb hall
        obtain ⟨v, h6, hv⟩ := hall 53 (by decide)
        obtain rfl : v = .bool true := hv
        have HBB := Lib.hid (HB3.out.trans (hb.bel.mono HB3.out.size))
        have hd := hb.defers
        clear hall hb
        go_wp2
        replace h6 : a.tmps[8]? = some (.bool true) := h6
        exact bodyPost_ret (v := .bool true) (by simp [results, Try.results3, go_sem, h6]) hd ⟨rfl, HBB.out⟩
      -- END REGION
  · clear hz
    go_wp2_with fail
    refine (wakes_call w).mono ?_
    rintro e w1 ⟨rfl, hb⟩
    go_wp2
    go_ret
    exact ⟨rfl, hb⟩

theorem match_law (c : Int) (wc : (Lit.int .u32 c).wf = true) (x : Int) (wx : (Lit.int .u8 x).wf = true) (sp : Option Addr) (m cc : Nat) (C : List Chk) (a0 : Option Addr) (len0 cap0 : Nat) (z0 : List Int) (w : World)
    (hC : C.length = m) (hCs : CSrc w sp C) (hok : ∀ d ∈ C, OkC w d) (hmc : m ≤ cc) (hcm : cc ≤ maxLen) (h0 : IsRow .u8 w a0 len0 cap0 z0) :
    Calls Try.prog 3 #[.int .u32 c, .int .u8 x, .slice sp m cc, .slice a0 len0 cap0] w fun e w' => e = .returned (.bool true) ∧ Below w.heap.size w w' := by
  obtain ⟨hl, hs, hwf, h63, hlc⟩ := h0.src
  have hcb := bounds_u32 wc
  have hxb := bounds_u8 wx
  obtain ⟨c, rfl⟩ := Int.eq_ofNat_of_zero_le hcb.1
  obtain ⟨x, rfl⟩ := Int.eq_ofNat_of_zero_le hxb.1
  exact match_in c (by omega) x (by omega) sp m cc C a0 len0 cap0 w (z0.take len0) hC hCs hok (by unfold maxLen at hcm; omega) hl hs (Byts.of_wf hwf) h63
end Go.Proofs.Ytpodepplfhjdfaa
