/- wakes. -/
import Derived.Test.YtlbgnichgjancaaRkM
import Derived.Test.YtlbgnichgjancaaDif
import Derived.Test.YtlbgnichgjancaaIn
import Derived.Test.YtlbgnichgjancaaHgB
set_option linter.unusedVariables false
set_option linter.unusedSimpArgs false
namespace Go.Proofs.Ytlbgnichgjancaa
open Go.RowKit

theorem pdqOk3 : PdqOk 3 := pdqOk_few 3 (by omega)
def tA : List Int := addV zT [3, 1, 3, 257]
def tO : List Int := addV tA [1, 1]
def tN : List Int := zT.set 0 (-1)
theorem tA_tal : Tal tA := addV_tal zT_tal _ (by simp)
theorem tO_tal : Tal tO := addV_tal tA_tal _ (by simp)
theorem tN_tal : Tal tN := zT_tal.set 0 (-1) (by decide)
theorem wk_e : addE zT [3, 1, 3, 257] = 0 ∧ addE zT [258] = 2 ∧ addE tA [1, 1] = 0 ∧ addE tN [] = 2 := by decide +kernel
theorem wk_g : tA.getD 3 0 = 2 ∧ tA.getD 1 0 = 1 ∧ tA.getD 257 0 = 1 ∧ tA.getD 0 0 = 0 ∧ tO.getD 1 0 = 3 := by decide +kernel
theorem wk_s : sumV tA = 4 ∧ usedV tA = [1, 3, 257] ∧ rankV tA = [1, 257, 3] := by decide +kernel
theorem wk_d : dst [tA, tO, tA] = [tA, tO] ∧ decide (VT tA) = true ∧ decide (VT tN) = false := by decide +kernel

/-- A tally in a new box. -/
theorem box_new (w : World) {l : List Int} (h : Tal l) :
    ((w.alloc (.cells (tl zT) 23)).setRow w.heap.size (tl l)) = w.alloc (.cells (tl l) 23) := World.setRow_alloc_new _ _ _ _
theorem below_al (w : World) (o : Obj) : Below w.heap.size w (w.alloc o) := (Below.refl _ _).alloc (Nat.le_refl _) o
theorem src_lit (w : World) (l : List Int) : Src (w.alloc (.cells (icells .i64 l) 3)) .i64 (some ⟨w.heap.size, 0, none⟩) l := .inr ⟨w.heap.size, 0, rfl, fun j hj => by
  simp only [World.cell?, heap_alloc_last, Nat.zero_add, icells_get]
  simp [List.getD_eq_getElem?_getD, hj]⟩
theorem of_at_lit (l : List Int) (hl : l.length ≤ 1000000) (w : World) :
    Calls Try.prog 8 #[.slice (some ⟨w.heap.size, 0, none⟩) l.length l.length] (w.alloc (.cells (icells .i64 l) 3)) fun e w' => e = .returned (.tuple #[.agg (tl (addV zT l)), .int .i64 (addE zT l)]) ∧ Below w.heap.size w w' := by
  refine (of_call _ l.length l.length l _ rfl (src_lit w l) hl).mono ?_
  rintro e w' ⟨rfl, hb⟩
  exact ⟨rfl, (below_al w _).trans (hb.mono (by simp))⟩
theorem add_at_lit (t l : List Int) (ht : Tal t) (hl : l.length ≤ 1000000) (w : World) :
    Calls Try.prog 10 #[.agg (tl t), .slice (some ⟨w.heap.size, 0, none⟩) l.length l.length] (w.alloc (.cells (icells .i64 l) 3)) fun e w' => e = .returned (.tuple #[.agg (tl (addV t l)), .int .i64 (addE t l)]) ∧ Below w.heap.size w w' := by
  refine (add_call t ht _ l.length l.length l _ rfl (src_lit w l) hl).mono ?_
  rintro e w' ⟨rfl, hb⟩
  exact ⟨rfl, (below_al w _).trans (hb.mono (by simp))⟩
theorem ints_at_lit (l : List Int) (hl : l.length ≤ 1000000) (a : Option Addr) (c : Nat) (w : World) (hs : Src w .i64 a l) :
    Calls Try.prog 16 #[.slice a l.length c, .slice (some ⟨w.heap.size, 0, none⟩) l.length l.length] (w.alloc (.cells (icells .i64 l) 3)) fun e w' => e = .returned (.bool true) ∧ Below w.heap.size w w' := by
  refine (ints_call _ _ l.length l.length c l.length l l _ rfl rfl (hs.below (below_al w _)) (src_lit w l) hl hl).mono ?_
  rintro e w' ⟨rfl, hb⟩
  exact ⟨by rw [decide_eq_true rfl], (below_al w _).trans (hb.mono (by simp))⟩
theorem built_N : Try.prog.built 23 [(0, .int .i64 (-1))] = some (tl tN) := by kernel_rfl
theorem wk_errs (w : World) : Calls Try.prog 10 #[.agg (tl tN), .slice none 0 0] w fun e w' => e = .returned (.tuple #[.agg (tl (addV tN [])), .int .i64 2]) ∧ Below w.heap.size w w' := by
  have h := add_call tN tN_tal none 0 0 [] w rfl (.inl rfl) (by omega)
  rw [wk_e.2.2.2] at h
  exact h

set_option maxRecDepth 100000 in
set_option maxHeartbeats 4000000 in
theorem wakes_call (w : World) : Calls Try.prog 7 #[] w fun e w' => e = .returned (.bool true) ∧ Below w.heap.size w w' := by
  have hof := fun w => of_at_lit [3, 1, 3, 257] (by simp) w
  have hof2 := fun w => of_at_lit [258] (by simp) w
  have had := fun w => add_at_lit tA [1, 1] tA_tal (by simp) w
  have hae := wk_errs
  have hsu := fun w => sum_call tA tA_tal w
  have hus := fun w => used_call tA tA_tal w
  have hra := fun w => ranksV_call tA tA_tal (by rw [wk_s.2.1]; exact pdqOk3) w
  have hva := fun w => valid_call tA tA_tal w
  have hvn := fun w => valid_call tN tN_tal w
  have hB := addV_tal zT_tal [258] (by simp)
  have hC := addV_tal tN_tal [] (by simp)
  have hA := tA_tal
  have hO := tO_tal
  obtain ⟨g3, g1, g257, g0, o1⟩ := wk_g
  have a3 := fun (w' : World) (g : Nat) (hg : w'.heap[g]? = some (.cells (tl tA) 23 (0, 0))) => g3 ▸ tl_cell hg tA_tal 3 (by omega)
  have a1 := fun (w' : World) (g : Nat) (hg : w'.heap[g]? = some (.cells (tl tA) 23 (0, 0))) => g1 ▸ tl_cell hg tA_tal 1 (by omega)
  have a257 := fun (w' : World) (g : Nat) (hg : w'.heap[g]? = some (.cells (tl tA) 23 (0, 0))) => g257 ▸ tl_cell hg tA_tal 257 (by omega)
  have a0 := fun (w' : World) (g : Nat) (hg : w'.heap[g]? = some (.cells (tl tA) 23 (0, 0))) => g0 ▸ tl_cell hg tA_tal 0 (by omega)
  have b1 := fun (w' : World) (g : Nat) (hg : w'.heap[g]? = some (.cells (tl tO) 23 (0, 0))) => o1 ▸ tl_cell hg tO_tal 1 (by omega)
  have CE := Lib.hid (And.intro a3 (And.intro a1 (And.intro a257 (And.intro a0 b1))))
  clear a3 a1 a257 a0 b1 g3 g1 g257 g0 o1
  rw [wk_e.1] at hof
  rw [wk_e.2.1] at hof2
  rw [wk_e.2.2.1] at had
  change ∀ w : World, Calls Try.prog 8 #[.slice (some ⟨w.heap.size, 0, none⟩) 4 4] (w.alloc (.cells #[.int .i64 3, .int .i64 1, .int .i64 3, .int .i64 257] 3)) fun e w' => e = .returned (.tuple #[.agg (tl tA), .int .i64 0]) ∧ Below w.heap.size w w' at hof
  change ∀ w : World, Calls Try.prog 8 #[.slice (some ⟨w.heap.size, 0, none⟩) 1 1] (w.alloc (.cells #[.int .i64 258] 3)) fun e w' => e = .returned (.tuple #[.agg (tl (addV zT [258])), .int .i64 2]) ∧ Below w.heap.size w w' at hof2
  change ∀ w : World, Calls Try.prog 10 #[.agg (tl tA), .slice (some ⟨w.heap.size, 0, none⟩) 2 2] (w.alloc (.cells #[.int .i64 1, .int .i64 1] 3)) fun e w' => e = .returned (.tuple #[.agg (tl tO), .int .i64 0]) ∧ Below w.heap.size w w' at had
  simp only [wk_s.1] at hsu
  simp only [wk_s.2.1] at hus
  simp only [wk_s.2.2] at hra
  rw [wk_d.2.1] at hva
  rw [wk_d.2.2] at hvn
  have hii := ints_at_lit [1, 3, 257] (by simp)
  have hij := ints_at_lit [1, 257, 3] (by simp)
  change ∀ (a : Option Addr) (c : Nat) (w : World), Src w .i64 a [1, 3, 257] → Calls Try.prog 16 #[.slice a 3 c, .slice (some ⟨w.heap.size, 0, none⟩) 3 3] (w.alloc (.cells #[.int .i64 1, .int .i64 3, .int .i64 257] 3)) fun e w' => e = .returned (.bool true) ∧ Below w.heap.size w w' at hii
  change ∀ (a : Option Addr) (c : Nat) (w : World), Src w .i64 a [1, 257, 3] → Calls Try.prog 16 #[.slice a 3 c, .slice (some ⟨w.heap.size, 0, none⟩) 3 3] (w.alloc (.cells #[.int .i64 1, .int .i64 257, .int .i64 3] 3)) fun e w' => e = .returned (.bool true) ∧ Below w.heap.size w w' at hij
  have hdf : ∀ (sp : Option Addr) (w : World), TSrc w sp [tA, tO, tA] → Calls Try.prog 21 #[.slice sp 3 3] w fun e w' => e = .returned (.int .i64 2) ∧ Below w.heap.size w w' := fun sp w h => by
    have := diff_call sp 3 3 [tA, tO, tA] w rfl h (by omega)
    rw [wk_d.1] at this
    exact this
  have hd0 : ∀ w : World, Calls Try.prog 21 #[.slice none 0 0] w fun e w' => e = .returned (.int .i64 0) ∧ Below w.heap.size w w' := fun w => diff_call none 0 0 [] w rfl ⟨fun l hl => by simp at hl, .inl rfl⟩ (by omega)
  have eN : tl tN = (tl zT).setIfInBounds 0 (.int .i64 (-1)) := (tl_set zT 0 (-1)).symm
  rw [eN] at hvn hae
  clear eN
  generalize addV zT [258] = B at hof2 hB
  generalize addV tN [] = C at hae hC
  generalize tA = A at *
  generalize tO = O at *
  have hz := talZ
  go_enter Try.func7, Try.ntmps7
  go_wp2_with fail
  refine (hof _).mono ?_
  rintro e w1 ⟨rfl, hb1⟩
  clear hof
  go_upto_region 2 with (refine wpList_store_row rfl 23 _ _ rfl w1.heap.size (tl A) rfl rfl 23 (tl zT) (heap_alloc_last w1 _) (talIk hA) (by rw [tl_size zT_tal, tl_size hA]) (tl_all _) ?_)
  rw [World.setRow_alloc_new]
  have hnw2 := heap_alloc_last w1 (.cells (tl A) 23)
  have hlw2 := below_al w1 (.cells (tl A) 23)
  generalize w1.alloc (.cells (tl A) 23) = w2 at hnw2 hlw2 ⊢
  have HB := Lib.hid (hb1.trans (hlw2.mono hb1.size))
  have hgA := hnw2
  clear hb1 hlw2 hnw2
  go_wp2_with fail
  refine (hof2 _).mono ?_
  rintro e w3 ⟨rfl, hb3⟩
  have HB3 := Lib.hid (HB.out.trans (hb3.mono HB.out.size))
  have hgA3 := heap_on hb3 hgA
  clear hof2 hb3 hgA HB
  go_upto_region 3 with (refine wpList_store_row rfl 23 _ _ rfl w3.heap.size (tl B) rfl rfl 23 (tl zT) (heap_alloc_last w3 _) (talIk hB) (by rw [tl_size zT_tal, tl_size hB]) (tl_all _) ?_)
  rw [World.setRow_alloc_new]
  have hnw4 := heap_alloc_last w3 (.cells (tl B) 23)
  have hlw4 := below_al w3 (.cells (tl B) 23)
  generalize w3.alloc (.cells (tl B) 23) = w4 at hnw4 hlw4 ⊢
  have HB4 := Lib.hid (HB3.out.trans (hlw4.mono HB3.out.size))
  have hgA4 := heap_on hlw4 hgA3
  clear hlw4 hnw4 hgA3 HB3
  go_wp2_with (refine wpList_load_row rfl 23 _ rfl w1.heap.size rfl 23 (tl A) (0, 0) _ (by assumption) Try.underlying23 rfl (talIk hA) ?_)
  refine (had _).mono ?_
  rintro e w5 ⟨rfl, hb5⟩
  have HB5 := Lib.hid (HB4.out.trans (hb5.mono HB4.out.size))
  have hgA5 := heap_on hb5 hgA4
  clear had hb5 hgA4 HB4
  go_upto_region 4 with (refine wpList_store_row rfl 23 _ _ rfl w5.heap.size (tl O) rfl rfl 23 (tl zT) (heap_alloc_last w5 _) (talIk hO) (by rw [tl_size zT_tal, tl_size hO]) (tl_all _) ?_)
  rw [World.setRow_alloc_new]
  have hnw6 := heap_alloc_last w5 (.cells (tl O) 23)
  have hlw6 := below_al w5 (.cells (tl O) 23)
  generalize w5.alloc (.cells (tl O) 23) = w6 at hnw6 hlw6 ⊢
  have HB6 := Lib.hid (HB5.out.trans (hlw6.mono HB5.out.size))
  have hgA6 := heap_on hlw6 hgA5
  have hgO6 := hnw6
  clear hlw6 hnw6 hgA5 HB5
  go_wp2_with fail
  refine (hae _).mono ?_
  rintro e w7 ⟨rfl, hb7⟩
  have HB7 := Lib.hid (HB6.out.trans (hb7.mono HB6.out.size))
  have hgA7 := heap_on hb7 hgA6
  have hgO7 := heap_on hb7 hgO6
  clear hae hb7 hgA6 hgO6 HB6
  go_upto_region 5 with (refine wpList_store_row rfl 23 _ _ rfl w7.heap.size (tl C) rfl rfl 23 (tl zT) (heap_alloc_last w7 _) (talIk hC) (by rw [tl_size zT_tal, tl_size hC]) (tl_all _) ?_)
  rw [World.setRow_alloc_new]
  have hnw8 := heap_alloc_last w7 (.cells (tl C) 23)
  have hlw8 := below_al w7 (.cells (tl C) 23)
  generalize w7.alloc (.cells (tl C) 23) = w8 at hnw8 hlw8 ⊢
  have HB8 := Lib.hid (HB7.out.trans (hlw8.mono HB7.out.size))
  have hgA8 := heap_on hlw8 hgA7
  have hgO8 := heap_on hlw8 hgO7
  clear hlw8 hnw8 hgA7 hgO7 HB7 hz
  have x3 := CE.out.1 _ _ hgA8
  have x1 := CE.out.2.1 _ _ hgA8
  have x257 := CE.out.2.2.1 _ _ hgA8
  have x0 := CE.out.2.2.2.1 _ _ hgA8
  have y1 := CE.out.2.2.2.2 _ _ hgO8
  go_wp2_with (refine wpList_load_row_g 39 true rfl 69 rfl _ rfl rfl 23 _ rfl w1.heap.size rfl 23 (tl A) (0, 0) _ (by assumption) Try.underlying23 rfl (talIk hA) ?_)
  refine (hsu _).mono ?_
  rintro e w9 ⟨rfl, hb9⟩
  have HB9 := Lib.hid (HB8.out.trans (hb9.mono HB8.out.size))
  have hgA9 := heap_on hb9 hgA8
  have hgO9 := heap_on hb9 hgO8
  clear hsu hb9 hgA8 hgO8 HB8 x3 x1 x257 x0 y1 CE
  go_wp2_with (refine wpList_load_row_g 44 true rfl 74 rfl _ rfl rfl 23 _ rfl w1.heap.size rfl 23 (tl A) (0, 0) _ (by assumption) Try.underlying23 rfl (talIk hA) ?_)
  refine (hus _).mono ?_
  rintro e w10 ⟨a, c, rfl, hN⟩
  have HB10 := Lib.hid (HB9.out.trans (hN.bel.mono HB9.out.size))
  have hgA10 := heap_on hN.bel hgA9
  have hgO10 := heap_on hN.bel hgO9
  have hi1 := hii a c w10 hN.win.src
  clear hus hN hgA9 hgO9 HB9 hii
  go_wp2_with fail
  refine hi1.mono ?_
  rintro e w11 ⟨rfl, hb11⟩
  have HB11 := Lib.hid (HB10.out.trans (hb11.mono HB10.out.size))
  have hgA11 := heap_on hb11 hgA10
  have hgO11 := heap_on hb11 hgO10
  clear hi1 hb11 hgA10 hgO10 HB10
  go_wp2_with (refine wpList_load_row_g 50 true rfl 80 rfl _ rfl rfl 23 _ rfl w1.heap.size rfl 23 (tl A) (0, 0) _ (by assumption) Try.underlying23 rfl (talIk hA) ?_)
  refine (hra _).mono ?_
  rintro e w12 ⟨a2, c2, rfl, hN⟩
  have HB12 := Lib.hid (HB11.out.trans (hN.bel.mono HB11.out.size))
  have hgA12 := heap_on hN.bel hgA11
  have hgO12 := heap_on hN.bel hgO11
  have hi2 := hij a2 c2 w12 hN.win.src
  clear hra hN hgA11 hgO11 HB11 hij
  go_wp2_with fail
  refine hi2.mono ?_
  rintro e w13 ⟨rfl, hb13⟩
  have HB13 := Lib.hid (HB12.out.trans (hb13.mono HB12.out.size))
  have hgA13 := heap_on hb13 hgA12
  have hgO13 := heap_on hb13 hgO12
  clear hi2 hb13 hgA12 hgO12 HB12
  go_wp2_with (first | (refine wpList_load_row_g 56 true rfl 86 rfl _ rfl rfl 23 _ rfl w1.heap.size rfl 23 (tl A) (0, 0) _ (by assumption) Try.underlying23 rfl (talIk hA) ?_) | (refine wpList_load_row_g 56 true rfl 86 rfl _ rfl rfl 23 _ rfl w5.heap.size rfl 23 (tl O) (0, 0) _ (by assumption) Try.underlying23 rfl (talIk hO) ?_))
  refine wp_tals3 _ _ _ rfl A O A hA hO hA rfl rfl rfl ?_
  intro cells hsrc
  have hdd := hdf _ _ hsrc
  have hl14 := below_al w13 (.cells cells 23)
  have HB14 := Lib.hid (HB13.out.trans (hl14.mono HB13.out.size))
  have hgA14 := heap_on hl14 hgA13
  generalize w13.alloc (.cells cells 23) = w14 at hdd hl14 HB14 hgA14 ⊢
  clear hsrc hl14 hgA13 hgO13 HB13 hdf
  go_wp2_with fail
  refine hdd.mono ?_
  rintro e w15 ⟨rfl, hb15⟩
  have HB15 := Lib.hid (HB14.out.trans (hb15.mono HB14.out.size))
  have hgA15 := heap_on hb15 hgA14
  clear hdd hb15 hgA14 HB14
  go_wp2_with (refine wpList_load_row_g 64 true rfl 94 rfl _ rfl rfl 23 _ rfl w1.heap.size rfl 23 (tl A) (0, 0) _ (by assumption) Try.underlying23 rfl (talIk hA) ?_)
  refine (hva _).mono ?_
  rintro e w16 ⟨rfl, hb16⟩
  have HB16 := Lib.hid (HB15.out.trans (hb16.mono HB15.out.size))
  clear hva hb16 hgA15 HB15
  have hz := talZ
  go_wp2_with fail
  refine (hvn _).mono ?_
  rintro e w17 ⟨rfl, hb17⟩
  have HB17 := Lib.hid (HB16.out.trans (hb17.mono HB16.out.size))
  clear hvn hb17 HB16
  go_wp2_with fail
  refine (hd0 _).mono ?_
  rintro e w18 ⟨rfl, hb18⟩
  have HB18 := Lib.hid (HB17.out.trans (hb18.mono HB17.out.size))
  clear hd0 hb18 HB17
  go_wp2_with fail
  go_ret
  exact ⟨rfl, HB18.out⟩
end Go.Proofs.Ytlbgnichgjancaa
