/- The walk over winepresslaw01.ArenaMatches. -/
import Derived.Test.YtipliponbcjgdaaSame
import Derived.Test.YtipliponbcjgdaaWakes
import Derived.Test.YtipliponbcjgdaaHeld
import Derived.Deep.DeepCutAuto
set_option linter.unusedVariables false
set_option linter.unusedSimpArgs false
namespace Go.Proofs.Ytipliponbcjgdaa
open Go.RowKit

section
variable {w : World} {p q : Nat} {mem : List Int} {live peak : Nat}
/-- What Load gives. -/
def loadL (mem : List Int) (live : Nat) (a n : Int) : List Int := if hasB live a n then seg mem a.toNat n.toNat else []
/-- A slice of bytes whose string is st. -/
def StrR (w : World) (l : List Int) (st : ByteArray) (e : Ending) (w' : World) : Prop :=
  ∃ (sp : Option Addr) (m c : Nat), e = .returned (.slice sp m c) ∧ (convert 36 9 (.slice sp m c)).run Try.prog w' = .ok (.string st) w' ∧ Src w' .u8 sp l ∧ l.length = m ∧ Below w.heap.size w w'
theorem str_later {w w' : World} {sp : Option Addr} {m c : Nat} {l : List Int} (hs : Src w .u8 sp l) (hl : l.length = m) (hb : Below w.heap.size w w') (st : ByteArray) (hst : st = bstr l) :
    (convert 36 9 (.slice sp m c)).run Try.prog w' = .ok (.string st) w' := by
  subst hst
  exact run_bstr (P := Try.prog) sliceT byteT strT w' sp m c l hl (hs.below hb)
theorem str_of {w : World} {sp : Option Addr} {m c : Nat} {l : List Int} (hs : Src w .u8 sp l) (hl : l.length = m) {st : ByteArray} (hst : st = bstr l) :
    (convert 36 9 (.slice sp m c)).run Try.prog w = .ok (.string st) w := by
  subst hst
  exact run_bstr (P := Try.prog) sliceT byteT strT w sp m c l hl hs
theorem loadAny (h : Ar w p q mem live peak) (a n : Int) (hn : n ≤ 9223372036854775807) (l : List Int) (hl : l = loadL mem live a n) (st : ByteArray) (hst : st = bstr l) :
    Calls Try.prog 14 #[.pointer (some ⟨p, 0, none⟩), .agg #[.int .i64 a, .int .i64 n]] w (StrR w l st) := by
  subst hst
  subst hl
  unfold loadL
  by_cases hh : hasB live a n = true
  · rw [if_pos hh]
    obtain ⟨a, n, rfl, rfl, hal⟩ := hasB_yes hh
    refine (load_yes h a n hh hal).mono ?_
    rintro e w' ⟨g, rfl, hg, hr, hb⟩
    exact ⟨_, _, _, rfl, run_bstr (P := Try.prog) sliceT byteT strT w' _ _ _ _ rfl (Src.whole hr), Src.whole hr, rfl, hb⟩
  · rw [if_neg hh]
    refine (load_no h a n hn (by simpa using hh)).mono ?_
    rintro e w' ⟨rfl, hb⟩
    exact ⟨_, _, _, rfl, run_bstr (P := Try.prog) sliceT byteT strT w' _ _ _ _ rfl (.inl rfl), .inl rfl, rfl, hb⟩
theorem rloadAny (h : Ra w p q mem live peak) (a n : Int) (hn : n ≤ 9223372036854775807) (l : List Int) (hl : l = loadL mem live a n) (st : ByteArray) (hst : st = bstr l) :
    Calls Try.prog 15 #[.pointer (some ⟨p, 0, none⟩), .agg #[.int .i64 a, .int .i64 n]] w (StrR w l st) := by
  subst hst
  subst hl
  unfold loadL
  by_cases hh : hasB live a n = true
  · rw [if_pos hh]
    obtain ⟨a, n, rfl, rfl, hal⟩ := hasB_yes hh
    refine (rload_yes h a n hh hal).mono ?_
    rintro e w' ⟨A, c, rfl, ho, hb⟩
    have hlen : (seg mem a n).length = n := seg_length _ _ _ (by have := h.ll; omega)
    exact ⟨_, _, _, rfl, run_bstr (P := Try.prog) sliceT byteT strT w' _ _ _ _ hlen ho.src, ho.src, hlen, hb⟩
  · rw [if_neg hh]
    refine (rload_no h a n hn (by simpa using hh)).mono ?_
    rintro e w' ⟨rfl, hb⟩
    exact ⟨_, _, _, rfl, run_bstr (P := Try.prog) sliceT byteT strT w' _ _ _ _ rfl (.inl rfl), .inl rfl, rfl, hb⟩
end

/-- What is known all through the loop. -/
structure MS (w : World) (B p q r s : Nat) (mem : List Int) (live peak : Nat) (W : World) : Prop where
  ar : Ar W p q mem live peak
  ra : Ra W r s mem live peak
  bel : Below B w W
  sz : B ≤ W.heap.size
theorem MS.below {w W W' : World} {B p q r s : Nat} {mem : List Int} {live peak : Nat} (h : MS w B p q r s mem live peak W) (hb : Below W.heap.size W W') : MS w B p q r s mem live peak W' :=
  ⟨h.ar.below hb, h.ra.below hb, h.bel.trans (hb.mono h.sz), Nat.le_trans h.sz hb.size⟩

set_option maxRecDepth 100000 in
set_option maxHeartbeats 1000000 in
theorem am_big (a0 : Option Addr) (n c : Nat) (bu : Int) (w : World) (D : List ADeed) (hl : D.length = n) (hs : ASrc w a0 D) (hok : ∀ d ∈ D, OkA w d) (hn : n ≤ 9223372036854775807)
    (h : smallA D = false ∨ (4000 < bu ∧ bu ≤ 1048576)) :
    Calls Try.prog 3 #[.int .i64 bu, .slice a0 n c] w fun e w' => e = .returned (.bool true) ∧ Below w.heap.size w w' := by
  have HS := Lib.hid hs
  have HK := Lib.hid hok
  clear hs hok
  by_cases hsm : smallA D = true
  · obtain ⟨h1, h2⟩ : 4000 < bu ∧ bu ≤ 1048576 := by
      rcases h with h | h
      · rw [hsm] at h; cases h
      · exact h
    have d1 : decide (4000 < bu) = true := by simpa using h1
    have d2 : decide (bu ≤ 1048576) = true := by simpa using h2
    clear h
    go_enter Try.func3, Try.ntmps3
    go_wp2_with fail
    refine (small_call w a0 n c D hl HS.out HK.out hn).mono ?_
    rintro e w1 ⟨rfl, rfl⟩
    rw [hsm]
    go_wp2_with fail
    refine (wakes_call w).mono ?_
    rintro e w1 ⟨rfl, hb⟩
    go_wp2
    go_ret
    exact ⟨rfl, hb⟩
  · have hsf : smallA D = false := by simpa using hsm
    clear h
    go_enter Try.func3, Try.ntmps3
    go_wp2_with fail
    refine (small_call w a0 n c D hl HS.out HK.out hn).mono ?_
    rintro e w1 ⟨rfl, rfl⟩
    rw [hsf]
    go_wp2_with fail
    refine (wakes_call w).mono ?_
    rintro e w1 ⟨rfl, hb⟩
    go_wp2
    go_ret
    exact ⟨rfl, hb⟩

set_option maxRecDepth 100000 in
set_option maxHeartbeats 1000000 in
theorem am_bad (a0 : Option Addr) (n c : Nat) (bu : Int) (w : World) (D : List ADeed) (hl : D.length = n) (hs : ASrc w a0 D) (hok : ∀ d ∈ D, OkA w d) (hn : n ≤ 9223372036854775807)
    (hsm : smallA D = true) (h : bu < 1 ∨ 1048576 < bu) :
    Calls Try.prog 3 #[.int .i64 bu, .slice a0 n c] w fun e w' => e = .returned (.bool true) ∧ Below w.heap.size w w' := by
  have HS := Lib.hid hs
  have HK := Lib.hid hok
  have hno : ¬ (1 ≤ bu ∧ bu ≤ 1048576) := by omega
  have hcond : (decide (4000 < bu) = true ∧ decide (bu ≤ 1048576) = false) ∨ decide (4000 < bu) = false := by
    by_cases hx : 4000 < bu
    · exact .inl ⟨by simpa using hx, by simp; omega⟩
    · exact .inr (by simpa using hx)
  clear hs hok h
  rcases hcond with ⟨d1, d2⟩ | d1
  all_goals
    go_enter Try.func3, Try.ntmps3
    go_wp2_with fail
    refine (small_call w a0 n c D hl HS.out HK.out hn).mono ?_
    rintro e w1 ⟨rfl, rfl⟩
    rw [hsm]
    go_wp2_with fail
    refine (new_no w bu hno).mono ?_
    rintro e w1 ⟨rfl, hb⟩
    go_wp2_with fail
    refine (may_call w1 bu).mono ?_
    rintro e w2 ⟨rfl, rfl⟩
    rw [show decide (1 ≤ bu ∧ bu ≤ 1048576) = false by simpa using hno]
    clear d1
    have B1 := Lib.hid hb
    clear hb
    go_wp2_with fail
    refine (wakes_call w1).mono ?_
    rintro e w2 ⟨rfl, hb⟩
    go_wp2
    go_ret
    exact ⟨rfl, B1.out.trans (hb.mono B1.out.size)⟩

set_option maxRecDepth 100000 in
set_option maxHeartbeats 2000000 in
theorem am_good (a0 : Option Addr) (n c : Nat) (bu : Nat) (w : World) (D : List ADeed) (hl : D.length = n) (hs : ASrc w a0 D) (hok : ∀ d ∈ D, OkA w d) (hn : n ≤ 9223372036854775807)
    (hsm : smallA D = true) (h1 : 1 ≤ bu) (h2 : bu ≤ 4000) :
    Calls Try.prog 3 #[.int .i64 bu, .slice a0 n c] w fun e w' => e = .returned (.bool true) ∧ Below w.heap.size w w' := by
  have HS := Lib.hid hs
  have HK := Lib.hid hok
  have HL := Lib.hid hl
  have d1 : decide (4000 < (bu : Int)) = false := by simp; omega
  obtain ⟨B, hB⟩ : ∃ B, B = w.heap.size := ⟨_, rfl⟩
  rw [← hB]
  have HB := Lib.hid hB
  clear hs hok hB
  go_enter Try.func3, Try.ntmps3
  go_wp2_with fail
  refine (small_call w a0 n c D hl HS.out HK.out hn).mono ?_
  rintro e w1 ⟨rfl, rfl⟩
  rw [hsm]
  clear hl hsm
  go_wp2_with fail
  refine (new_yes w bu h1 (by omega)).mono ?_
  rintro e w1 ⟨p, q, rfl, hp, hq, a1, hb⟩
  rw [← HB.out] at hp hq hb
  go_wp2_with fail
  refine (may_call w1 bu).mono ?_
  rintro e w2 ⟨rfl, rfl⟩
  rw [show decide (1 ≤ (bu : Int) ∧ (bu : Int) ≤ 1048576) = true by simp; omega]
  have A1 := Lib.hid a1
  have B1 := Lib.hid hb
  have hp1 := a1.plt
  have hq1 := a1.qlt
  clear a1 hb d1
  go_wp2_with fail
  refine (rnew_call w1 bu h1 (by omega)).mono ?_
  rintro e w2 ⟨rfl, ra, hb⟩
  obtain ⟨r, hr⟩ : ∃ r, r = w1.heap.size + 1 := ⟨_, rfl⟩
  obtain ⟨s, hs⟩ : ∃ s, s = w1.heap.size := ⟨_, rfl⟩
  rw [← hr, ← hs] at ra
  rw [← hr]
  have hsz1 : B ≤ w1.heap.size := by rw [HB.out]; exact B1.out.size
  have hms : MS w B p q r s (List.replicate bu 0) 0 0 w2 := ⟨A1.out.below hb, ra, B1.out.trans (hb.mono hsz1), Nat.le_trans hsz1 hb.size⟩
  have hF : Four p q r s := ⟨by omega, by omega, by omega, by omega⟩
  have hrB : B ≤ r := by omega
  have hsB : B ≤ s := by omega
  have HF := Lib.hid hF
  have HM := Lib.hid hms
  clear ra hb hr hs A1 B1 hms hF hp1 hq1 hsz1
  go_wp2_with fail
  go_loopw [9] (fun x wr => ∃ (k : Nat) (mem : List Int) (live peak : Nat), k ≤ n ∧ x = .int .i64 k ∧ MS w B p q r s mem live peak wr ∧ mem.length = bu) (fun x _ => n - (intOf x).toNat)
  case atStart => exact ⟨0, _, 0, 0, Nat.zero_le _, rfl, HM.out, by simp⟩
  case round =>
    obtain ⟨k, mem, live, peak, hk, rfl, hms, hlen⟩ := hrel
    have HM1 := Lib.hid hms
    clear HM hms
    by_cases hlt : k < n
    · obtain ⟨d, hd⟩ : ∃ d, D[k]? = some d := ⟨D[k]'(by rw [HL.out]; exact hlt), List.getElem?_eq_getElem _⟩
      have hok := HK.out d (List.mem_of_getElem? hd)
      rcases HS.out with rfl | ⟨g, o, rfl, hc⟩
      · simp at hd
      have hcd := hc k d hd
      have hgB : g < B := by rw [HB.out]; exact World.block_lt_of_cell? w _ (hcd 0 _ rfl)
      have hcw : ∀ i v, d.cells[i]? = some v → wr.cell? ⟨g, o + k * 6 + i, none⟩ = some v := fun i v hv => (HM1.out.bel.cell (p := ⟨g, o + k * 6 + i, none⟩) hgB).trans (hcd i v hv)
      have hsd : 0 < d.bl → ∀ x, d.ba = some x → x.block < B := fun h0 x hx => by rw [HB.out]; exact hok.src.lt (by rw [hok.len]; exact h0) x hx
      have hok2 : OkA wr d := hok.below (HB.out ▸ HM1.out.bel)
      have HCD := Lib.hid hcd
      have HOK2 := Lib.hid hok2
      have HSD := Lib.hid hsd
      have hsn := hok.sn.2
      have c0 := hcw 0 _ rfl
      have c1 := hcw 1 _ rfl
      have c2 := hcw 2 _ rfl
      have c3 := hcw 3 _ rfl
      have c4 := hcw 4 _ rfl
      have c5 := hcw 5 _ rfl
      rw [Nat.add_zero] at c0
      clear hd hok hc hcd hcw hok2 hsd
      go_wp2_with fail
      refine (same_call HM1.out.ar HM1.out.ra HF.out HM1.out.sz hp hq hrB hsB d HOK2.out HSD.out).mono ?_
      rintro e w3 ⟨rfl, mem', live', peak', a3, r3, hlen3, hb3⟩
      have hms3 : MS w B p q r s mem' live' peak' w3 := ⟨a3, r3, HM1.out.bel.trans hb3, Nat.le_trans HM1.out.sz hb3.size⟩
      rw [hlen] at hlen3
      have hcw : ∀ i v, d.cells[i]? = some v → w3.cell? ⟨g, o + k * 6 + i, none⟩ = some v := fun i v hv => (hms3.bel.cell (p := ⟨g, o + k * 6 + i, none⟩) hgB).trans (HCD.out i v hv)
      have HM3 := Lib.hid hms3
      have HLEN := Lib.hid hlen3
      clear c0 c1 c2 c3 c4 c5 hb3 a3 r3 hms3 hlen3 HM1 hlen
      have c1 := hcw 1 _ rfl
      have c2 := hcw 2 _ rfl
      have c3 := hcw 3 _ rfl
      have hgw : g < w3.heap.size := Nat.lt_of_lt_of_le hgB HM3.out.sz
      clear hcw
      go_wp2_with fail
      go_region
      have e0 := boxed w3 #[.int .i64 d.sa, .int .i64 d.sn] 34 0 _ rfl
      have e1 := boxed w3 #[.int .i64 d.sa, .int .i64 d.sn] 34 1 _ rfl
      have hms4 := HM3.out.below ((Below.refl _ w3).alloc (Nat.le_refl _) (.cells #[.int .i64 d.sa, .int .i64 d.sn] 34)).drew
      obtain ⟨b, hb⟩ : ∃ b, b = w3.heap.size := ⟨_, rfl⟩
      rw [← hb] at e0 e1 ⊢
      obtain ⟨w4, hw4⟩ : ∃ W, W = (w3.alloc (.cells #[.int .i64 d.sa, .int .i64 d.sn] 34)).drew := ⟨_, rfl⟩
      rw [← hw4] at e0 e1 hms4 ⊢
      clear hw4 hb c1 c2 c3 hgw
      obtain ⟨x1, hx1⟩ : ∃ x, x = byteV mem' live' d.sa d.sn d.nv := ⟨_, rfl⟩
      obtain ⟨x2, hx2⟩ : ∃ x, x = byteOk live' d.sa d.sn d.nv := ⟨_, rfl⟩
      obtain ⟨x3, hx3⟩ : ∃ x, x = wordV mem' live' d.sa d.sn d.nv := ⟨_, rfl⟩
      obtain ⟨x4, hx4⟩ : ∃ x, x = wordOk live' d.sa d.sn d.nv := ⟨_, rfl⟩
      obtain ⟨x5, hx5⟩ : ∃ x, x = hasB live' d.sa d.sn := ⟨_, rfl⟩
      obtain ⟨ll, hll⟩ : ∃ x, x = loadL mem' live' d.sa d.sn := ⟨_, rfl⟩
      obtain ⟨st, hst⟩ : ∃ x, x = bstr ll := ⟨_, rfl⟩
      have q1 : (x1 != x1) = false := by simp
      have q2 : (x2 != x2) = false := by simp
      have q3 : (x3 != x3) = false := by simp
      have q4 : (x4 != x4) = false := by simp
      have q5 : (x5 != x5) = false := by simp
      have q6 : ((live' : Int) != (live' : Int)) = false := by simp
      have q7 : ((peak' : Int) != (peak' : Int)) = false := by simp
      have q8 : (((bu : Int) - (live' : Int)) != ((bu : Int) - (live' : Int))) = false := by simp
      have hlv := hms4.ar.ll
      rw [HLEN.out] at hlv
      have q10 : IntKind.i64.wrap ((bu : Int) - (live' : Int)) = (bu : Int) - (live' : Int) := IntWalk.i64_in _ (by omega)
      have HX1 := Lib.hid hx1
      have HX2 := Lib.hid hx2
      have HX3 := Lib.hid hx3
      have HX4 := Lib.hid hx4
      have HX5 := Lib.hid hx5
      have HLL := Lib.hid hll
      have HST := Lib.hid hst
      have HM4 := Lib.hid hms4
      clear hx1 hx2 hx3 hx4 hx5 hll hst hms4 HM3 HOK2 HCD
      go_wp2_with fail
      refine (byte_call HM4.out.ar d.sa d.sn d.nv hsn).mono ?_
      rintro e w5 ⟨rfl, hb⟩
      rw [← HX1.out, ← HX2.out]
      have HM5 := Lib.hid (HM4.out.below hb)
      replace e0 := (hb.cell (World.block_lt_of_cell? _ _ e0)).trans e0
      replace e1 := (hb.cell (World.block_lt_of_cell? _ _ e1)).trans e1
      clear hb HM4
      go_wp2_with fail
      refine (rbyte_call HM5.out.ra d.sa d.sn d.nv hsn).mono ?_
      rintro e w6 ⟨rfl, hb⟩
      rw [← HX1.out, ← HX2.out]
      have HM6 := Lib.hid (HM5.out.below hb)
      replace e0 := (hb.cell (World.block_lt_of_cell? _ _ e0)).trans e0
      replace e1 := (hb.cell (World.block_lt_of_cell? _ _ e1)).trans e1
      clear hb HM5
      go_wp2_with fail
      refine (word_call HM6.out.ar d.sa d.sn d.nv hsn).mono ?_
      rintro e w7 ⟨rfl, hb⟩
      rw [← HX3.out, ← HX4.out]
      have HM7 := Lib.hid (HM6.out.below hb)
      replace e0 := (hb.cell (World.block_lt_of_cell? _ _ e0)).trans e0
      replace e1 := (hb.cell (World.block_lt_of_cell? _ _ e1)).trans e1
      clear hb HM6
      go_wp2_with fail
      refine (rgetWord_call HM7.out.ra d.sa d.sn d.nv hsn).mono ?_
      rintro e w8 ⟨rfl, hb⟩
      rw [← HX3.out, ← HX4.out]
      have hms8 := HM7.out.below hb
      replace e0 := (hb.cell (World.block_lt_of_cell? _ _ e0)).trans e0
      replace e1 := (hb.cell (World.block_lt_of_cell? _ _ e1)).trans e1
      clear hb HM7
      have hr1 := hms8.ra.c1
      have hr2 := hms8.ra.c2
      have hm := hms8.below (W' := w8.drew) ⟨rfl, rfl, rfl, Nat.le_refl _, fun _ _ => rfl⟩
      clear hms8
      go_wp2_with fail
      dsimp only [List.append]
      refine wp_region_noPanic ?_
      refine wp_region_held_drew (S := fun W => MS w B p q r s mem' live' peak' W ∧ W.cell? ⟨b, 0, none⟩ = some (.int .i64 d.sa) ∧ W.cell? ⟨b, 1, none⟩ = some (.int .i64 d.sn) ∧ W.cell? ⟨r, 1, none⟩ = some (.int .i64 live') ∧ W.cell? ⟨r, 2, none⟩ = some (.int .i64 peak')) (by kernel_rfl) ⟨hm, e0, e1, hr1, hr2⟩ (fun hHeld => ?_)
      refine wpAnyH_take (i := 0) (v := ?_) rfl (by kernel_rfl) (by kernel_rfl) (by kernel_rfl) (fun _ _ _ h => h) (Or.inl ⟨by rfl, ?_⟩) (by assumption) ?_
      rotate_left
      · (intro W hSw; (try dsimp only at hSw); go_simp) <;> with_reducible rfl
      try simp only [Act.put, List.getElem_toArray, List.getElem_cons_succ, List.getElem_cons_zero, List.setIfInBounds_toArray, List.set_cons_zero, List.set_cons_succ]
      refine wpAnyH_take (i := 1) (v := ?_) rfl (by kernel_rfl) (by kernel_rfl) (by kernel_rfl) (fun _ _ _ h => h) (Or.inl ⟨by rfl, ?_⟩) (by assumption) ?_
      rotate_left
      · (intro W hSw; (try dsimp only at hSw); go_simp) <;> with_reducible rfl
      try simp only [Act.put, List.getElem_toArray, List.getElem_cons_succ, List.getElem_cons_zero, List.setIfInBounds_toArray, List.set_cons_zero, List.set_cons_succ]
      refine wpAnyH_take (i := 2) (v := ?_) rfl (by kernel_rfl) (by kernel_rfl) (by kernel_rfl) (fun _ _ _ h => h) (Or.inl ⟨by rfl, ?_⟩) (by assumption) ?_
      rotate_left
      · (intro W hSw; (try dsimp only at hSw); go_simp) <;> with_reducible rfl
      try simp only [Act.put, List.getElem_toArray, List.getElem_cons_succ, List.getElem_cons_zero, List.setIfInBounds_toArray, List.set_cons_zero, List.set_cons_succ]
      refine wpAnyH_take (i := 3) (v := ?_) rfl (by kernel_rfl) (by kernel_rfl) (by kernel_rfl) (fun _ _ _ h => h) (Or.inl ⟨by rfl, ?_⟩) (by assumption) ?_
      rotate_left
      · (intro W hSw; (try dsimp only at hSw); go_simp) <;> with_reducible rfl
      try simp only [Act.put, List.getElem_toArray, List.getElem_cons_succ, List.getElem_cons_zero, List.setIfInBounds_toArray, List.set_cons_zero, List.set_cons_succ]
      refine wpAnyH_take (i := 4) (v := ?_) rfl (by kernel_rfl) (by kernel_rfl) (by kernel_rfl) (fun _ _ _ h => h) (Or.inl ⟨by rfl, ?_⟩) (by assumption) ?_
      rotate_left
      · (intro W hSw; (try dsimp only at hSw); go_simp) <;> with_reducible rfl
      try simp only [Act.put, List.getElem_toArray, List.getElem_cons_succ, List.getElem_cons_zero, List.setIfInBounds_toArray, List.set_cons_zero, List.set_cons_succ]
      refine wpAnyH_take (i := 5) (v := ?_) rfl (by kernel_rfl) (by kernel_rfl) (by kernel_rfl) (fun _ _ _ h => h) (Or.inl ⟨by rfl, ?_⟩) (by assumption) ?_
      rotate_left
      · (intro W hSw; (try dsimp only at hSw); go_simp) <;> with_reducible rfl
      try simp only [Act.put, List.getElem_toArray, List.getElem_cons_succ, List.getElem_cons_zero, List.setIfInBounds_toArray, List.set_cons_zero, List.set_cons_succ]
      refine wpAnyH_take (i := 6) (v := ?_) rfl (by kernel_rfl) (by kernel_rfl) (by kernel_rfl) (fun _ _ _ h => h) (Or.inl ⟨by rfl, ?_⟩) (by assumption) ?_
      rotate_left
      · (intro W hSw; (try dsimp only at hSw); go_simp) <;> with_reducible rfl
      try simp only [Act.put, List.getElem_toArray, List.getElem_cons_succ, List.getElem_cons_zero, List.setIfInBounds_toArray, List.set_cons_zero, List.set_cons_succ]
      refine wpAnyH_take (i := 7) (v := ?_) rfl (by kernel_rfl) (by kernel_rfl) (by kernel_rfl) (fun _ _ _ h => h) (Or.inl ⟨by rfl, ?_⟩) (by assumption) ?_
      rotate_left
      · (intro W hSw; (try dsimp only at hSw); go_simp) <;> with_reducible rfl
      try simp only [Act.put, List.getElem_toArray, List.getElem_cons_succ, List.getElem_cons_zero, List.setIfInBounds_toArray, List.set_cons_zero, List.set_cons_succ]
      refine wpAnyH_take (i := 8) (v := ?_) rfl (by kernel_rfl) (by kernel_rfl) (by kernel_rfl) (fun _ _ _ h => h) (Or.inl ⟨by rfl, ?_⟩) (by assumption) ?_
      rotate_left
      · (intro W hSw; (try dsimp only at hSw); go_simp) <;> with_reducible rfl
      try simp only [Act.put, List.getElem_toArray, List.getElem_cons_succ, List.getElem_cons_zero, List.setIfInBounds_toArray, List.set_cons_zero, List.set_cons_succ]
      refine wpAnyH_take (i := 9) (v := ?_) rfl (by kernel_rfl) (by kernel_rfl) (by kernel_rfl) (fun _ _ _ h => h) (Or.inl ⟨by rfl, ?_⟩) (by assumption) ?_
      rotate_left
      · (intro W hSw; (try dsimp only at hSw); go_simp) <;> with_reducible rfl
      try simp only [Act.put, List.getElem_toArray, List.getElem_cons_succ, List.getElem_cons_zero, List.setIfInBounds_toArray, List.set_cons_zero, List.set_cons_succ]
      refine wpAnyH_take (i := 10) (v := ?_) rfl (by kernel_rfl) (by kernel_rfl) (by kernel_rfl) (fun _ _ _ h => h) (Or.inl ⟨by rfl, ?_⟩) (by assumption) ?_
      rotate_left
      · (intro W hSw; (try dsimp only at hSw); go_simp) <;> with_reducible rfl
      try simp only [Act.put, List.getElem_toArray, List.getElem_cons_succ, List.getElem_cons_zero, List.setIfInBounds_toArray, List.set_cons_zero, List.set_cons_succ]
      refine wpAnyH_take (i := 11) (v := ?_) rfl (by kernel_rfl) (by kernel_rfl) (by kernel_rfl) (fun _ _ _ h => h) (Or.inl ⟨by rfl, ?_⟩) (by assumption) ?_
      rotate_left
      · (intro W hSw; (try dsimp only at hSw); go_simp) <;> with_reducible rfl
      try simp only [Act.put, List.getElem_toArray, List.getElem_cons_succ, List.getElem_cons_zero, List.setIfInBounds_toArray, List.set_cons_zero, List.set_cons_succ]
      refine wpAnyH_take (i := 12) (v := ?_) rfl (by kernel_rfl) (by kernel_rfl) (by kernel_rfl) (fun _ _ _ h => h) (Or.inl ⟨by rfl, ?_⟩) (by assumption) ?_
      rotate_left
      · (intro W hSw; (try dsimp only at hSw); go_simp) <;> with_reducible rfl
      try simp only [Act.put, List.getElem_toArray, List.getElem_cons_succ, List.getElem_cons_zero, List.setIfInBounds_toArray, List.set_cons_zero, List.set_cons_succ]
      refine wpAnyH_take (i := 13) (v := ?_) rfl (by kernel_rfl) (by kernel_rfl) (by kernel_rfl) (fun _ _ _ h => h) (Or.inl ⟨by rfl, ?_⟩) (by assumption) ?_
      rotate_left
      · (intro W hSw; (try dsimp only at hSw); go_simp) <;> with_reducible rfl
      try simp only [Act.put, List.getElem_toArray, List.getElem_cons_succ, List.getElem_cons_zero, List.setIfInBounds_toArray, List.set_cons_zero, List.set_cons_succ]
      refine wpAnyH_take (i := 14) (v := ?_) rfl (by kernel_rfl) (by kernel_rfl) (by kernel_rfl) (fun _ _ _ h => h) (Or.inl ⟨by rfl, ?_⟩) (by assumption) ?_
      rotate_left
      · (intro W hSw; (try dsimp only at hSw); go_simp) <;> with_reducible rfl
      try simp only [Act.put, List.getElem_toArray, List.getElem_cons_succ, List.getElem_cons_zero, List.setIfInBounds_toArray, List.set_cons_zero, List.set_cons_succ]
      refine wpAnyH_take (i := 15) (v := ?_) rfl (by kernel_rfl) (by kernel_rfl) (by kernel_rfl) (fun _ _ _ h => h) (Or.inl ⟨by rfl, ?_⟩) (by assumption) ?_
      rotate_left
      · (intro W hSw; (try dsimp only at hSw); go_simp) <;> with_reducible rfl
      try simp only [Act.put, List.getElem_toArray, List.getElem_cons_succ, List.getElem_cons_zero, List.setIfInBounds_toArray, List.set_cons_zero, List.set_cons_succ]
      refine wpAnyH_take (i := 16) (v := ?_) rfl (by kernel_rfl) (by kernel_rfl) (by kernel_rfl) (fun _ _ _ h => h) (Or.inl ⟨by rfl, ?_⟩) (by assumption) ?_
      rotate_left
      · (intro W hSw; (try dsimp only at hSw); go_simp) <;> with_reducible rfl
      try simp only [Act.put, List.getElem_toArray, List.getElem_cons_succ, List.getElem_cons_zero, List.setIfInBounds_toArray, List.set_cons_zero, List.set_cons_succ]
      refine wpAnyH_take (i := 17) (v := ?_) rfl (by kernel_rfl) (by kernel_rfl) (by kernel_rfl) (fun _ _ _ h => h) (Or.inl ⟨by rfl, ?_⟩) (by assumption) ?_
      rotate_left
      · (intro W hSw; (try dsimp only at hSw); go_simp) <;> with_reducible rfl
      try simp only [Act.put, List.getElem_toArray, List.getElem_cons_succ, List.getElem_cons_zero, List.setIfInBounds_toArray, List.set_cons_zero, List.set_cons_succ]
      refine wpAnyH_take (i := 18) (v := ?_) rfl (by kernel_rfl) (by kernel_rfl) (by kernel_rfl) (fun _ _ _ h => h) (Or.inl ⟨by rfl, ?_⟩) (by assumption) ?_
      rotate_left
      · (intro W hSw; (try dsimp only at hSw); go_simp) <;> with_reducible rfl
      try simp only [Act.put, List.getElem_toArray, List.getElem_cons_succ, List.getElem_cons_zero, List.setIfInBounds_toArray, List.set_cons_zero, List.set_cons_succ]
      refine wpAnyH_take (i := 19) (v := ?_) rfl (by kernel_rfl) (by kernel_rfl) (by kernel_rfl) (fun _ _ _ h => h) (Or.inl ⟨by rfl, ?_⟩) (by assumption) ?_
      rotate_left
      · (intro W hSw; (try dsimp only at hSw); go_simp) <;> with_reducible rfl
      try simp only [Act.put, List.getElem_toArray, List.getElem_cons_succ, List.getElem_cons_zero, List.setIfInBounds_toArray, List.set_cons_zero, List.set_cons_succ]
      refine wpAnyH_take (i := 20) (v := ?_) rfl (by kernel_rfl) (by kernel_rfl) (by kernel_rfl) (fun _ _ _ h => h) (Or.inl ⟨by rfl, ?_⟩) (by assumption) ?_
      rotate_left
      · (intro W hSw; (try dsimp only at hSw); go_simp) <;> with_reducible rfl
      try simp only [Act.put, List.getElem_toArray, List.getElem_cons_succ, List.getElem_cons_zero, List.setIfInBounds_toArray, List.set_cons_zero, List.set_cons_succ]
      refine wpAnyH_take (i := 23) (v := ?_) rfl (by kernel_rfl) (by kernel_rfl) (by kernel_rfl) (fun _ _ _ h => h) (Or.inl ⟨by rfl, ?_⟩) (by assumption) ?_
      rotate_left
      · (intro W hSw; (try dsimp only at hSw); go_simp) <;> with_reducible rfl
      try simp only [Act.put, List.getElem_toArray, List.getElem_cons_succ, List.getElem_cons_zero, List.setIfInBounds_toArray, List.set_cons_zero, List.set_cons_succ]
      refine wpAnyH_take (i := 24) (v := ?_) rfl (by kernel_rfl) (by kernel_rfl) (by kernel_rfl) (fun _ _ _ h => h) (Or.inl ⟨by rfl, ?_⟩) (by assumption) ?_
      rotate_left
      · (intro W hSw; (try dsimp only at hSw); go_simp) <;> with_reducible rfl
      try simp only [Act.put, List.getElem_toArray, List.getElem_cons_succ, List.getElem_cons_zero, List.setIfInBounds_toArray, List.set_cons_zero, List.set_cons_succ]
      refine wpAnyH_ready (rs := [21]) (by kernel_rfl) (by simp) ?_
      refine AllReadyH.cons (o := _) rfl (fun K hK => ?_) (AllReadyH.nil)
      go_simp
      go_at_call 14
      refine (loadAny hm.ar d.sa d.sn hsn ll HLL.out st HST.out).mono ?_
      rintro e w10 ⟨sp10, m10, c10, rfl, hs10, hsr10, hl10, hb⟩
      have g_hm := hm.below hb
      have g_e0 := cell_on hb e0
      have g_e1 := cell_on hb e1
      have g_hr1 := cell_on hb hr1
      have g_hr2 := cell_on hb hr2
      refine hK.out _ _ ⟨g_hm, g_e0, g_e1, g_hr1, g_hr2⟩ (fun hHeld => ?_)
      clear hK K hHeld hm e0 e1 hr1 hr2
      refine wpAnyH_weaken (S' := fun W => MS w B p q r s mem' live' peak' W ∧ W.cell? ⟨b, 0, none⟩ = some (.int .i64 d.sa) ∧ W.cell? ⟨b, 1, none⟩ = some (.int .i64 d.sn) ∧ W.cell? ⟨r, 1, none⟩ = some (.int .i64 live') ∧ W.cell? ⟨r, 2, none⟩ = some (.int .i64 peak') ∧ Src W .u8 sp10 ll ∧ (convert 36 9 (.slice sp10 m10 c10)).run Try.prog W = .ok (.string st) W) (fun W h => ⟨h.1, h.2.1, h.2.2.1, h.2.2.2.1, h.2.2.2.2.1⟩) _ _ _ _ ?_
      have g_u10 := hsr10
      have g_t10 := hs10
      try clear hb
      have hm := g_hm
      have e0 := g_e0
      have e1 := g_e1
      have hr1 := g_hr1
      have hr2 := g_hr2
      have u10 := g_u10
      have t10 := g_t10
      have hHeld : (fun W => MS w B p q r s mem' live' peak' W ∧ W.cell? ⟨b, 0, none⟩ = some (.int .i64 d.sa) ∧ W.cell? ⟨b, 1, none⟩ = some (.int .i64 d.sn) ∧ W.cell? ⟨r, 1, none⟩ = some (.int .i64 live') ∧ W.cell? ⟨r, 2, none⟩ = some (.int .i64 peak') ∧ Src W .u8 sp10 ll ∧ (convert 36 9 (.slice sp10 m10 c10)).run Try.prog W = .ok (.string st) W) _ := ⟨g_hm, g_e0, g_e1, g_hr1, g_hr2, g_u10, g_t10⟩
      clear g_hm g_e0 g_e1 g_hr1 g_hr2 g_u10 g_t10
      try simp only [Act.put, List.getElem_toArray, List.getElem_cons_succ, List.getElem_cons_zero, List.setIfInBounds_toArray, List.set_cons_zero, List.set_cons_succ]
      refine wpAnyH_take (i := 22) (v := ?_) rfl (by kernel_rfl) (by kernel_rfl) (by kernel_rfl) (fun _ _ _ h => h) (Or.inl ⟨by rfl, ?_⟩) (by assumption) ?_
      rotate_left
      · (intro W hSw; (try dsimp only at hSw); go_simp) <;> with_reducible rfl
      try simp only [Act.put, List.getElem_toArray, List.getElem_cons_succ, List.getElem_cons_zero, List.setIfInBounds_toArray, List.set_cons_zero, List.set_cons_succ]
      refine wpAnyH_ready (rs := [25]) (by kernel_rfl) (by simp) ?_
      refine AllReadyH.cons (o := _) rfl (fun K hK => ?_) (AllReadyH.nil)
      go_simp
      go_at_call 15
      refine (rloadAny hm.ra d.sa d.sn hsn ll HLL.out st HST.out).mono ?_
      rintro e w11 ⟨sp11, m11, c11, rfl, hs11, hsr11, hl11, hb⟩
      have g_hm := hm.below hb
      have g_e0 := cell_on hb e0
      have g_e1 := cell_on hb e1
      have g_hr1 := cell_on hb hr1
      have g_hr2 := cell_on hb hr2
      have g_u10 := u10.below hb
      have g_t10 := str_of (c := c10) g_u10 hl10 HST.out
      refine hK.out _ _ ⟨g_hm, g_e0, g_e1, g_hr1, g_hr2, g_u10, g_t10⟩ (fun hHeld => ?_)
      clear hK K hHeld hm e0 e1 hr1 hr2 u10 t10
      refine wpAnyH_weaken (S' := fun W => MS w B p q r s mem' live' peak' W ∧ W.cell? ⟨b, 0, none⟩ = some (.int .i64 d.sa) ∧ W.cell? ⟨b, 1, none⟩ = some (.int .i64 d.sn) ∧ W.cell? ⟨r, 1, none⟩ = some (.int .i64 live') ∧ W.cell? ⟨r, 2, none⟩ = some (.int .i64 peak') ∧ Src W .u8 sp10 ll ∧ (convert 36 9 (.slice sp10 m10 c10)).run Try.prog W = .ok (.string st) W ∧ Src W .u8 sp11 ll ∧ (convert 36 9 (.slice sp11 m11 c11)).run Try.prog W = .ok (.string st) W) (fun W h => ⟨h.1, h.2.1, h.2.2.1, h.2.2.2.1, h.2.2.2.2.1, h.2.2.2.2.2.1, h.2.2.2.2.2.2.1⟩) _ _ _ _ ?_
      have g_u11 := hsr11
      have g_t11 := hs11
      try clear hb
      have hm := g_hm
      have e0 := g_e0
      have e1 := g_e1
      have hr1 := g_hr1
      have hr2 := g_hr2
      have u10 := g_u10
      have t10 := g_t10
      have u11 := g_u11
      have t11 := g_t11
      have hHeld : (fun W => MS w B p q r s mem' live' peak' W ∧ W.cell? ⟨b, 0, none⟩ = some (.int .i64 d.sa) ∧ W.cell? ⟨b, 1, none⟩ = some (.int .i64 d.sn) ∧ W.cell? ⟨r, 1, none⟩ = some (.int .i64 live') ∧ W.cell? ⟨r, 2, none⟩ = some (.int .i64 peak') ∧ Src W .u8 sp10 ll ∧ (convert 36 9 (.slice sp10 m10 c10)).run Try.prog W = .ok (.string st) W ∧ Src W .u8 sp11 ll ∧ (convert 36 9 (.slice sp11 m11 c11)).run Try.prog W = .ok (.string st) W) _ := ⟨g_hm, g_e0, g_e1, g_hr1, g_hr2, g_u10, g_t10, g_u11, g_t11⟩
      clear g_hm g_e0 g_e1 g_hr1 g_hr2 g_u10 g_t10 g_u11 g_t11
      try simp only [Act.put, List.getElem_toArray, List.getElem_cons_succ, List.getElem_cons_zero, List.setIfInBounds_toArray, List.set_cons_zero, List.set_cons_succ]
      refine wpAnyH_take (i := 26) (v := ?_) rfl (by kernel_rfl) (by kernel_rfl) (by kernel_rfl) (fun _ _ _ h => h) (Or.inl ⟨by rfl, ?_⟩) (by assumption) ?_
      rotate_left
      · (intro W hSw; (try dsimp only at hSw); go_simp) <;> with_reducible rfl
      try simp only [Act.put, List.getElem_toArray, List.getElem_cons_succ, List.getElem_cons_zero, List.setIfInBounds_toArray, List.set_cons_zero, List.set_cons_succ]
      refine wpAnyH_take (i := 27) (v := ?_) rfl (by kernel_rfl) (by kernel_rfl) (by kernel_rfl) (fun _ _ _ h => h) (Or.inl ⟨by rfl, ?_⟩) (by assumption) ?_
      rotate_left
      · (intro W hSw; (try dsimp only at hSw); go_simp) <;> with_reducible rfl
      try simp only [Act.put, List.getElem_toArray, List.getElem_cons_succ, List.getElem_cons_zero, List.setIfInBounds_toArray, List.set_cons_zero, List.set_cons_succ]
      refine wpAnyH_take (i := 28) (v := ?_) rfl (by kernel_rfl) (by kernel_rfl) (by kernel_rfl) (fun _ _ _ h => h) (Or.inl ⟨by rfl, ?_⟩) (by assumption) ?_
      rotate_left
      · (intro W hSw; (try dsimp only at hSw); go_simp) <;> with_reducible rfl
      try simp only [Act.put, List.getElem_toArray, List.getElem_cons_succ, List.getElem_cons_zero, List.setIfInBounds_toArray, List.set_cons_zero, List.set_cons_succ]
      refine wpAnyH_take (i := 29) (v := ?_) rfl (by kernel_rfl) (by kernel_rfl) (by kernel_rfl) (fun _ _ _ h => h) (Or.inl ⟨by rfl, ?_⟩) (by assumption) ?_
      rotate_left
      · (intro W hSw; (try dsimp only at hSw); go_simp) <;> with_reducible rfl
      try simp only [Act.put, List.getElem_toArray, List.getElem_cons_succ, List.getElem_cons_zero, List.setIfInBounds_toArray, List.set_cons_zero, List.set_cons_succ]
      refine wpAnyH_take (i := 30) (v := ?_) rfl (by kernel_rfl) (by kernel_rfl) (by kernel_rfl) (fun _ _ _ h => h) (Or.inl ⟨by rfl, ?_⟩) (by assumption) ?_
      rotate_left
      · (intro W hSw; (try dsimp only at hSw); go_simp) <;> with_reducible rfl
      try simp only [Act.put, List.getElem_toArray, List.getElem_cons_succ, List.getElem_cons_zero, List.setIfInBounds_toArray, List.set_cons_zero, List.set_cons_succ]
      refine wpAnyH_take (i := 31) (v := ?_) rfl (by kernel_rfl) (by kernel_rfl) (by kernel_rfl) (fun _ _ _ h => h) (Or.inl ⟨by rfl, ?_⟩) (by assumption) ?_
      rotate_left
      · (intro W hSw; (try dsimp only at hSw); go_simp) <;> with_reducible rfl
      try simp only [Act.put, List.getElem_toArray, List.getElem_cons_succ, List.getElem_cons_zero, List.setIfInBounds_toArray, List.set_cons_zero, List.set_cons_succ]
      refine wpAnyH_take (i := 33) (v := ?_) rfl (by kernel_rfl) (by kernel_rfl) (by kernel_rfl) (fun _ _ _ h => h) (Or.inl ⟨by rfl, ?_⟩) (by assumption) ?_
      rotate_left
      · (intro W hSw; (try dsimp only at hSw); go_simp) <;> with_reducible rfl
      try simp only [Act.put, List.getElem_toArray, List.getElem_cons_succ, List.getElem_cons_zero, List.setIfInBounds_toArray, List.set_cons_zero, List.set_cons_succ]
      refine wpAnyH_take (i := 34) (v := ?_) rfl (by kernel_rfl) (by kernel_rfl) (by kernel_rfl) (fun _ _ _ h => h) (Or.inl ⟨by rfl, ?_⟩) (by assumption) ?_
      rotate_left
      · (intro W hSw; (try dsimp only at hSw); go_simp) <;> with_reducible rfl
      try simp only [Act.put, List.getElem_toArray, List.getElem_cons_succ, List.getElem_cons_zero, List.setIfInBounds_toArray, List.set_cons_zero, List.set_cons_succ]
      refine wpAnyH_ready (rs := [32]) (by kernel_rfl) (by simp) ?_
      refine AllReadyH.cons (o := _) rfl (fun K hK => ?_) (AllReadyH.nil)
      go_simp
      go_at_call 16
      refine (has_call hm.ar d.sa d.sn hsn).mono ?_
      rintro e w12 ⟨rfl, hb⟩
      rw [← HX5.out]
      have g_hm := hm.below hb
      have g_e0 := cell_on hb e0
      have g_e1 := cell_on hb e1
      have g_hr1 := cell_on hb hr1
      have g_hr2 := cell_on hb hr2
      have g_u10 := u10.below hb
      have g_t10 := str_of (c := c10) g_u10 hl10 HST.out
      have g_u11 := u11.below hb
      have g_t11 := str_of (c := c11) g_u11 hl11 HST.out
      refine hK.out _ _ ⟨g_hm, g_e0, g_e1, g_hr1, g_hr2, g_u10, g_t10, g_u11, g_t11⟩ (fun hHeld => ?_)
      clear hK K hHeld hm e0 e1 hr1 hr2 u10 t10 u11 t11
      try clear hb
      have hm := g_hm
      have e0 := g_e0
      have e1 := g_e1
      have hr1 := g_hr1
      have hr2 := g_hr2
      have u10 := g_u10
      have t10 := g_t10
      have u11 := g_u11
      have t11 := g_t11
      have hHeld : (fun W => MS w B p q r s mem' live' peak' W ∧ W.cell? ⟨b, 0, none⟩ = some (.int .i64 d.sa) ∧ W.cell? ⟨b, 1, none⟩ = some (.int .i64 d.sn) ∧ W.cell? ⟨r, 1, none⟩ = some (.int .i64 live') ∧ W.cell? ⟨r, 2, none⟩ = some (.int .i64 peak') ∧ Src W .u8 sp10 ll ∧ (convert 36 9 (.slice sp10 m10 c10)).run Try.prog W = .ok (.string st) W ∧ Src W .u8 sp11 ll ∧ (convert 36 9 (.slice sp11 m11 c11)).run Try.prog W = .ok (.string st) W) _ := ⟨g_hm, g_e0, g_e1, g_hr1, g_hr2, g_u10, g_t10, g_u11, g_t11⟩
      clear g_hm g_e0 g_e1 g_hr1 g_hr2 g_u10 g_t10 g_u11 g_t11
      try simp only [Act.put, List.getElem_toArray, List.getElem_cons_succ, List.getElem_cons_zero, List.setIfInBounds_toArray, List.set_cons_zero, List.set_cons_succ]
      refine wpAnyH_ready (rs := [35]) (by kernel_rfl) (by simp) ?_
      refine AllReadyH.cons (o := _) rfl (fun K hK => ?_) (AllReadyH.nil)
      go_simp
      go_at_call 17
      refine (rhas_call hm.ra d.sa d.sn hsn).mono ?_
      rintro e w13 ⟨rfl, hb⟩
      rw [← HX5.out]
      have g_hm := hm.below hb
      have g_e0 := cell_on hb e0
      have g_e1 := cell_on hb e1
      have g_hr1 := cell_on hb hr1
      have g_hr2 := cell_on hb hr2
      have g_u10 := u10.below hb
      have g_t10 := str_of (c := c10) g_u10 hl10 HST.out
      have g_u11 := u11.below hb
      have g_t11 := str_of (c := c11) g_u11 hl11 HST.out
      refine hK.out _ _ ⟨g_hm, g_e0, g_e1, g_hr1, g_hr2, g_u10, g_t10, g_u11, g_t11⟩ (fun hHeld => ?_)
      clear hK K hHeld hm e0 e1 hr1 hr2 u10 t10 u11 t11
      try clear hb
      have hm := g_hm
      have e0 := g_e0
      have e1 := g_e1
      have hr1 := g_hr1
      have hr2 := g_hr2
      have u10 := g_u10
      have t10 := g_t10
      have u11 := g_u11
      have t11 := g_t11
      have hHeld : (fun W => MS w B p q r s mem' live' peak' W ∧ W.cell? ⟨b, 0, none⟩ = some (.int .i64 d.sa) ∧ W.cell? ⟨b, 1, none⟩ = some (.int .i64 d.sn) ∧ W.cell? ⟨r, 1, none⟩ = some (.int .i64 live') ∧ W.cell? ⟨r, 2, none⟩ = some (.int .i64 peak') ∧ Src W .u8 sp10 ll ∧ (convert 36 9 (.slice sp10 m10 c10)).run Try.prog W = .ok (.string st) W ∧ Src W .u8 sp11 ll ∧ (convert 36 9 (.slice sp11 m11 c11)).run Try.prog W = .ok (.string st) W) _ := ⟨g_hm, g_e0, g_e1, g_hr1, g_hr2, g_u10, g_t10, g_u11, g_t11⟩
      clear g_hm g_e0 g_e1 g_hr1 g_hr2 g_u10 g_t10 g_u11 g_t11
      try simp only [Act.put, List.getElem_toArray, List.getElem_cons_succ, List.getElem_cons_zero, List.setIfInBounds_toArray, List.set_cons_zero, List.set_cons_succ]
      refine wpAnyH_take (i := 36) (v := ?_) rfl (by kernel_rfl) (by kernel_rfl) (by kernel_rfl) (fun _ _ _ h => h) (Or.inl ⟨by rfl, ?_⟩) (by assumption) ?_
      rotate_left
      · (intro W hSw; (try dsimp only at hSw); go_simp) <;> with_reducible rfl
      try simp only [Act.put, List.getElem_toArray, List.getElem_cons_succ, List.getElem_cons_zero, List.setIfInBounds_toArray, List.set_cons_zero, List.set_cons_succ]
      refine wpAnyH_take (i := 37) (v := ?_) rfl (by kernel_rfl) (by kernel_rfl) (by kernel_rfl) (fun _ _ _ h => h) (Or.inl ⟨by rfl, ?_⟩) (by assumption) ?_
      rotate_left
      · (intro W hSw; (try dsimp only at hSw); go_simp) <;> with_reducible rfl
      try simp only [Act.put, List.getElem_toArray, List.getElem_cons_succ, List.getElem_cons_zero, List.setIfInBounds_toArray, List.set_cons_zero, List.set_cons_succ]
      refine wpAnyH_take (i := 38) (v := ?_) rfl (by kernel_rfl) (by kernel_rfl) (by kernel_rfl) (fun _ _ _ h => h) (Or.inl ⟨by rfl, ?_⟩) (by assumption) ?_
      rotate_left
      · (intro W hSw; (try dsimp only at hSw); go_simp) <;> with_reducible rfl
      try simp only [Act.put, List.getElem_toArray, List.getElem_cons_succ, List.getElem_cons_zero, List.setIfInBounds_toArray, List.set_cons_zero, List.set_cons_succ]
      refine wpAnyH_take (i := 39) (v := ?_) rfl (by kernel_rfl) (by kernel_rfl) (by kernel_rfl) (fun _ _ _ h => h) (Or.inl ⟨by rfl, ?_⟩) (by assumption) ?_
      rotate_left
      · (intro W hSw; (try dsimp only at hSw); go_simp) <;> with_reducible rfl
      try simp only [Act.put, List.getElem_toArray, List.getElem_cons_succ, List.getElem_cons_zero, List.setIfInBounds_toArray, List.set_cons_zero, List.set_cons_succ]
      refine wpAnyH_take (i := 41) (v := ?_) rfl (by kernel_rfl) (by kernel_rfl) (by kernel_rfl) (fun _ _ _ h => h) (Or.inl ⟨by rfl, ?_⟩) (by assumption) ?_
      rotate_left
      · (intro W hSw; (try dsimp only at hSw); go_simp) <;> with_reducible rfl
      try simp only [Act.put, List.getElem_toArray, List.getElem_cons_succ, List.getElem_cons_zero, List.setIfInBounds_toArray, List.set_cons_zero, List.set_cons_succ]
      refine wpAnyH_take (i := 42) (v := ?_) rfl (by kernel_rfl) (by kernel_rfl) (by kernel_rfl) (fun _ _ _ h => h) (Or.inl ⟨by rfl, ?_⟩) (by assumption) ?_
      rotate_left
      · (intro W hSw; (try dsimp only at hSw); go_simp) <;> with_reducible rfl
      try simp only [Act.put, List.getElem_toArray, List.getElem_cons_succ, List.getElem_cons_zero, List.setIfInBounds_toArray, List.set_cons_zero, List.set_cons_succ]
      refine wpAnyH_take (i := 43) (v := ?_) rfl (by kernel_rfl) (by kernel_rfl) (by kernel_rfl) (fun _ _ _ h => h) (Or.inl ⟨by rfl, ?_⟩) (by assumption) ?_
      rotate_left
      · (intro W hSw; (try dsimp only at hSw); go_simp) <;> with_reducible rfl
      try simp only [Act.put, List.getElem_toArray, List.getElem_cons_succ, List.getElem_cons_zero, List.setIfInBounds_toArray, List.set_cons_zero, List.set_cons_succ]
      refine wpAnyH_take (i := 44) (v := ?_) rfl (by kernel_rfl) (by kernel_rfl) (by kernel_rfl) (fun _ _ _ h => h) (Or.inl ⟨by rfl, ?_⟩) (by assumption) ?_
      rotate_left
      · (intro W hSw; (try dsimp only at hSw); go_simp) <;> with_reducible rfl
      try simp only [Act.put, List.getElem_toArray, List.getElem_cons_succ, List.getElem_cons_zero, List.setIfInBounds_toArray, List.set_cons_zero, List.set_cons_succ]
      refine wpAnyH_ready (rs := [40]) (by kernel_rfl) (by simp) ?_
      refine AllReadyH.cons (o := _) rfl (fun K hK => ?_) (AllReadyH.nil)
      go_simp
      go_at_call 18
      refine (mark_call hm.ar).mono ?_
      rintro e w14 ⟨rfl, hb⟩
      have g_hm := hm.below hb
      have g_e0 := cell_on hb e0
      have g_e1 := cell_on hb e1
      have g_hr1 := cell_on hb hr1
      have g_hr2 := cell_on hb hr2
      have g_u10 := u10.below hb
      have g_t10 := str_of (c := c10) g_u10 hl10 HST.out
      have g_u11 := u11.below hb
      have g_t11 := str_of (c := c11) g_u11 hl11 HST.out
      refine hK.out _ _ ⟨g_hm, g_e0, g_e1, g_hr1, g_hr2, g_u10, g_t10, g_u11, g_t11⟩ (fun hHeld => ?_)
      clear hK K hHeld hm e0 e1 hr1 hr2 u10 t10 u11 t11
      try clear hb
      have hm := g_hm
      have e0 := g_e0
      have e1 := g_e1
      have hr1 := g_hr1
      have hr2 := g_hr2
      have u10 := g_u10
      have t10 := g_t10
      have u11 := g_u11
      have t11 := g_t11
      have hHeld : (fun W => MS w B p q r s mem' live' peak' W ∧ W.cell? ⟨b, 0, none⟩ = some (.int .i64 d.sa) ∧ W.cell? ⟨b, 1, none⟩ = some (.int .i64 d.sn) ∧ W.cell? ⟨r, 1, none⟩ = some (.int .i64 live') ∧ W.cell? ⟨r, 2, none⟩ = some (.int .i64 peak') ∧ Src W .u8 sp10 ll ∧ (convert 36 9 (.slice sp10 m10 c10)).run Try.prog W = .ok (.string st) W ∧ Src W .u8 sp11 ll ∧ (convert 36 9 (.slice sp11 m11 c11)).run Try.prog W = .ok (.string st) W) _ := ⟨g_hm, g_e0, g_e1, g_hr1, g_hr2, g_u10, g_t10, g_u11, g_t11⟩
      clear g_hm g_e0 g_e1 g_hr1 g_hr2 g_u10 g_t10 g_u11 g_t11
      try simp only [Act.put, List.getElem_toArray, List.getElem_cons_succ, List.getElem_cons_zero, List.setIfInBounds_toArray, List.set_cons_zero, List.set_cons_succ]
      refine wpAnyH_take (i := 45) (v := ?_) rfl (by kernel_rfl) (by kernel_rfl) (by kernel_rfl) (fun _ _ _ h => h) (Or.inl ⟨by rfl, ?_⟩) (by assumption) ?_
      rotate_left
      · (intro W hSw; (try dsimp only at hSw); go_simp) <;> with_reducible rfl
      try simp only [Act.put, List.getElem_toArray, List.getElem_cons_succ, List.getElem_cons_zero, List.setIfInBounds_toArray, List.set_cons_zero, List.set_cons_succ]
      refine wpAnyH_take (i := 46) (v := ?_) rfl (by kernel_rfl) (by kernel_rfl) (by kernel_rfl) (fun _ _ _ h => h) (Or.inl ⟨by rfl, ?_⟩) (by assumption) ?_
      rotate_left
      · (intro W hSw; (try dsimp only at hSw); go_simp) <;> with_reducible rfl
      try simp only [Act.put, List.getElem_toArray, List.getElem_cons_succ, List.getElem_cons_zero, List.setIfInBounds_toArray, List.set_cons_zero, List.set_cons_succ]
      refine wpAnyH_take (i := 47) (v := ?_) rfl (by kernel_rfl) (by kernel_rfl) (by kernel_rfl) (fun _ _ _ h => h) (Or.inl ⟨by rfl, ?_⟩) (by assumption) ?_
      rotate_left
      · (intro W hSw; (try dsimp only at hSw); go_simp) <;> with_reducible rfl
      try simp only [Act.put, List.getElem_toArray, List.getElem_cons_succ, List.getElem_cons_zero, List.setIfInBounds_toArray, List.set_cons_zero, List.set_cons_succ]
      refine wpAnyH_take (i := 48) (v := ?_) rfl (by kernel_rfl) (by kernel_rfl) (by kernel_rfl) (fun _ _ _ h => h) (Or.inl ⟨by rfl, ?_⟩) (by assumption) ?_
      rotate_left
      · (intro W hSw; (try dsimp only at hSw); go_simp) <;> with_reducible rfl
      try simp only [Act.put, List.getElem_toArray, List.getElem_cons_succ, List.getElem_cons_zero, List.setIfInBounds_toArray, List.set_cons_zero, List.set_cons_succ]
      refine wpAnyH_take (i := 50) (v := ?_) rfl (by kernel_rfl) (by kernel_rfl) (by kernel_rfl) (fun _ _ _ h => h) (Or.inl ⟨by rfl, ?_⟩) (by assumption) ?_
      rotate_left
      · (intro W hSw; (try dsimp only at hSw); go_simp) <;> with_reducible rfl
      try simp only [Act.put, List.getElem_toArray, List.getElem_cons_succ, List.getElem_cons_zero, List.setIfInBounds_toArray, List.set_cons_zero, List.set_cons_succ]
      refine wpAnyH_take (i := 51) (v := ?_) rfl (by kernel_rfl) (by kernel_rfl) (by kernel_rfl) (fun _ _ _ h => h) (Or.inl ⟨by rfl, ?_⟩) (by assumption) ?_
      rotate_left
      · (intro W hSw; (try dsimp only at hSw); go_simp) <;> with_reducible rfl
      try simp only [Act.put, List.getElem_toArray, List.getElem_cons_succ, List.getElem_cons_zero, List.setIfInBounds_toArray, List.set_cons_zero, List.set_cons_succ]
      refine wpAnyH_take (i := 52) (v := ?_) rfl (by kernel_rfl) (by kernel_rfl) (by kernel_rfl) (fun _ _ _ h => h) (Or.inl ⟨by rfl, ?_⟩) (by assumption) ?_
      rotate_left
      · (intro W hSw; (try dsimp only at hSw); go_simp) <;> with_reducible rfl
      try simp only [Act.put, List.getElem_toArray, List.getElem_cons_succ, List.getElem_cons_zero, List.setIfInBounds_toArray, List.set_cons_zero, List.set_cons_succ]
      refine wpAnyH_take (i := 53) (v := ?_) rfl (by kernel_rfl) (by kernel_rfl) (by kernel_rfl) (fun _ _ _ h => h) (Or.inl ⟨by rfl, ?_⟩) (by assumption) ?_
      rotate_left
      · (intro W hSw; (try dsimp only at hSw); go_simp) <;> with_reducible rfl
      try simp only [Act.put, List.getElem_toArray, List.getElem_cons_succ, List.getElem_cons_zero, List.setIfInBounds_toArray, List.set_cons_zero, List.set_cons_succ]
      refine wpAnyH_ready (rs := [49]) (by kernel_rfl) (by simp) ?_
      refine AllReadyH.cons (o := _) rfl (fun K hK => ?_) (AllReadyH.nil)
      go_simp
      go_at_call 19
      refine (peak_call hm.ar).mono ?_
      rintro e w15 ⟨rfl, hb⟩
      have g_hm := hm.below hb
      have g_e0 := cell_on hb e0
      have g_e1 := cell_on hb e1
      have g_hr1 := cell_on hb hr1
      have g_hr2 := cell_on hb hr2
      have g_u10 := u10.below hb
      have g_t10 := str_of (c := c10) g_u10 hl10 HST.out
      have g_u11 := u11.below hb
      have g_t11 := str_of (c := c11) g_u11 hl11 HST.out
      refine hK.out _ _ ⟨g_hm, g_e0, g_e1, g_hr1, g_hr2, g_u10, g_t10, g_u11, g_t11⟩ (fun hHeld => ?_)
      clear hK K hHeld hm e0 e1 hr1 hr2 u10 t10 u11 t11
      try clear hb
      have hm := g_hm
      have e0 := g_e0
      have e1 := g_e1
      have hr1 := g_hr1
      have hr2 := g_hr2
      have u10 := g_u10
      have t10 := g_t10
      have u11 := g_u11
      have t11 := g_t11
      have hHeld : (fun W => MS w B p q r s mem' live' peak' W ∧ W.cell? ⟨b, 0, none⟩ = some (.int .i64 d.sa) ∧ W.cell? ⟨b, 1, none⟩ = some (.int .i64 d.sn) ∧ W.cell? ⟨r, 1, none⟩ = some (.int .i64 live') ∧ W.cell? ⟨r, 2, none⟩ = some (.int .i64 peak') ∧ Src W .u8 sp10 ll ∧ (convert 36 9 (.slice sp10 m10 c10)).run Try.prog W = .ok (.string st) W ∧ Src W .u8 sp11 ll ∧ (convert 36 9 (.slice sp11 m11 c11)).run Try.prog W = .ok (.string st) W) _ := ⟨g_hm, g_e0, g_e1, g_hr1, g_hr2, g_u10, g_t10, g_u11, g_t11⟩
      clear g_hm g_e0 g_e1 g_hr1 g_hr2 g_u10 g_t10 g_u11 g_t11
      try simp only [Act.put, List.getElem_toArray, List.getElem_cons_succ, List.getElem_cons_zero, List.setIfInBounds_toArray, List.set_cons_zero, List.set_cons_succ]
      refine wpAnyH_take (i := 54) (v := ?_) rfl (by kernel_rfl) (by kernel_rfl) (by kernel_rfl) (fun _ _ _ h => h) (Or.inl ⟨by rfl, ?_⟩) (by assumption) ?_
      rotate_left
      · (intro W hSw; (try dsimp only at hSw); go_simp) <;> with_reducible rfl
      try simp only [Act.put, List.getElem_toArray, List.getElem_cons_succ, List.getElem_cons_zero, List.setIfInBounds_toArray, List.set_cons_zero, List.set_cons_succ]
      refine wpAnyH_take (i := 55) (v := ?_) rfl (by kernel_rfl) (by kernel_rfl) (by kernel_rfl) (fun _ _ _ h => h) (Or.inl ⟨by rfl, ?_⟩) (by assumption) ?_
      rotate_left
      · (intro W hSw; (try dsimp only at hSw); go_simp) <;> with_reducible rfl
      try simp only [Act.put, List.getElem_toArray, List.getElem_cons_succ, List.getElem_cons_zero, List.setIfInBounds_toArray, List.set_cons_zero, List.set_cons_succ]
      refine wpAnyH_take (i := 56) (v := ?_) rfl (by kernel_rfl) (by kernel_rfl) (by kernel_rfl) (fun _ _ _ h => h) (Or.inl ⟨by rfl, ?_⟩) (by assumption) ?_
      rotate_left
      · (intro W hSw; (try dsimp only at hSw); go_simp) <;> with_reducible rfl
      try simp only [Act.put, List.getElem_toArray, List.getElem_cons_succ, List.getElem_cons_zero, List.setIfInBounds_toArray, List.set_cons_zero, List.set_cons_succ]
      refine wpAnyH_take (i := 57) (v := ?_) rfl (by kernel_rfl) (by kernel_rfl) (by kernel_rfl) (fun _ _ _ h => h) (Or.inl ⟨by rfl, ?_⟩) (by assumption) ?_
      rotate_left
      · (intro W hSw; (try dsimp only at hSw); go_simp) <;> with_reducible rfl
      try simp only [Act.put, List.getElem_toArray, List.getElem_cons_succ, List.getElem_cons_zero, List.setIfInBounds_toArray, List.set_cons_zero, List.set_cons_succ]
      refine wpAnyH_take (i := 59) (v := ?_) rfl (by kernel_rfl) (by kernel_rfl) (by kernel_rfl) (fun _ _ _ h => h) (Or.inl ⟨by rfl, ?_⟩) (by assumption) ?_
      rotate_left
      · (intro W hSw; (try dsimp only at hSw); go_simp) <;> with_reducible rfl
      try simp only [Act.put, List.getElem_toArray, List.getElem_cons_succ, List.getElem_cons_zero, List.setIfInBounds_toArray, List.set_cons_zero, List.set_cons_succ]
      refine wpAnyH_take (i := 60) (v := ?_) rfl (by kernel_rfl) (by kernel_rfl) (by kernel_rfl) (fun _ _ _ h => h) (Or.inl ⟨by rfl, ?_⟩) (by assumption) ?_
      rotate_left
      · (intro W hSw; (try dsimp only at hSw); go_simp) <;> with_reducible rfl
      try simp only [Act.put, List.getElem_toArray, List.getElem_cons_succ, List.getElem_cons_zero, List.setIfInBounds_toArray, List.set_cons_zero, List.set_cons_succ]
      refine wpAnyH_take (i := 61) (v := ?_) rfl (by kernel_rfl) (by kernel_rfl) (by kernel_rfl) (fun _ _ _ h => h) (Or.inl ⟨by rfl, ?_⟩) (by assumption) ?_
      rotate_left
      · (intro W hSw; (try dsimp only at hSw); go_simp) <;> with_reducible rfl
      try simp only [Act.put, List.getElem_toArray, List.getElem_cons_succ, List.getElem_cons_zero, List.setIfInBounds_toArray, List.set_cons_zero, List.set_cons_succ]
      refine wpAnyH_take (i := 62) (v := ?_) rfl (by kernel_rfl) (by kernel_rfl) (by kernel_rfl) (fun _ _ _ h => h) (Or.inl ⟨by rfl, ?_⟩) (by assumption) ?_
      rotate_left
      · (intro W hSw; (try dsimp only at hSw); go_simp) <;> with_reducible rfl
      try simp only [Act.put, List.getElem_toArray, List.getElem_cons_succ, List.getElem_cons_zero, List.setIfInBounds_toArray, List.set_cons_zero, List.set_cons_succ]
      refine wpAnyH_take (i := 63) (v := ?_) rfl (by kernel_rfl) (by kernel_rfl) (by kernel_rfl) (fun _ _ _ h => h) (Or.inl ⟨by rfl, ?_⟩) (by assumption) ?_
      rotate_left
      · (intro W hSw; (try dsimp only at hSw); go_simp) <;> with_reducible rfl
      try simp only [Act.put, List.getElem_toArray, List.getElem_cons_succ, List.getElem_cons_zero, List.setIfInBounds_toArray, List.set_cons_zero, List.set_cons_succ]
      refine wpAnyH_take (i := 64) (v := ?_) rfl (by kernel_rfl) (by kernel_rfl) (by kernel_rfl) (fun _ _ _ h => h) (Or.inl ⟨by rfl, ?_⟩) (by assumption) ?_
      rotate_left
      · (intro W hSw; (try dsimp only at hSw); go_simp) <;> with_reducible rfl
      try simp only [Act.put, List.getElem_toArray, List.getElem_cons_succ, List.getElem_cons_zero, List.setIfInBounds_toArray, List.set_cons_zero, List.set_cons_succ]
      refine wpAnyH_ready (rs := [58]) (by kernel_rfl) (by simp) ?_
      refine AllReadyH.cons (o := _) rfl (fun K hK => ?_) (AllReadyH.nil)
      go_simp
      go_at_call 20
      refine (left_call hm.ar).mono ?_
      rintro e w16 ⟨rfl, hb⟩
      rw [HLEN.out]
      have g_hm := hm.below hb
      have g_e0 := cell_on hb e0
      have g_e1 := cell_on hb e1
      have g_hr1 := cell_on hb hr1
      have g_hr2 := cell_on hb hr2
      have g_u10 := u10.below hb
      have g_t10 := str_of (c := c10) g_u10 hl10 HST.out
      have g_u11 := u11.below hb
      have g_t11 := str_of (c := c11) g_u11 hl11 HST.out
      refine hK.out _ _ ⟨g_hm, g_e0, g_e1, g_hr1, g_hr2, g_u10, g_t10, g_u11, g_t11⟩ (fun hHeld => ?_)
      clear hK K hHeld hm e0 e1 hr1 hr2 u10 t10 u11 t11
      try clear hb
      have hm := g_hm
      have e0 := g_e0
      have e1 := g_e1
      have hr1 := g_hr1
      have hr2 := g_hr2
      have u10 := g_u10
      have t10 := g_t10
      have u11 := g_u11
      have t11 := g_t11
      have hHeld : (fun W => MS w B p q r s mem' live' peak' W ∧ W.cell? ⟨b, 0, none⟩ = some (.int .i64 d.sa) ∧ W.cell? ⟨b, 1, none⟩ = some (.int .i64 d.sn) ∧ W.cell? ⟨r, 1, none⟩ = some (.int .i64 live') ∧ W.cell? ⟨r, 2, none⟩ = some (.int .i64 peak') ∧ Src W .u8 sp10 ll ∧ (convert 36 9 (.slice sp10 m10 c10)).run Try.prog W = .ok (.string st) W ∧ Src W .u8 sp11 ll ∧ (convert 36 9 (.slice sp11 m11 c11)).run Try.prog W = .ok (.string st) W) _ := ⟨g_hm, g_e0, g_e1, g_hr1, g_hr2, g_u10, g_t10, g_u11, g_t11⟩
      clear g_hm g_e0 g_e1 g_hr1 g_hr2 g_u10 g_t10 g_u11 g_t11
      try simp only [Act.put, List.getElem_toArray, List.getElem_cons_succ, List.getElem_cons_zero, List.setIfInBounds_toArray, List.set_cons_zero, List.set_cons_succ]
      refine wpAnyH_take (i := 65) (v := ?_) rfl (by kernel_rfl) (by kernel_rfl) (by kernel_rfl) (fun _ _ _ h => h) (Or.inl ⟨by rfl, ?_⟩) (by assumption) ?_
      rotate_left
      · (intro W hSw; (try dsimp only at hSw); go_simp) <;> with_reducible rfl
      try simp only [Act.put, List.getElem_toArray, List.getElem_cons_succ, List.getElem_cons_zero, List.setIfInBounds_toArray, List.set_cons_zero, List.set_cons_succ]
      refine wpAnyH_take (i := 66) (v := ?_) rfl (by kernel_rfl) (by kernel_rfl) (by kernel_rfl) (fun _ _ _ h => h) (Or.inl ⟨by rfl, ?_⟩) (by assumption) ?_
      rotate_left
      · (intro W hSw; (try dsimp only at hSw); go_simp) <;> with_reducible rfl
      try simp only [Act.put, List.getElem_toArray, List.getElem_cons_succ, List.getElem_cons_zero, List.setIfInBounds_toArray, List.set_cons_zero, List.set_cons_succ]
      refine wpAnyH_done (by kernel_rfl) ?_ _
      refine NoPanic.normal ?_
      go_wp2
      go_roundw
      case rel => exact ⟨k + 1, mem', live', peak', by omega, by go_num, hm, HLEN.out⟩
      case measure => simp [intOf]; omega
    · obtain rfl : k = n := by omega
      have hll := HM1.out.ar.ll
      have c0 := HM1.out.ra.c0
      have c1 := HM1.out.ra.c1
      rw [hlen] at c0 hll
      obtain ⟨st, hst⟩ : ∃ st, st = bstr (seg mem 0 live) := ⟨_, rfl⟩
      have HST := Lib.hid hst
      have hlv : loadL mem live 0 live = seg mem 0 live := by unfold loadL; rw [if_pos (by simp [hasB])]; rfl
      have HLV := Lib.hid hlv.symm
      have hsl : (seg mem 0 live).length = live := seg_length _ _ _ (by omega)
      have HSL := Lib.hid hsl
      have hm := HM1.out.below (W' := wr.drew) ⟨rfl, rfl, rfl, Nat.le_refl _, fun _ _ => rfl⟩
      have sv : (convert 36 9 (.slice (some ⟨s, 0, none⟩) live bu)).run Try.prog wr.drew = .ok (.string st) wr.drew :=
        str_of (Src.row (o := 0) hm.ra.hq live (by omega)) hsl hst
      have g1 : (live : Int) ≤ (bu : Int) := by omega
      have g2 : (0 : Int) ≤ (live : Int) := by omega
      clear HM1 hlen hll hst hlv hsl
      go_wp2_with fail
      refine wp_region_noPanic ?_
      refine wp_region_held_drew (S := fun W => MS w B p q r s mem live peak W ∧ W.cell? ⟨r, 0, none⟩ = some (.slice (some ⟨s, 0, none⟩) bu bu) ∧ W.cell? ⟨r, 1, none⟩ = some (.int .i64 live) ∧ (convert 36 9 (.slice (some ⟨s, 0, none⟩) live bu)).run Try.prog W = .ok (.string st) W) (by kernel_rfl) ⟨hm, c0, c1, sv⟩ (fun hHeld => ?_)
      refine wpAnyH_take (i := 0) (v := ?_) rfl (by kernel_rfl) (by kernel_rfl) (by kernel_rfl) (fun _ _ _ h => h) (Or.inl ⟨by rfl, ?_⟩) (by assumption) ?_
      rotate_left
      · (intro W hSw; (try dsimp only at hSw); go_simp) <;> with_reducible rfl
      try simp only [Act.put, List.getElem_toArray, List.getElem_cons_succ, List.getElem_cons_zero, List.setIfInBounds_toArray, List.set_cons_zero, List.set_cons_succ]
      refine wpAnyH_take (i := 1) (v := ?_) rfl (by kernel_rfl) (by kernel_rfl) (by kernel_rfl) (fun _ _ _ h => h) (Or.inl ⟨by rfl, ?_⟩) (by assumption) ?_
      rotate_left
      · (intro W hSw; (try dsimp only at hSw); go_simp) <;> with_reducible rfl
      try simp only [Act.put, List.getElem_toArray, List.getElem_cons_succ, List.getElem_cons_zero, List.setIfInBounds_toArray, List.set_cons_zero, List.set_cons_succ]
      refine wpAnyH_take (i := 2) (v := ?_) rfl (by kernel_rfl) (by kernel_rfl) (by kernel_rfl) (fun _ _ _ h => h) (Or.inl ⟨by rfl, ?_⟩) (by assumption) ?_
      rotate_left
      · (intro W hSw; (try dsimp only at hSw); go_simp) <;> with_reducible rfl
      try simp only [Act.put, List.getElem_toArray, List.getElem_cons_succ, List.getElem_cons_zero, List.setIfInBounds_toArray, List.set_cons_zero, List.set_cons_succ]
      refine wpAnyH_take (i := 3) (v := ?_) rfl (by kernel_rfl) (by kernel_rfl) (by kernel_rfl) (fun _ _ _ h => h) (Or.inl ⟨by rfl, ?_⟩) (by assumption) ?_
      rotate_left
      · (intro W hSw; (try dsimp only at hSw); go_simp) <;> with_reducible rfl
      try simp only [Act.put, List.getElem_toArray, List.getElem_cons_succ, List.getElem_cons_zero, List.setIfInBounds_toArray, List.set_cons_zero, List.set_cons_succ]
      refine wpAnyH_take (i := 4) (v := ?_) rfl (by kernel_rfl) (by kernel_rfl) (by kernel_rfl) (fun _ _ _ h => h) (Or.inl ⟨by rfl, ?_⟩) (by assumption) ?_
      rotate_left
      · (intro W hSw; (try dsimp only at hSw); go_simp) <;> with_reducible rfl
      try simp only [Act.put, List.getElem_toArray, List.getElem_cons_succ, List.getElem_cons_zero, List.setIfInBounds_toArray, List.set_cons_zero, List.set_cons_succ]
      refine wpAnyH_take (i := 5) (v := ?_) rfl (by kernel_rfl) (by kernel_rfl) (by kernel_rfl) (fun _ _ _ h => h) (Or.inl ⟨by rfl, ?_⟩) (by assumption) ?_
      rotate_left
      · (intro W hSw; (try dsimp only at hSw); go_simp) <;> with_reducible rfl
      try simp only [Act.put, List.getElem_toArray, List.getElem_cons_succ, List.getElem_cons_zero, List.setIfInBounds_toArray, List.set_cons_zero, List.set_cons_succ]
      refine wpAnyH_take (i := 8) (v := ?_) rfl (by kernel_rfl) (by kernel_rfl) (by kernel_rfl) (fun _ _ _ h => h) (Or.inl ⟨by rfl, ?_⟩) (by assumption) ?_
      rotate_left
      · (intro W hSw; (try dsimp only at hSw); go_simp) <;> with_reducible rfl
      try simp only [Act.put, List.getElem_toArray, List.getElem_cons_succ, List.getElem_cons_zero, List.setIfInBounds_toArray, List.set_cons_zero, List.set_cons_succ]
      refine wpAnyH_take (i := 9) (v := ?_) rfl (by kernel_rfl) (by kernel_rfl) (by kernel_rfl) (fun _ _ _ h => h) (Or.inl ⟨by rfl, ?_⟩) (by assumption) ?_
      rotate_left
      · (intro W hSw; (try dsimp only at hSw); go_simp) <;> with_reducible rfl
      try simp only [Act.put, List.getElem_toArray, List.getElem_cons_succ, List.getElem_cons_zero, List.setIfInBounds_toArray, List.set_cons_zero, List.set_cons_succ]
      refine wpAnyH_take (i := 10) (v := ?_) rfl (by kernel_rfl) (by kernel_rfl) (by kernel_rfl) (fun _ _ _ h => h) (Or.inl ⟨by rfl, ?_⟩) (by assumption) ?_
      rotate_left
      · (intro W hSw; (try dsimp only at hSw); go_simp) <;> with_reducible rfl
      try simp only [Act.put, List.getElem_toArray, List.getElem_cons_succ, List.getElem_cons_zero, List.setIfInBounds_toArray, List.set_cons_zero, List.set_cons_succ]
      refine wpAnyH_take (i := 11) (v := ?_) rfl (by kernel_rfl) (by kernel_rfl) (by kernel_rfl) (fun _ _ _ h => h) (Or.inl ⟨by rfl, ?_⟩) (by assumption) ?_
      rotate_left
      · (intro W hSw; (try dsimp only at hSw); go_simp) <;> with_reducible rfl
      try simp only [Act.put, List.getElem_toArray, List.getElem_cons_succ, List.getElem_cons_zero, List.setIfInBounds_toArray, List.set_cons_zero, List.set_cons_succ]
      refine wpAnyH_take (i := 12) (v := ?_) rfl (by kernel_rfl) (by kernel_rfl) (by kernel_rfl) (fun _ _ _ h => h) (Or.inl ⟨by rfl, ?_⟩) (by assumption) ?_
      rotate_left
      · (intro W hSw; (try dsimp only at hSw); go_simp) <;> with_reducible rfl
      try simp only [Act.put, List.getElem_toArray, List.getElem_cons_succ, List.getElem_cons_zero, List.setIfInBounds_toArray, List.set_cons_zero, List.set_cons_succ]
      refine wpAnyH_take (i := 13) (v := ?_) rfl (by kernel_rfl) (by kernel_rfl) (by kernel_rfl) (fun _ _ _ h => h) (Or.inl ⟨by rfl, ?_⟩) (by assumption) ?_
      rotate_left
      · (intro W hSw; (try dsimp only at hSw); go_simp) <;> with_reducible rfl
      try simp only [Act.put, List.getElem_toArray, List.getElem_cons_succ, List.getElem_cons_zero, List.setIfInBounds_toArray, List.set_cons_zero, List.set_cons_succ]
      refine wpAnyH_take (i := 14) (v := ?_) rfl (by kernel_rfl) (by kernel_rfl) (by kernel_rfl) (fun _ _ _ h => h) (Or.inl ⟨by rfl, ?_⟩) (by assumption) ?_
      rotate_left
      · (intro W hSw; (try dsimp only at hSw); go_simp) <;> with_reducible rfl
      try simp only [Act.put, List.getElem_toArray, List.getElem_cons_succ, List.getElem_cons_zero, List.setIfInBounds_toArray, List.set_cons_zero, List.set_cons_succ]
      refine wpAnyH_take (i := 15) (v := ?_) rfl (by kernel_rfl) (by kernel_rfl) (by kernel_rfl) (fun _ _ _ h => h) (Or.inl ⟨by rfl, ?_⟩) (by assumption) ?_
      rotate_left
      · (intro W hSw; (try dsimp only at hSw); go_simp) <;> with_reducible rfl
      try simp only [Act.put, List.getElem_toArray, List.getElem_cons_succ, List.getElem_cons_zero, List.setIfInBounds_toArray, List.set_cons_zero, List.set_cons_succ]
      refine wpAnyH_take (i := 16) (v := ?_) rfl (by kernel_rfl) (by kernel_rfl) (by kernel_rfl) (fun _ _ _ h => h) (Or.inl ⟨by rfl, ?_⟩) (by assumption) ?_
      rotate_left
      · (intro W hSw; (try dsimp only at hSw); go_simp) <;> with_reducible rfl
      try simp only [Act.put, List.getElem_toArray, List.getElem_cons_succ, List.getElem_cons_zero, List.setIfInBounds_toArray, List.set_cons_zero, List.set_cons_succ]
      refine wpAnyH_take (i := 17) (v := ?_) rfl (by kernel_rfl) (by kernel_rfl) (by kernel_rfl) (fun _ _ _ h => h) (Or.inl ⟨by rfl, ?_⟩) (by assumption) ?_
      rotate_left
      · (intro W hSw; (try dsimp only at hSw); go_simp) <;> with_reducible rfl
      try simp only [Act.put, List.getElem_toArray, List.getElem_cons_succ, List.getElem_cons_zero, List.setIfInBounds_toArray, List.set_cons_zero, List.set_cons_succ]
      refine wpAnyH_ready (rs := [6]) (by kernel_rfl) (by simp) ?_
      refine AllReadyH.cons (o := _) rfl (fun K hK => ?_) (AllReadyH.nil)
      go_simp
      go_at_call 14
      refine (loadAny hm.ar 0 live (by omega) (seg mem 0 live) HLV.out st HST.out).mono ?_
      rintro e w10 ⟨sp10, m10, c10, rfl, hs10, hsr10, hl10, hb⟩
      have g_hm := hm.below hb
      have g_c0 := cell_on hb c0
      have g_c1 := cell_on hb c1
      have g_sv := str_of (c := bu) (Src.row (o := 0) g_hm.ra.hq live (by have := g_hm.ra.ll; omega)) HSL.out HST.out
      refine hK.out _ _ ⟨g_hm, g_c0, g_c1, g_sv⟩ (fun hHeld => ?_)
      clear hK K hHeld hm c0 c1 sv
      refine wpAnyH_weaken (S' := fun W => MS w B p q r s mem live peak W ∧ W.cell? ⟨r, 0, none⟩ = some (.slice (some ⟨s, 0, none⟩) bu bu) ∧ W.cell? ⟨r, 1, none⟩ = some (.int .i64 live) ∧ (convert 36 9 (.slice (some ⟨s, 0, none⟩) live bu)).run Try.prog W = .ok (.string st) W ∧ Src W .u8 sp10 (seg mem 0 live) ∧ (convert 36 9 (.slice sp10 m10 c10)).run Try.prog W = .ok (.string st) W) (fun W h => ⟨h.1, h.2.1, h.2.2.1, h.2.2.2.1⟩) _ _ _ _ ?_
      have g_u10 := hsr10
      have g_t10 := hs10
      try clear hb
      have hm := g_hm
      have c0 := g_c0
      have c1 := g_c1
      have sv := g_sv
      have u10 := g_u10
      have t10 := g_t10
      have hHeld : (fun W => MS w B p q r s mem live peak W ∧ W.cell? ⟨r, 0, none⟩ = some (.slice (some ⟨s, 0, none⟩) bu bu) ∧ W.cell? ⟨r, 1, none⟩ = some (.int .i64 live) ∧ (convert 36 9 (.slice (some ⟨s, 0, none⟩) live bu)).run Try.prog W = .ok (.string st) W ∧ Src W .u8 sp10 (seg mem 0 live) ∧ (convert 36 9 (.slice sp10 m10 c10)).run Try.prog W = .ok (.string st) W) _ := ⟨g_hm, g_c0, g_c1, g_sv, g_u10, g_t10⟩
      clear g_hm g_c0 g_c1 g_sv g_u10 g_t10
      try simp only [Act.put, List.getElem_toArray, List.getElem_cons_succ, List.getElem_cons_zero, List.setIfInBounds_toArray, List.set_cons_zero, List.set_cons_succ]
      refine wpAnyH_take (i := 7) (v := ?_) rfl (by kernel_rfl) (by kernel_rfl) (by kernel_rfl) (fun _ _ _ h => h) (Or.inl ⟨by rfl, ?_⟩) (by assumption) ?_
      rotate_left
      · (intro W hSw; (try dsimp only at hSw); go_simp) <;> with_reducible rfl
      try simp only [Act.put, List.getElem_toArray, List.getElem_cons_succ, List.getElem_cons_zero, List.setIfInBounds_toArray, List.set_cons_zero, List.set_cons_succ]
      refine wpAnyH_take (i := 18) (v := ?_) rfl (by kernel_rfl) (by kernel_rfl) (by kernel_rfl) (fun _ _ _ h => h) (Or.inl ⟨by rfl, ?_⟩) (by assumption) ?_
      rotate_left
      · (intro W hSw; (try dsimp only at hSw); go_simp) <;> with_reducible rfl
      try simp only [Act.put, List.getElem_toArray, List.getElem_cons_succ, List.getElem_cons_zero, List.setIfInBounds_toArray, List.set_cons_zero, List.set_cons_succ]
      refine wpAnyH_take (i := 19) (v := ?_) rfl (by kernel_rfl) (by kernel_rfl) (by kernel_rfl) (fun _ _ _ h => h) (Or.inl ⟨by rfl, ?_⟩) (by assumption) ?_
      rotate_left
      · (intro W hSw; (try dsimp only at hSw); go_simp) <;> with_reducible rfl
      try simp only [Act.put, List.getElem_toArray, List.getElem_cons_succ, List.getElem_cons_zero, List.setIfInBounds_toArray, List.set_cons_zero, List.set_cons_succ]
      refine wpAnyH_ready (rs := [20]) (by kernel_rfl) (by simp) ?_
      refine AllReadyH.cons (o := _) rfl (fun K hK => ?_) (AllReadyH.nil)
      go_simp
      go_at_call 5
      refine (wakes_call _).mono ?_
      rintro e w11 ⟨rfl, hb⟩
      have g_hm := hm.below hb
      have g_c0 := cell_on hb c0
      have g_c1 := cell_on hb c1
      have g_sv := str_of (c := bu) (Src.row (o := 0) g_hm.ra.hq live (by have := g_hm.ra.ll; omega)) HSL.out HST.out
      have g_u10 := u10.below hb
      have g_t10 := str_of (c := c10) g_u10 hl10 HST.out
      refine hK.out _ _ ⟨g_hm, g_c0, g_c1, g_sv, g_u10, g_t10⟩ (fun hHeld => ?_)
      clear hK K hHeld hm c0 c1 sv u10 t10
      try clear hb
      have hm := g_hm
      have c0 := g_c0
      have c1 := g_c1
      have sv := g_sv
      have u10 := g_u10
      have t10 := g_t10
      have hHeld : (fun W => MS w B p q r s mem live peak W ∧ W.cell? ⟨r, 0, none⟩ = some (.slice (some ⟨s, 0, none⟩) bu bu) ∧ W.cell? ⟨r, 1, none⟩ = some (.int .i64 live) ∧ (convert 36 9 (.slice (some ⟨s, 0, none⟩) live bu)).run Try.prog W = .ok (.string st) W ∧ Src W .u8 sp10 (seg mem 0 live) ∧ (convert 36 9 (.slice sp10 m10 c10)).run Try.prog W = .ok (.string st) W) _ := ⟨g_hm, g_c0, g_c1, g_sv, g_u10, g_t10⟩
      clear g_hm g_c0 g_c1 g_sv g_u10 g_t10
      try simp only [Act.put, List.getElem_toArray, List.getElem_cons_succ, List.getElem_cons_zero, List.setIfInBounds_toArray, List.set_cons_zero, List.set_cons_succ]
      refine wpAnyH_take (i := 21) (v := ?_) rfl (by kernel_rfl) (by kernel_rfl) (by kernel_rfl) (fun _ _ _ h => h) (Or.inl ⟨by rfl, ?_⟩) (by assumption) ?_
      rotate_left
      · (intro W hSw; (try dsimp only at hSw); go_simp) <;> with_reducible rfl
      try simp only [Act.put, List.getElem_toArray, List.getElem_cons_succ, List.getElem_cons_zero, List.setIfInBounds_toArray, List.set_cons_zero, List.set_cons_succ]
      refine wpAnyH_take (i := 22) (v := ?_) rfl (by kernel_rfl) (by kernel_rfl) (by kernel_rfl) (fun _ _ _ h => h) (Or.inl ⟨by rfl, ?_⟩) (by assumption) ?_
      rotate_left
      · (intro W hSw; (try dsimp only at hSw); go_simp) <;> with_reducible rfl
      try simp only [Act.put, List.getElem_toArray, List.getElem_cons_succ, List.getElem_cons_zero, List.setIfInBounds_toArray, List.set_cons_zero, List.set_cons_succ]
      refine wpAnyH_done (by kernel_rfl) ?_ _
      refine NoPanic.normal ?_
      go_wp2
      go_ret
      exact ⟨rfl, hm.bel⟩

theorem am_call (a0 : Option Addr) (n c : Nat) (bu : Int) (w : World) (D : List ADeed) (hl : D.length = n) (hs : ASrc w a0 D) (hok : ∀ d ∈ D, OkA w d) (hc : n ≤ c) (hm : c ≤ maxLen) :
    Calls Try.prog 3 #[.int .i64 bu, .slice a0 n c] w fun e w' => e = .returned (.bool true) ∧ Below w.heap.size w w' := by
  unfold maxLen at hm
  by_cases h1 : smallA D = false ∨ (4000 < bu ∧ bu ≤ 1048576)
  · exact am_big a0 n c bu w D hl hs hok (by omega) h1
  · have h2 : smallA D = true := by
      cases h : smallA D with
      | true => rfl
      | false => exact (h1 (.inl h)).elim
    by_cases h3 : bu < 1 ∨ 1048576 < bu
    · exact am_bad a0 n c bu w D hl hs hok (by omega) h2 h3
    · obtain ⟨m, rfl⟩ := Int.eq_ofNat_of_zero_le (show 0 ≤ bu by omega)
      exact am_good a0 n c m w D hl hs hok (by omega) h2 (by omega) (by omega)
end Go.Proofs.Ytipliponbcjgdaa
