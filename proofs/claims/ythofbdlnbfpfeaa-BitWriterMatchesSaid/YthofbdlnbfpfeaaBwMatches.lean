/- The walk over winepresslaw02.BitWriterMatches. -/
import Derived.Test.YthofbdlnbfpfeaaRef02b
import Derived.Test.YthofbdlnbfpfeaaDeeds
import Derived.Deep.RegionHeld3
import Derived.Deep.DeepCutAuto
set_option linter.unusedVariables false
set_option linter.unusedSimpArgs false
namespace Go.Proofs.Ythofbdlnbfpfeaa
open Go.RowKit

def getOk (n : Nat) (at_ wd : Int) : Bool := decide (0 ≤ wd ∧ wd ≤ 32 ∧ 0 ≤ at_ ∧ at_ + wd ≤ 8 * n)
def getVal (l : List Int) (at_ wd : Int) : Int := if getOk l.length at_ wd then valV (((bitsB l).drop at_.toNat).take wd.toNat) else 0
theorem get_any (w : World) (sp : Option Addr) (n c : Nat) (l : List Int) (hl : l.length = n) (hS : Src w .u8 sp l) (hb : ∀ x ∈ l, 0 ≤ x ∧ x ≤ 255) (hs : n ≤ 1000000) (at_ wd : Int) (hat : at_ ≤ 9223372036854775807) :
    Calls Try.prog 15 #[.slice sp n c, .int .i64 at_, .int .i64 wd] w fun e w' => e = .returned (.tuple #[.int .u32 (getVal l at_ wd), .bool (getOk n at_ wd)]) ∧ Below w.heap.size w w' := by
  subst hl
  unfold getVal
  by_cases h : getOk l.length at_ wd = true
  · rw [if_pos h, h]
    have h2 := of_decide_eq_true h
    obtain ⟨a, rfl⟩ := Int.eq_ofNat_of_zero_le h2.2.2.1
    obtain ⟨m, rfl⟩ := Int.eq_ofNat_of_zero_le h2.1
    exact get_yes w sp _ c l rfl hS hb a m (by omega) (by omega) (by omega)
  · rw [if_neg h, show getOk l.length at_ wd = false by simpa using h]
    have h2 : ¬ _ := fun e => h (decide_eq_true e)
    exact (get_no w sp _ c at_ wd (by omega) hat h2).mono fun e w' ⟨h3, h4⟩ => ⟨h3, h4 ▸ Below.refl _ _⟩
theorem rget_any (w : World) (sp : Option Addr) (n c : Nat) (l : List Int) (hl : l.length = n) (hS : Src w .u8 sp l) (hb : ∀ x ∈ l, 0 ≤ x ∧ x ≤ 255) (hs : n ≤ 1000000) (at_ wd : Int) (hat : at_ ≤ 9223372036854775807) :
    Calls Try.prog 16 #[.slice sp n c, .int .i64 at_, .int .i64 wd] w fun e w' => e = .returned (.tuple #[.int .u32 (getVal l at_ wd), .bool (getOk n at_ wd)]) ∧ Below w.heap.size w w' := by
  subst hl
  unfold getVal
  by_cases h : getOk l.length at_ wd = true
  · rw [if_pos h, h]
    have h2 := of_decide_eq_true h
    obtain ⟨a, rfl⟩ := Int.eq_ofNat_of_zero_le h2.2.2.1
    obtain ⟨m, rfl⟩ := Int.eq_ofNat_of_zero_le h2.1
    exact rget_yes w sp _ c l rfl hS hb hs a m (by omega) (by omega)
  · rw [if_neg h, show getOk l.length at_ wd = false by simpa using h]
    have h2 : ¬ _ := fun e => h (decide_eq_true e)
    exact rget_no w sp _ c l rfl hS hb hs at_ wd hat h2

set_option maxRecDepth 100000 in
set_option maxHeartbeats 1000000 in
theorem matches_long (a0 a1 : Option Addr) (n0 c0 n1 c1 : Nat) (at_ wd : Int) (w : World) (h : ¬ (n0 ≤ 60 ∧ n1 ≤ 300)) (h0 : n0 ≤ 9223372036854775807) (h1 : n1 ≤ 9223372036854775807) :
    Calls Try.prog 3 #[.slice a0 n0 c0, .slice a1 n1 c1, .int .i64 at_, .int .i64 wd] w fun e w' => e = .returned (.bool true) ∧ Below w.heap.size w w' := by
  by_cases h2 : n0 ≤ 60
  · have d1 : decide ((60 : Int) < (n0 : Int)) = false := by simp; omega
    have d2 : decide ((300 : Int) < (n1 : Int)) = true := by simp; omega
    clear h
    go_enter Try.func3, Try.ntmps3
    go_wp2_with fail
    refine (wakes_call w).mono ?_
    rintro e w1 ⟨rfl, hb⟩
    go_wp2
    go_ret
    exact ⟨rfl, hb⟩
  · have d1 : decide ((60 : Int) < (n0 : Int)) = true := by simp; omega
    clear h
    go_enter Try.func3, Try.ntmps3
    go_wp2_with fail
    refine (wakes_call w).mono ?_
    rintro e w1 ⟨rfl, hb⟩
    go_wp2
    go_ret
    exact ⟨rfl, hb⟩

/-- Both writers hold the same bits; what there was is as it was. -/
structure MS (w : World) (B p r : Nat) (A Ar : Option Nat) (c cr : Nat) (bs : List Int) (W : World) : Prop where
  wr : Wr W p A c bs
  rr : Rr W r Ar cr bs
  fpw : ∀ k, Fp p A k → B ≤ k
  fpr : ∀ k, Fp r Ar k → B ≤ k
  bel : Below B w W
  sz : B ≤ W.heap.size
theorem MS.below {w W W' : World} {B p r : Nat} {A Ar : Option Nat} {c cr : Nat} {bs : List Int} (h : MS w B p r A Ar c cr bs W) (hb : Below W.heap.size W W') : MS w B p r A Ar c cr bs W' :=
  ⟨h.wr.below hb, h.rr.below hb, h.fpw, h.fpr, h.bel.trans (hb.mono h.sz), Nat.le_trans h.sz hb.size⟩
theorem MS.drew {w W : World} {B p r : Nat} {A Ar : Option Nat} {c cr : Nat} {bs : List Int} (h : MS w B p r A Ar c cr bs W) : MS w B p r A Ar c cr bs W.drew := h.below ⟨rfl, rfl, rfl, Nat.le_refl _, fun _ _ => rfl⟩
theorem two_ne {w : World} {p r : Nat} {A Ar : Option Nat} {c cr : Nat} {bs bs' : List Int} (h : Wr w p A c bs) (h' : Rr w r Ar cr bs') (k : Nat) (hk : Fp p A k) : ¬ Fp r Ar k := by
  have e1 : ∃ t cs, w.heap[k]? = some (.cells cs t (0, 0)) ∧ (t = 52 ∨ t = 5) := by
    rcases hk with rfl | hk
    · exact ⟨_, _, h.hp, .inl rfl⟩
    · subst hk
      obtain ⟨cur, h1, _⟩ := h.row.row
      exact ⟨_, _, h1, .inr rfl⟩
  have e2 : Fp r Ar k → ∃ t cs, w.heap[k]? = some (.cells cs t (0, 0)) ∧ (t = 30 ∨ t = 3) := fun hk => by
    rcases hk with rfl | hk
    · exact ⟨_, _, h'.hp, .inl rfl⟩
    · subst hk
      obtain ⟨cur, h1, _⟩ := h'.row.row
      exact ⟨_, _, h1, .inr rfl⟩
  intro hr
  obtain ⟨t, cs, h1, h2⟩ := e1
  obtain ⟨t', cs', h3, h4⟩ := e2 hr
  rw [h1] at h3
  injection h3 with h3
  injection h3 with _ h3
  rcases h2 with rfl | rfl <;> rcases h4 with rfl | rfl <;> revert h3 <;> decide

/-- The string of a writer's bytes, told by a name. -/
theorem bytesP {B : Nat} {w : World} {p : Nat} {A : Option Nat} {c : Nat} {bs : List Int} (h : WrB B w p A c bs) (n : Nat) (hn : (bs.length + 7) / 8 = n) (st : ByteArray) (hl : bstr (packB bs) = st) :
    Calls Try.prog 13 #[.pointer (some ⟨p, 0, none⟩)] w fun e w' => ∃ g : Nat, e = .returned (.slice (some ⟨g, 0, none⟩) n n) ∧
      w'.heap[g]? = some (.cells (icells .u8 (packB bs)) 5 (0, 0)) ∧ (convert 23 9 (.slice (some ⟨g, 0, none⟩) n n)).run Try.prog w' = .ok (.string st) w' ∧ Below w.heap.size w w' := by
  subst hl
  exact bytesB h n hn _ rfl
theorem again {w w' : World} {g : Nat} {bs : List Int} (hg : w.heap[g]? = some (.cells (icells .u8 (packB bs)) 5 (0, 0))) (hb : Below w.heap.size w w') (n : Nat) (hn : (bs.length + 7) / 8 = n) (st : ByteArray) (hl : bstr (packB bs) = st) :
    (convert 23 9 (.slice (some ⟨g, 0, none⟩) n n)).run Try.prog w' = .ok (.string st) w' := by
  subst hl
  subst hn
  exact run_bstr (P := Try.prog) sliceT byteT strT w' _ _ _ _ (packB_length _) (Src.whole ((hb.block g (Array.getElem?_eq_some_iff.1 hg).1).trans hg))
/-- The reference's bytes, and their string. -/
theorem rbytesP (w : World) (sp : Option Addr) (c n m : Nat) {bs : List Int} (hl : bs.length = n) (hS : Src w .i64 sp bs) (hb : Bin bs) (hs : n ≤ 1000000) (hm : m = (n + 7) / 8) (st : ByteArray) (hst : bstr (packB bs) = st) :
    Calls Try.prog 14 #[.slice sp n c] w fun e w' => ∃ A c', e = .returned (.slice (ad0 A) m c') ∧ (convert 23 9 (.slice (ad0 A) m c')).run Try.prog w' = .ok (.string st) w' ∧ Below w.heap.size w w' := by
  subst hst
  subst hm
  refine (rbytes_call w sp n c bs hl hS hb hs).mono ?_
  rintro e w' ⟨A, c', rfl, ho, _, hbl⟩
  exact ⟨A, c', rfl, run_bstr (P := Try.prog) sliceT byteT strT w' _ _ _ _ (by rw [packB_length, hl]) ho.src, hbl⟩
def MSx (w : World) (B p r : Nat) (A : Option Nat) (c : Nat) (bs : List Int) (W : World) : Prop := ∃ Ar cr, MS w B p r A Ar c cr bs W

set_option maxRecDepth 100000 in
set_option maxHeartbeats 4000000 in
theorem matches_short (a0 a1 : Option Addr) (n c0 n1 c1 : Nat) (at_ wd : Int) (w : World) (D : List Deed) (hl : D.length = n) (hs : DSrc w a0 D) (hok : ∀ d ∈ D, okDeed d) (h : n ≤ 60)
    (l : List Int) (hl1 : l.length = n1) (hs1 : Src w .u8 a1 l) (hby : ∀ x ∈ l, 0 ≤ x ∧ x ≤ 255) (h1 : n1 ≤ 300) (hat : at_ ≤ 9223372036854775807) :
    Calls Try.prog 3 #[.slice a0 n c0, .slice a1 n1 c1, .int .i64 at_, .int .i64 wd] w fun e w' => e = .returned (.bool true) ∧ Below w.heap.size w w' := by
  have d1 : decide ((60 : Int) < (n : Int)) = false := by simp; omega
  have d2 : decide ((300 : Int) < (n1 : Int)) = false := by simp; omega
  obtain ⟨B, hB⟩ : ∃ B, B = w.heap.size := ⟨_, rfl⟩
  rw [← hB]
  have hB' := Lib.hid hB
  have HL := Lib.hid hl
  have HS := Lib.hid hs
  have HOK := Lib.hid hok
  have HL1 := Lib.hid hl1
  have HS1 := Lib.hid hs1
  have HBY := Lib.hid hby
  clear hB hl hs hok hl1 hs1 hby
  go_enter Try.func3, Try.ntmps3
  go_wp2_with fail
  refine (newB B w (by rw [hB'.out]; exact Nat.le_refl _)).mono ?_
  rintro e w1 ⟨rfl, hw1, hb⟩
  rw [← hB'.out] at hw1 hb ⊢
  have hr1 : Rr (w1.alloc (.cells #[.slice none 0 0] 30)) w1.heap.size none 0 [] := ⟨heap_alloc_new w1 _, OwnS.nil _ _ _, by simp⟩
  have hms : MS w B B w1.heap.size none none 0 0 [] (w1.alloc (.cells #[.slice none 0 0] 30)) :=
    ⟨hw1.wr.alloc _, hr1, hw1.fp, fun k hk => (by
      rcases hk with rfl | hk
      · exact hw1.sz
      · cases hk), hb.alloc hw1.sz _, Nat.le_trans hw1.sz (by simp)⟩
  obtain ⟨r, hr⟩ : ∃ r, r = w1.heap.size := ⟨_, rfl⟩
  rw [← hr] at hms
  have HMS := Lib.hid hms
  have HR := Lib.hid hr
  clear hb hw1 hr1 hms hr
  go_wp2_with fail
  rw [← HR.out]
  go_loopw [11] (fun x wr => ∃ (k : Nat) (A : Option Nat) (c : Nat) (Ar : Option Nat) (cr : Nat), k ≤ n ∧ x = .int .i64 k ∧ MS w B B r A Ar c cr (runD (D.take k)) wr) (fun x _ => n - (intOf x).toNat)
  case atStart => exact ⟨0, none, 0, none, 0, Nat.zero_le _, rfl, HMS.out⟩
  case round =>
    obtain ⟨k, A, c, Ar, cr, hk, rfl, hms⟩ := hrel
    have HM := Lib.hid hms
    clear hms
    by_cases hlt : k < n
    · obtain ⟨d, hd⟩ : ∃ d, D[k]? = some d := ⟨D[k]'(by rw [HL.out]; exact hlt), List.getElem?_eq_getElem _⟩
      have hdo := HOK.out d (List.mem_of_getElem? hd)
      have hrl := runD_len D k (by rw [HL.out]; omega)
      have hrs := runD_snoc D k d hd
      have hDS := HS.out
      rcases hDS with rfl | ⟨gd, od, rfl, hcd⟩
      · simp at hd
      obtain ⟨hc1, hc2, hc3⟩ := hcd k d hd
      have hgB : gd < B := by rw [hB'.out]; exact World.block_lt_of_cell? w _ hc1
      have hc11 := (HM.out.bel.cell (p := ⟨gd, od + k * 3, none⟩) hgB).trans hc1
      have hc12 := (HM.out.bel.cell (p := ⟨gd, od + k * 3 + 1, none⟩) hgB).trans hc2
      have hc13 := (HM.out.bel.cell (p := ⟨gd, od + k * 3 + 2, none⟩) hgB).trans hc3
      have HRS := Lib.hid hrs
      have HDO := Lib.hid hdo
      have HC1 := Lib.hid hc1
      have HC2 := Lib.hid hc2
      have HC3 := Lib.hid hc3
      obtain ⟨bs, hbs⟩ : ∃ bs, bs = runD (D.take k) := ⟨_, rfl⟩
      have HBS := Lib.hid hbs
      rw [← hbs] at HM hrl HRS
      clear hd hdo hrs hcd hbs hc1 hc2 hc3
      go_wp2_with fail
      refine (does_call HM.out.wr d HDO.out (by omega)).mono ?_
      rintro e w2 ⟨rfl, A2, c2, hw2, hC2, hA2⟩
      have hr2 := HM.out.rr.ch hC2 (fun j hj e => two_ne HM.out.wr HM.out.rr j e hj)
      have hb2 := HM.out.bel.trans (hC2.below HM.out.sz HM.out.fpw)
      have hs2 := Nat.le_trans HM.out.sz hC2.size
      have hfp2 : ∀ j, Fp B A2 j → B ≤ j := fun j hj => by
        rcases hj with rfl | hj
        · exact Nat.le_refl _
        · rcases hA2 j hj with h3 | h3
          · exact HM.out.fpw j (.inr h3)
          · exact Nat.le_trans HM.out.sz h3
      have hc21 := (hb2.cell (p := ⟨gd, od + k * 3, none⟩) hgB).trans HC1.out
      have hc22 := (hb2.cell (p := ⟨gd, od + k * 3 + 1, none⟩) hgB).trans HC2.out
      have hc23 := (hb2.cell (p := ⟨gd, od + k * 3 + 2, none⟩) hgB).trans HC3.out
      have HW2 := Lib.hid hw2
      have HR2 := Lib.hid hr2
      have HB2 := Lib.hid hb2
      have HF2 := Lib.hid hfp2
      have HFR := Lib.hid HM.out.fpr
      clear hw2 hr2 hC2 hA2 hb2 hfp2 hc11 hc12 hc13
      obtain ⟨v, wd2, pad⟩ := d
      dsimp only at hc21 hc22 hc23
      go_upto_if 51 with fail
      go_cut [14, 15] (fun s14 s15 wx => s14 = .int .i64 ((if pad then lackN bs.length else 0 : Nat) : Int) ∧ s15 = .bool (pad || fitsD ⟨v, wd2, pad⟩) ∧ MSx w B B r A2 c2 (stepD bs ⟨v, wd2, pad⟩) wx)
      case first =>
        cases pad with
        | true =>
          go_wp2_with fail
          refine (rpad_call HR2.out (by omega)).mono ?_
          rintro e w3 ⟨rfl, Ar3, cr3, hr3, hC3, hA3⟩
          have hw3 := HW2.out.ch hC3 (fun j hj e => two_ne HW2.out HR2.out j hj e)
          have hms3 : MS w B B r A2 Ar3 c2 cr3 (stepD bs ⟨v, wd2, true⟩) w3 := ⟨hw3, hr3, HF2.out, fun j hj => by
            rcases hj with rfl | hj
            · exact HFR.out _ (.inl rfl)
            · rcases hA3 j hj with h3 | h3
              · exact HFR.out j (.inr h3)
              · exact Nat.le_trans hs2 h3, HB2.out.trans (hC3.below hs2 HFR.out), Nat.le_trans hs2 hC3.size⟩
          have H3 := Lib.hid hms3
          clear hw3 hms3 hr3 hC3 hA3
          go_wp2
          all_goals go_meet
          all_goals exact ⟨rfl, rfl, Ar3, cr3, H3.out⟩
        | false =>
          have hS0 : w2.drew.cell? ⟨gd, od + k * 3, none⟩ = some (.int .u32 v) ∧ w2.drew.cell? ⟨gd, od + k * 3 + 1, none⟩ = some (.int .i64 wd2) := ⟨hc21, hc22⟩
          have hrd : Rr w2.drew r Ar cr bs := HR2.out.below ⟨rfl, rfl, rfl, Nat.le_refl _, fun _ _ => rfl⟩
          have hwd : Wr w2.drew B A2 c2 (stepD bs ⟨v, wd2, false⟩) := HW2.out.below ⟨rfl, rfl, rfl, Nat.le_refl _, fun _ _ => rfl⟩
          have HRD := Lib.hid hrd
          have HWD := Lib.hid hwd
          clear hrd hwd
          go_wp2_with fail
          go_region_held3 (fun W => W.cell? ⟨gd, od + k * 3, none⟩ = some (.int .u32 v) ∧ W.cell? ⟨gd, od + k * 3 + 1, none⟩ = some (.int .i64 wd2)) (first | exact hS0 | exact hS6)
            ((go_at_call 11; refine (rput_call HRD.out ⟨v, wd2, false⟩ HDO.out rfl (by omega)).mono ?_; rintro e w3 ⟨rfl, Ar3, cr3, hr3, hC3, hA3⟩; have hb3 : Below B w w3 := HB2.out.drew.trans (hC3.below hs2 HFR.out); have hS6 := And.intro ((hb3.cell (p := ⟨gd, od + k * 3, none⟩) hgB).trans HC1.out) ((hb3.cell (p := ⟨gd, od + k * 3 + 1, none⟩) hgB).trans HC2.out)))
          have hw3 := HWD.out.ch hC3 (fun j hj e => two_ne HWD.out HRD.out j hj e)
          have hms3 : MS w B B r A2 Ar3 c2 cr3 (stepD bs ⟨v, wd2, false⟩) w3 := ⟨hw3, hr3, HF2.out, fun j hj => by
            rcases hj with rfl | hj
            · exact HFR.out _ (.inl rfl)
            · rcases hA3 j hj with h3 | h3
              · exact HFR.out j (.inr h3)
              · exact Nat.le_trans hs2 h3, hb3, Nat.le_trans hs2 hC3.size⟩
          have H3 := Lib.hid hms3
          clear hw3 hms3 hr3 hC3 hA3 hS0 hS6 hb3
          go_wp2
          all_goals go_meet
          all_goals exact ⟨rfl, rfl, Ar3, cr3, H3.out⟩
      case rest =>
        obtain ⟨rfl, rfl, Ar3, cr3, hms3⟩ := hcut
        obtain ⟨x, hx⟩ : ∃ x : Int, x = ((if pad then lackN bs.length else 0 : Nat) : Int) := ⟨_, rfl⟩
        obtain ⟨y, hy⟩ : ∃ y : Bool, y = (pad || fitsD ⟨v, wd2, pad⟩) := ⟨_, rfl⟩
        rw [← hx, ← hy]
        clear hx hy
        have dx : (x != x) = false := by simp
        have dy : (y != y) = false := by cases y <;> rfl
        have hel := extD_len bs.length ⟨v, wd2, pad⟩
        obtain ⟨bs2, hbs2⟩ : ∃ b, b = stepD bs ⟨v, wd2, pad⟩ := ⟨_, rfl⟩
        have hlen2 : bs2.length ≤ 2000 := by rw [hbs2]; unfold stepD; rw [List.length_append]; omega
        rw [← hbs2] at hms3
        have HBS2 := Lib.hid hbs2
        obtain ⟨N, hN⟩ : ∃ N, N = bs2.length := ⟨_, rfl⟩
        obtain ⟨m, hm⟩ : ∃ m, m = (bs2.length + 7) / 8 := ⟨_, rfl⟩
        obtain ⟨st, hst⟩ : ∃ st, st = bstr (packB bs2) := ⟨_, rfl⟩
        have hcr := hms3.rr.c0
        rw [← hN] at hcr
        have HN := Lib.hid hN
        have HMM := Lib.hid hm
        have HST := Lib.hid hst
        have hN6 : N ≤ 2000 := by omega
        have hm6 : m ≤ 1000 := by omega
        have hQ0 : MS w B B r A2 Ar3 c2 cr3 bs2 wc.drew ∧ wc.drew.cell? ⟨r, 0, none⟩ = some (.slice (ad0 Ar3) N cr3) := ⟨hms3.drew, hcr⟩
        clear hbs2 hN hm hst hcr hc21 hc22 hc23 hel hlen2 hms3
        go_wp2_with fail
        refine wp_region_noPanic ?_
        refine wp_region_held_drew (S := (fun W => MS w B B r A2 Ar3 c2 cr3 bs2 W ∧ W.cell? ⟨r, 0, none⟩ = some (.slice (ad0 Ar3) N cr3))) (by kernel_rfl) ?_ (fun hHeld => ?_)
        · assumption
        refine wpAnyH_take (i := 0) (v := ?_) rfl (by kernel_rfl) (by kernel_rfl) (by kernel_rfl) (fun _ _ _ h => h) (Or.inl ⟨by rfl, ?_⟩) (by assumption) ?_
        rotate_left
        · (intro W hSw; (try dsimp only at hSw); go_simp) <;> with_reducible rfl
        try simp only [Act.put, List.getElem_toArray, List.getElem_cons_succ, List.getElem_cons_zero, List.setIfInBounds_toArray, List.set_cons_zero, List.set_cons_succ]
        refine wpAnyH_take (i := 1) (v := ?_) rfl (by kernel_rfl) (by kernel_rfl) (by kernel_rfl) (fun _ _ _ h => h) (Or.inl ⟨by rfl, ?_⟩) (by assumption) ?_
        rotate_left
        · (intro W hSw; (try dsimp only at hSw); go_simp) <;> with_reducible rfl
        try simp only [Act.put, List.getElem_toArray, List.getElem_cons_succ, List.getElem_cons_zero, List.setIfInBounds_toArray, List.set_cons_zero, List.set_cons_succ]
        refine wpAnyH_take (i := 2) (v := ?_) rfl (by kernel_rfl) (by kernel_rfl) (by kernel_rfl) (fun _ _ _ h => h) (Or.inl ⟨by rfl, ?_⟩) (by assumption) ?_
        rotate_left
        · (intro W hSw; (try dsimp only at hSw); go_simp) <;> with_reducible rfl
        try simp only [Act.put, List.getElem_toArray, List.getElem_cons_succ, List.getElem_cons_zero, List.setIfInBounds_toArray, List.set_cons_zero, List.set_cons_succ]
        refine wpAnyH_take (i := 3) (v := ?_) rfl (by kernel_rfl) (by kernel_rfl) (by kernel_rfl) (fun _ _ _ h => h) (Or.inl ⟨by rfl, ?_⟩) (by assumption) ?_
        rotate_left
        · (intro W hSw; (try dsimp only at hSw); go_simp) <;> with_reducible rfl
        try simp only [Act.put, List.getElem_toArray, List.getElem_cons_succ, List.getElem_cons_zero, List.setIfInBounds_toArray, List.set_cons_zero, List.set_cons_succ]
        refine wpAnyH_take (i := 4) (v := ?_) rfl (by kernel_rfl) (by kernel_rfl) (by kernel_rfl) (fun _ _ _ h => h) (Or.inl ⟨by rfl, ?_⟩) (by assumption) ?_
        rotate_left
        · (intro W hSw; (try dsimp only at hSw); go_simp) <;> with_reducible rfl
        try simp only [Act.put, List.getElem_toArray, List.getElem_cons_succ, List.getElem_cons_zero, List.setIfInBounds_toArray, List.set_cons_zero, List.set_cons_succ]
        refine wpAnyH_take (i := 5) (v := ?_) rfl (by kernel_rfl) (by kernel_rfl) (by kernel_rfl) (fun _ _ _ h => h) (Or.inl ⟨by rfl, ?_⟩) (by assumption) ?_
        rotate_left
        · (intro W hSw; (try dsimp only at hSw); go_simp) <;> with_reducible rfl
        try simp only [Act.put, List.getElem_toArray, List.getElem_cons_succ, List.getElem_cons_zero, List.setIfInBounds_toArray, List.set_cons_zero, List.set_cons_succ]
        refine wpAnyH_take (i := 6) (v := ?_) rfl (by kernel_rfl) (by kernel_rfl) (by kernel_rfl) (fun _ _ _ h => h) (Or.inl ⟨by rfl, ?_⟩) (by assumption) ?_
        rotate_left
        · (intro W hSw; (try dsimp only at hSw); go_simp) <;> with_reducible rfl
        try simp only [Act.put, List.getElem_toArray, List.getElem_cons_succ, List.getElem_cons_zero, List.setIfInBounds_toArray, List.set_cons_zero, List.set_cons_succ]
        refine wpAnyH_take (i := 7) (v := ?_) rfl (by kernel_rfl) (by kernel_rfl) (by kernel_rfl) (fun _ _ _ h => h) (Or.inl ⟨by rfl, ?_⟩) (by assumption) ?_
        rotate_left
        · (intro W hSw; (try dsimp only at hSw); go_simp) <;> with_reducible rfl
        try simp only [Act.put, List.getElem_toArray, List.getElem_cons_succ, List.getElem_cons_zero, List.setIfInBounds_toArray, List.set_cons_zero, List.set_cons_succ]
        refine wpAnyH_take (i := 8) (v := ?_) rfl (by kernel_rfl) (by kernel_rfl) (by kernel_rfl) (fun _ _ _ h => h) (Or.inl ⟨by rfl, ?_⟩) (by assumption) ?_
        rotate_left
        · (intro W hSw; (try dsimp only at hSw); go_simp) <;> with_reducible rfl
        try simp only [Act.put, List.getElem_toArray, List.getElem_cons_succ, List.getElem_cons_zero, List.setIfInBounds_toArray, List.set_cons_zero, List.set_cons_succ]
        refine wpAnyH_take (i := 9) (v := ?_) rfl (by kernel_rfl) (by kernel_rfl) (by kernel_rfl) (fun _ _ _ h => h) (Or.inl ⟨by rfl, ?_⟩) (by assumption) ?_
        rotate_left
        · (intro W hSw; (try dsimp only at hSw); go_simp) <;> with_reducible rfl
        try simp only [Act.put, List.getElem_toArray, List.getElem_cons_succ, List.getElem_cons_zero, List.setIfInBounds_toArray, List.set_cons_zero, List.set_cons_succ]
        refine wpAnyH_take (i := 11) (v := ?_) rfl (by kernel_rfl) (by kernel_rfl) (by kernel_rfl) (fun _ _ _ h => h) (Or.inl ⟨by rfl, ?_⟩) (by assumption) ?_
        rotate_left
        · (intro W hSw; (try dsimp only at hSw); go_simp) <;> with_reducible rfl
        try simp only [Act.put, List.getElem_toArray, List.getElem_cons_succ, List.getElem_cons_zero, List.setIfInBounds_toArray, List.set_cons_zero, List.set_cons_succ]
        refine wpAnyH_take (i := 12) (v := ?_) rfl (by kernel_rfl) (by kernel_rfl) (by kernel_rfl) (fun _ _ _ h => h) (Or.inl ⟨by rfl, ?_⟩) (by assumption) ?_
        rotate_left
        · (intro W hSw; (try dsimp only at hSw); go_simp) <;> with_reducible rfl
        try simp only [Act.put, List.getElem_toArray, List.getElem_cons_succ, List.getElem_cons_zero, List.setIfInBounds_toArray, List.set_cons_zero, List.set_cons_succ]
        refine wpAnyH_take (i := 13) (v := ?_) rfl (by kernel_rfl) (by kernel_rfl) (by kernel_rfl) (fun _ _ _ h => h) (Or.inl ⟨by rfl, ?_⟩) (by assumption) ?_
        rotate_left
        · (intro W hSw; (try dsimp only at hSw); go_simp) <;> with_reducible rfl
        try simp only [Act.put, List.getElem_toArray, List.getElem_cons_succ, List.getElem_cons_zero, List.setIfInBounds_toArray, List.set_cons_zero, List.set_cons_succ]
        refine wpAnyH_take (i := 14) (v := ?_) rfl (by kernel_rfl) (by kernel_rfl) (by kernel_rfl) (fun _ _ _ h => h) (Or.inl ⟨by rfl, ?_⟩) (by assumption) ?_
        rotate_left
        · (intro W hSw; (try dsimp only at hSw); go_simp) <;> with_reducible rfl
        try simp only [Act.put, List.getElem_toArray, List.getElem_cons_succ, List.getElem_cons_zero, List.setIfInBounds_toArray, List.set_cons_zero, List.set_cons_succ]
        refine wpAnyH_take (i := 15) (v := ?_) rfl (by kernel_rfl) (by kernel_rfl) (by kernel_rfl) (fun _ _ _ h => h) (Or.inl ⟨by rfl, ?_⟩) (by assumption) ?_
        rotate_left
        · (intro W hSw; (try dsimp only at hSw); go_simp) <;> with_reducible rfl
        try simp only [Act.put, List.getElem_toArray, List.getElem_cons_succ, List.getElem_cons_zero, List.setIfInBounds_toArray, List.set_cons_zero, List.set_cons_succ]
        refine wpAnyH_ready (rs := [10]) (by kernel_rfl) (by simp) ?_
        refine AllReadyH.cons (o := _) rfl (fun K hK => ?_) (AllReadyH.nil)
        go_simp
        first
          | (go_at_call 12; refine (wlenN (bs := bs2) (A := A2) (c := c2) (by (rename MS _ _ _ _ _ _ _ _ _ _ ∧ _ => hQ); exact hQ.1.wr) N HN.out.symm).mono ?_; rintro e w' ⟨rfl, rfl⟩)
          | (go_at_call 13; refine (bytesP (B := 0) (A := A2) (c := c2) (by (rename MS _ _ _ _ _ _ _ _ _ _ ∧ _ => hQ); exact ⟨hQ.1.wr, fun _ _ => Nat.zero_le _, Nat.zero_le _⟩) m HMM.out.symm st HST.out.symm).mono ?_; rintro e w6 ⟨g6, rfl, hg6, hs6, hb6⟩; (rename MS _ _ _ _ _ _ _ _ _ _ ∧ _ => hQ); have hQ6 := And.intro (hQ.1.below hb6) ((hb6.cell (World.block_lt_of_cell? _ _ hQ.2)).trans hQ.2); clear hQ)
          | (go_at_call 14; refine (rbytesP (bs := bs2) _ _ _ N m HN.out.symm (by (rename MS _ _ _ _ _ _ _ _ _ _ ∧ _ => hQ); exact hQ.1.rr.row.src) (by (rename MS _ _ _ _ _ _ _ _ _ _ ∧ _ => hQ); exact hQ.1.wr.bin) (by omega) (by rw [HN.out, HMM.out]) st HST.out.symm).mono ?_; rintro e w7 ⟨A7, c7, rfl, hs7, hb7⟩; (rename MS _ _ _ _ _ _ _ _ _ _ ∧ _ => hQ); have hQ7 := And.intro (hQ.1.below hb7) ((hb7.cell (World.block_lt_of_cell? _ _ hQ.2)).trans hQ.2); have hs67 := again hg6 hb7 m HMM.out.symm st HST.out.symm; clear hQ)
        refine hK.out _ _ ?_ (fun hHeld => ?_)
        · assumption
        clear hK K
        try simp only [Act.put, List.getElem_toArray, List.getElem_cons_succ, List.getElem_cons_zero, List.setIfInBounds_toArray, List.set_cons_zero, List.set_cons_succ]
        refine wpAnyH_take (i := 16) (v := ?_) rfl (by kernel_rfl) (by kernel_rfl) (by kernel_rfl) (fun _ _ _ h => h) (Or.inl ⟨by rfl, ?_⟩) (by assumption) ?_
        rotate_left
        · (intro W hSw; (try dsimp only at hSw); go_simp) <;> with_reducible rfl
        try simp only [Act.put, List.getElem_toArray, List.getElem_cons_succ, List.getElem_cons_zero, List.setIfInBounds_toArray, List.set_cons_zero, List.set_cons_succ]
        refine wpAnyH_take (i := 17) (v := ?_) rfl (by kernel_rfl) (by kernel_rfl) (by kernel_rfl) (fun _ _ _ h => h) (Or.inl ⟨by rfl, ?_⟩) (by assumption) ?_
        rotate_left
        · (intro W hSw; (try dsimp only at hSw); go_simp) <;> with_reducible rfl
        try simp only [Act.put, List.getElem_toArray, List.getElem_cons_succ, List.getElem_cons_zero, List.setIfInBounds_toArray, List.set_cons_zero, List.set_cons_succ]
        refine wpAnyH_take (i := 18) (v := ?_) rfl (by kernel_rfl) (by kernel_rfl) (by kernel_rfl) (fun _ _ _ h => h) (Or.inl ⟨by rfl, ?_⟩) (by assumption) ?_
        rotate_left
        · (intro W hSw; (try dsimp only at hSw); go_simp) <;> with_reducible rfl
        try simp only [Act.put, List.getElem_toArray, List.getElem_cons_succ, List.getElem_cons_zero, List.setIfInBounds_toArray, List.set_cons_zero, List.set_cons_succ]
        refine wpAnyH_take (i := 19) (v := ?_) rfl (by kernel_rfl) (by kernel_rfl) (by kernel_rfl) (fun _ _ _ h => h) (Or.inl ⟨by rfl, ?_⟩) (by assumption) ?_
        rotate_left
        · (intro W hSw; (try dsimp only at hSw); go_simp) <;> with_reducible rfl
        try simp only [Act.put, List.getElem_toArray, List.getElem_cons_succ, List.getElem_cons_zero, List.setIfInBounds_toArray, List.set_cons_zero, List.set_cons_succ]
        refine wpAnyH_take (i := 22) (v := ?_) rfl (by kernel_rfl) (by kernel_rfl) (by kernel_rfl) (fun _ _ _ h => h) (Or.inl ⟨by rfl, ?_⟩) (by assumption) ?_
        rotate_left
        · (intro W hSw; (try dsimp only at hSw); go_simp) <;> with_reducible rfl
        try simp only [Act.put, List.getElem_toArray, List.getElem_cons_succ, List.getElem_cons_zero, List.setIfInBounds_toArray, List.set_cons_zero, List.set_cons_succ]
        refine wpAnyH_take (i := 23) (v := ?_) rfl (by kernel_rfl) (by kernel_rfl) (by kernel_rfl) (fun _ _ _ h => h) (Or.inl ⟨by rfl, ?_⟩) (by assumption) ?_
        rotate_left
        · (intro W hSw; (try dsimp only at hSw); go_simp) <;> with_reducible rfl
        try simp only [Act.put, List.getElem_toArray, List.getElem_cons_succ, List.getElem_cons_zero, List.setIfInBounds_toArray, List.set_cons_zero, List.set_cons_succ]
        refine wpAnyH_take (i := 24) (v := ?_) rfl (by kernel_rfl) (by kernel_rfl) (by kernel_rfl) (fun _ _ _ h => h) (Or.inl ⟨by rfl, ?_⟩) (by assumption) ?_
        rotate_left
        · (intro W hSw; (try dsimp only at hSw); go_simp) <;> with_reducible rfl
        try simp only [Act.put, List.getElem_toArray, List.getElem_cons_succ, List.getElem_cons_zero, List.setIfInBounds_toArray, List.set_cons_zero, List.set_cons_succ]
        refine wpAnyH_take (i := 25) (v := ?_) rfl (by kernel_rfl) (by kernel_rfl) (by kernel_rfl) (fun _ _ _ h => h) (Or.inl ⟨by rfl, ?_⟩) (by assumption) ?_
        rotate_left
        · (intro W hSw; (try dsimp only at hSw); go_simp) <;> with_reducible rfl
        try simp only [Act.put, List.getElem_toArray, List.getElem_cons_succ, List.getElem_cons_zero, List.setIfInBounds_toArray, List.set_cons_zero, List.set_cons_succ]
        refine wpAnyH_ready (rs := [20]) (by kernel_rfl) (by simp) ?_
        refine AllReadyH.cons (o := _) rfl (fun K hK => ?_) (AllReadyH.nil)
        go_simp
        first
          | (go_at_call 12; refine (wlenN (bs := bs2) (A := A2) (c := c2) (by (rename MS _ _ _ _ _ _ _ _ _ _ ∧ _ => hQ); exact hQ.1.wr) N HN.out.symm).mono ?_; rintro e w' ⟨rfl, rfl⟩)
          | (go_at_call 13; refine (bytesP (B := 0) (A := A2) (c := c2) (by (rename MS _ _ _ _ _ _ _ _ _ _ ∧ _ => hQ); exact ⟨hQ.1.wr, fun _ _ => Nat.zero_le _, Nat.zero_le _⟩) m HMM.out.symm st HST.out.symm).mono ?_; rintro e w6 ⟨g6, rfl, hg6, hs6, hb6⟩; (rename MS _ _ _ _ _ _ _ _ _ _ ∧ _ => hQ); have hQ6 := And.intro (hQ.1.below hb6) ((hb6.cell (World.block_lt_of_cell? _ _ hQ.2)).trans hQ.2); clear hQ)
          | (go_at_call 14; refine (rbytesP (bs := bs2) _ _ _ N m HN.out.symm (by (rename MS _ _ _ _ _ _ _ _ _ _ ∧ _ => hQ); exact hQ.1.rr.row.src) (by (rename MS _ _ _ _ _ _ _ _ _ _ ∧ _ => hQ); exact hQ.1.wr.bin) (by omega) (by rw [HN.out, HMM.out]) st HST.out.symm).mono ?_; rintro e w7 ⟨A7, c7, rfl, hs7, hb7⟩; (rename MS _ _ _ _ _ _ _ _ _ _ ∧ _ => hQ); have hQ7 := And.intro (hQ.1.below hb7) ((hb7.cell (World.block_lt_of_cell? _ _ hQ.2)).trans hQ.2); have hs67 := again hg6 hb7 m HMM.out.symm st HST.out.symm; clear hQ)
        refine hK.out _ _ ?_ (fun hHeld => ?_)
        · assumption
        clear hK K
        try simp only [Act.put, List.getElem_toArray, List.getElem_cons_succ, List.getElem_cons_zero, List.setIfInBounds_toArray, List.set_cons_zero, List.set_cons_succ]
        refine wpAnyH_ready (rs := [21, 26]) (by kernel_rfl) (by simp) ?_
        refine AllReadyH.cons (o := _) rfl (fun K hK => ?_) (AllReadyH.cons (o := _) rfl (fun K hK => ?_) (AllReadyH.nil))
        · go_simp
          refine hK.out _ _ ?_ (fun hHeld => ?_)
          · assumption
          clear hK K
          try simp only [Act.put, List.getElem_toArray, List.getElem_cons_succ, List.getElem_cons_zero, List.setIfInBounds_toArray, List.set_cons_zero, List.set_cons_succ]
          refine wpAnyH_ready (rs := [26]) (by kernel_rfl) (by simp) ?_
          refine AllReadyH.cons (o := _) rfl (fun K hK => ?_) (AllReadyH.nil)
          go_simp
          first
            | (go_at_call 12; refine (wlenN (bs := bs2) (A := A2) (c := c2) (by (rename MS _ _ _ _ _ _ _ _ _ _ ∧ _ => hQ); exact hQ.1.wr) N HN.out.symm).mono ?_; rintro e w' ⟨rfl, rfl⟩)
            | (go_at_call 13; refine (bytesP (B := 0) (A := A2) (c := c2) (by (rename MS _ _ _ _ _ _ _ _ _ _ ∧ _ => hQ); exact ⟨hQ.1.wr, fun _ _ => Nat.zero_le _, Nat.zero_le _⟩) m HMM.out.symm st HST.out.symm).mono ?_; rintro e w6 ⟨g6, rfl, hg6, hs6, hb6⟩; (rename MS _ _ _ _ _ _ _ _ _ _ ∧ _ => hQ); have hQ6 := And.intro (hQ.1.below hb6) ((hb6.cell (World.block_lt_of_cell? _ _ hQ.2)).trans hQ.2); clear hQ)
            | (go_at_call 14; refine (rbytesP (bs := bs2) _ _ _ N m HN.out.symm (by (rename MS _ _ _ _ _ _ _ _ _ _ ∧ _ => hQ); exact hQ.1.rr.row.src) (by (rename MS _ _ _ _ _ _ _ _ _ _ ∧ _ => hQ); exact hQ.1.wr.bin) (by omega) (by rw [HN.out, HMM.out]) st HST.out.symm).mono ?_; rintro e w7 ⟨A7, c7, rfl, hs7, hb7⟩; (rename MS _ _ _ _ _ _ _ _ _ _ ∧ _ => hQ); have hQ7 := And.intro (hQ.1.below hb7) ((hb7.cell (World.block_lt_of_cell? _ _ hQ.2)).trans hQ.2); have hs67 := again hg6 hb7 m HMM.out.symm st HST.out.symm; clear hQ)
          refine hK.out _ _ ?_ (fun hHeld => ?_)
          · assumption
          clear hK K
          try simp only [Act.put, List.getElem_toArray, List.getElem_cons_succ, List.getElem_cons_zero, List.setIfInBounds_toArray, List.set_cons_zero, List.set_cons_succ]
          refine wpAnyH_ready (rs := [27]) (by kernel_rfl) (by simp) ?_
          refine AllReadyH.cons (o := _) rfl (fun K hK => ?_) (AllReadyH.nil)
          go_simp
          refine hK.out _ _ ?_ (fun hHeld => ?_)
          · assumption
          clear hK K
          try simp only [Act.put, List.getElem_toArray, List.getElem_cons_succ, List.getElem_cons_zero, List.setIfInBounds_toArray, List.set_cons_zero, List.set_cons_succ]
          refine wpAnyH_take (i := 28) (v := ?_) rfl (by kernel_rfl) (by kernel_rfl) (by kernel_rfl) (fun _ _ _ h => h) (Or.inl ⟨by rfl, ?_⟩) (by assumption) ?_
          rotate_left
          · (intro W hSw; (try dsimp only at hSw); go_simp) <;> with_reducible rfl
          try simp only [Act.put, List.getElem_toArray, List.getElem_cons_succ, List.getElem_cons_zero, List.setIfInBounds_toArray, List.set_cons_zero, List.set_cons_succ]
          refine wpAnyH_take (i := 29) (v := ?_) rfl (by kernel_rfl) (by kernel_rfl) (by kernel_rfl) (fun _ _ _ h => h) (Or.inl ⟨by rfl, ?_⟩) (by assumption) ?_
          rotate_left
          · (intro W hSw; (try dsimp only at hSw); go_simp) <;> with_reducible rfl
          try simp only [Act.put, List.getElem_toArray, List.getElem_cons_succ, List.getElem_cons_zero, List.setIfInBounds_toArray, List.set_cons_zero, List.set_cons_succ]
          refine wpAnyH_done (by kernel_rfl) ?_ _
          refine NoPanic.normal ?_
          go_wp2
          exact ⟨⟨k + 1, A2, c2, Ar3, cr3, by omega, by go_num, by rw [HRS.out, ← HBS2.out]; exact hHeld.1⟩, by simp [intOf]; omega⟩
        · go_simp
          first
            | (go_at_call 12; refine (wlenN (bs := bs2) (A := A2) (c := c2) (by (rename MS _ _ _ _ _ _ _ _ _ _ ∧ _ => hQ); exact hQ.1.wr) N HN.out.symm).mono ?_; rintro e w' ⟨rfl, rfl⟩)
            | (go_at_call 13; refine (bytesP (B := 0) (A := A2) (c := c2) (by (rename MS _ _ _ _ _ _ _ _ _ _ ∧ _ => hQ); exact ⟨hQ.1.wr, fun _ _ => Nat.zero_le _, Nat.zero_le _⟩) m HMM.out.symm st HST.out.symm).mono ?_; rintro e w6 ⟨g6, rfl, hg6, hs6, hb6⟩; (rename MS _ _ _ _ _ _ _ _ _ _ ∧ _ => hQ); have hQ6 := And.intro (hQ.1.below hb6) ((hb6.cell (World.block_lt_of_cell? _ _ hQ.2)).trans hQ.2); clear hQ)
            | (go_at_call 14; refine (rbytesP (bs := bs2) _ _ _ N m HN.out.symm (by (rename MS _ _ _ _ _ _ _ _ _ _ ∧ _ => hQ); exact hQ.1.rr.row.src) (by (rename MS _ _ _ _ _ _ _ _ _ _ ∧ _ => hQ); exact hQ.1.wr.bin) (by omega) (by rw [HN.out, HMM.out]) st HST.out.symm).mono ?_; rintro e w7 ⟨A7, c7, rfl, hs7, hb7⟩; (rename MS _ _ _ _ _ _ _ _ _ _ ∧ _ => hQ); have hQ7 := And.intro (hQ.1.below hb7) ((hb7.cell (World.block_lt_of_cell? _ _ hQ.2)).trans hQ.2); have hs67 := again hg6 hb7 m HMM.out.symm st HST.out.symm; clear hQ)
          refine hK.out _ _ ?_ (fun hHeld => ?_)
          · assumption
          clear hK K
          try simp only [Act.put, List.getElem_toArray, List.getElem_cons_succ, List.getElem_cons_zero, List.setIfInBounds_toArray, List.set_cons_zero, List.set_cons_succ]
          refine wpAnyH_ready (rs := [21, 27]) (by kernel_rfl) (by simp) ?_
          refine AllReadyH.cons (o := _) rfl (fun K hK => ?_) (AllReadyH.cons (o := _) rfl (fun K hK => ?_) (AllReadyH.nil))
          · go_simp
            refine hK.out _ _ ?_ (fun hHeld => ?_)
            · assumption
            clear hK K
            try simp only [Act.put, List.getElem_toArray, List.getElem_cons_succ, List.getElem_cons_zero, List.setIfInBounds_toArray, List.set_cons_zero, List.set_cons_succ]
            refine wpAnyH_ready (rs := [27]) (by kernel_rfl) (by simp) ?_
            refine AllReadyH.cons (o := _) rfl (fun K hK => ?_) (AllReadyH.nil)
            go_simp
            refine hK.out _ _ ?_ (fun hHeld => ?_)
            · assumption
            clear hK K
            try simp only [Act.put, List.getElem_toArray, List.getElem_cons_succ, List.getElem_cons_zero, List.setIfInBounds_toArray, List.set_cons_zero, List.set_cons_succ]
            refine wpAnyH_take (i := 28) (v := ?_) rfl (by kernel_rfl) (by kernel_rfl) (by kernel_rfl) (fun _ _ _ h => h) (Or.inl ⟨by rfl, ?_⟩) (by assumption) ?_
            rotate_left
            · (intro W hSw; (try dsimp only at hSw); go_simp) <;> with_reducible rfl
            try simp only [Act.put, List.getElem_toArray, List.getElem_cons_succ, List.getElem_cons_zero, List.setIfInBounds_toArray, List.set_cons_zero, List.set_cons_succ]
            refine wpAnyH_take (i := 29) (v := ?_) rfl (by kernel_rfl) (by kernel_rfl) (by kernel_rfl) (fun _ _ _ h => h) (Or.inl ⟨by rfl, ?_⟩) (by assumption) ?_
            rotate_left
            · (intro W hSw; (try dsimp only at hSw); go_simp) <;> with_reducible rfl
            try simp only [Act.put, List.getElem_toArray, List.getElem_cons_succ, List.getElem_cons_zero, List.setIfInBounds_toArray, List.set_cons_zero, List.set_cons_succ]
            refine wpAnyH_done (by kernel_rfl) ?_ _
            refine NoPanic.normal ?_
            go_wp2
            exact ⟨⟨k + 1, A2, c2, Ar3, cr3, by omega, by go_num, by rw [HRS.out, ← HBS2.out]; exact hHeld.1⟩, by simp [intOf]; omega⟩
          · go_simp
            refine hK.out _ _ ?_ (fun hHeld => ?_)
            · assumption
            clear hK K
            try simp only [Act.put, List.getElem_toArray, List.getElem_cons_succ, List.getElem_cons_zero, List.setIfInBounds_toArray, List.set_cons_zero, List.set_cons_succ]
            refine wpAnyH_ready (rs := [21]) (by kernel_rfl) (by simp) ?_
            refine AllReadyH.cons (o := _) rfl (fun K hK => ?_) (AllReadyH.nil)
            go_simp
            refine hK.out _ _ ?_ (fun hHeld => ?_)
            · assumption
            clear hK K
            try simp only [Act.put, List.getElem_toArray, List.getElem_cons_succ, List.getElem_cons_zero, List.setIfInBounds_toArray, List.set_cons_zero, List.set_cons_succ]
            refine wpAnyH_take (i := 28) (v := ?_) rfl (by kernel_rfl) (by kernel_rfl) (by kernel_rfl) (fun _ _ _ h => h) (Or.inl ⟨by rfl, ?_⟩) (by assumption) ?_
            rotate_left
            · (intro W hSw; (try dsimp only at hSw); go_simp) <;> with_reducible rfl
            try simp only [Act.put, List.getElem_toArray, List.getElem_cons_succ, List.getElem_cons_zero, List.setIfInBounds_toArray, List.set_cons_zero, List.set_cons_succ]
            refine wpAnyH_take (i := 29) (v := ?_) rfl (by kernel_rfl) (by kernel_rfl) (by kernel_rfl) (fun _ _ _ h => h) (Or.inl ⟨by rfl, ?_⟩) (by assumption) ?_
            rotate_left
            · (intro W hSw; (try dsimp only at hSw); go_simp) <;> with_reducible rfl
            try simp only [Act.put, List.getElem_toArray, List.getElem_cons_succ, List.getElem_cons_zero, List.setIfInBounds_toArray, List.set_cons_zero, List.set_cons_succ]
            refine wpAnyH_done (by kernel_rfl) ?_ _
            refine NoPanic.normal ?_
            go_wp2
            exact ⟨⟨k + 1, A2, c2, Ar3, cr3, by omega, by go_num, by rw [HRS.out, ← HBS2.out]; exact hHeld.1⟩, by simp [intOf]; omega⟩
    · obtain rfl : k = n := by omega
      have HB := Lib.hid HM.out.bel
      have hsz := HM.out.sz
      have hS := Lib.hid (HS1.out.below (hB'.out ▸ HB.out : Below w.heap.size w wr))
      obtain ⟨gv, hgv⟩ : ∃ v, v = getVal l at_ wd := ⟨_, rfl⟩
      obtain ⟨gb, hgb⟩ : ∃ b, b = getOk n1 at_ wd := ⟨_, rfl⟩
      have HGV := Lib.hid hgv
      have HGB := Lib.hid hgb
      have dv : (gv == gv) = true := by simp
      have db : (gb == gb) = true := by simp
      clear hgv hgb HM
      go_wp2_with fail
      refine (get_any wr a1 n1 c1 l HL1.out hS.out HBY.out (by omega) at_ wd hat).mono ?_
      rintro e w2 ⟨rfl, hb⟩
      rw [← HGV.out, ← HGB.out]
      have b2 := Lib.hid (HB.out.trans (hb.mono hsz))
      have hS2 := Lib.hid (hS.out.below hb)
      have hsz2 := Nat.le_trans hsz hb.size
      clear hb HB hS
      go_wp2_with fail
      refine (rget_any w2 a1 n1 c1 l HL1.out hS2.out HBY.out (by omega) at_ wd hat).mono ?_
      rintro e w3 ⟨rfl, hb⟩
      rw [← HGV.out, ← HGB.out]
      have b3 := Lib.hid (b2.out.trans (hb.mono hsz2))
      have hS3 := Lib.hid (hS2.out.below hb)
      have hsz3 := Nat.le_trans hsz2 hb.size
      clear hb b2 hS2
      go_wp2_with fail
      refine (of_call w3 a1 n1 c1 l HL1.out hS3.out HBY.out (by omega)).mono ?_
      rintro e w4 ⟨A4, c4, rfl, ho4, ha4, hb⟩
      have b4 := Lib.hid (b3.out.trans (hb.mono hsz3))
      have hS4 := Lib.hid (hS3.out.below hb)
      have hsz4 := Nat.le_trans hsz3 hb.size
      have HO4 := Lib.hid ho4
      clear hb b3 hS3 ho4 ha4
      go_wp2_with fail
      refine (rof_call w4 a1 n1 c1 l HL1.out hS4.out HBY.out (by omega)).mono ?_
      rintro e w5 ⟨u, rfl, A5, c5, rfl, ho5, ha5, hb⟩
      have b5 := Lib.hid (b4.out.trans (hb.mono hsz4))
      have hsz5 := Nat.le_trans hsz4 hb.size
      have HO5 := Lib.hid ho5
      have HO45 := Lib.hid (HO4.out.below hb)
      clear hb b4 ho5 ha5 HO4 hS4
      go_wp2_with fail
      refine (ints_same w5 (ad0 A4) (ad0 A5) (8 * n1) c4 c5 (bitsB l) (by rw [bitsB_length, HL1.out]) HO45.out.src HO5.out.src (by omega)).mono ?_
      rintro e w6 ⟨rfl, hb⟩
      have b6 := Lib.hid (b5.out.trans (hb.mono hsz5))
      have hsz6 := Nat.le_trans hsz5 hb.size
      clear hb b5 HO5 HO45
      go_wp2_with fail
      refine (wakes_call w6).mono ?_
      rintro e w7 ⟨rfl, hb⟩
      have b7 := Lib.hid (b6.out.trans (hb.mono hsz6))
      clear hb
      go_wp2
      go_ret
      exact ⟨rfl, b7.out⟩

theorem matches_call (a0 a1 : Option Addr) (n0 c0 n1 c1 : Nat) (at_ wd : Int) (w : World) (D : List Deed) (z : List Int) (hl : D.length = n0) (hs : DSrc w a0 D) (hok : ∀ d ∈ D, okDeed d) (hc : n0 ≤ c0) (hm : c0 ≤ maxLen)
    (h1 : IsRow .u8 w a1 n1 c1 z) (h2 : (Lit.int .i64 at_).wf = true) (h3 : (Lit.int .i64 wd).wf = true) :
    Calls Try.prog 3 #[.slice a0 n0 c0, .slice a1 n1 c1, .int .i64 at_, .int .i64 wd] w fun e w' => e = .returned (.bool true) ∧ Below w.heap.size w w' := by
  obtain ⟨hzl, hzs, hwf, h63, _⟩ := h1.src
  have b := bounds_i64 h2
  by_cases h : n0 ≤ 60 ∧ n1 ≤ 300
  · exact matches_short a0 a1 n0 c0 n1 c1 at_ wd w D hl hs hok h.1 (z.take n1) hzl hzs (Byts.of_wf' hwf) h.2 b.2
  · exact matches_long a0 a1 n0 c0 n1 c1 at_ wd w h (by unfold maxLen at hm; omega) h63
end Go.Proofs.Ythofbdlnbfpfeaa
