/- lengthsOf: two leaves or more. -/
import Derived.Test.YtemjlmeakkknbaaLh
set_option linter.unusedVariables false
set_option linter.unusedSimpArgs false
namespace Go.Proofs.Ytemjlmeakkknbaa
open Go.RowKit Go.Sort

theorem lnR_le {lv : List (Int × Int)} (R m : Nat) (s : Int) : cntS ((rowR lv R).take m) s ≤ lnR lv (R + 1) m s := by rw [lnR_step]; omega
theorem next_room {lv : List (Int × Int)} (h : Lvs lv) (R m : Nat) (hm : m ≤ (rowR lv (R + 1)).length) : 2 * pkN ((rowR lv (R + 1)).take m) ≤ (rowR lv R).length := by
  obtain ⟨i, j, _, hj, _, _, h2, _⟩ := row_split h R m hm
  rw [← hj]
  exact h2

set_option maxRecDepth 100000 in
set_option maxHeartbeats 4000000 in
theorem lengths_many (A0 : Option Nat) (n c0 L : Nat) (lv : List (Int × Int)) (hn : n = lv.length) (hn2 : 2 ≤ n) (hn6 : n ≤ 258) (hL : 1 ≤ L) (hL15 : L ≤ 15) (hnL : n ≤ 2 ^ L) (hsy : Sy lv) (hlv : Lvs lv) (hw : ∀ x ∈ lv, 0 ≤ x.2 ∧ x.2 ≤ 2147483647) (w : World) (ho : OwnI w A0 c0 lv) :
    Calls Try.prog 21 #[.slice (ad0 A0) n c0, .int .i64 L] w fun e w' => ∃ q, e = .returned (.agg (lg q)) ∧ Is (fun s => lnC lv (L - 1) (2 * n - 2) s) q ∧ Below w.heap.size w w' := by
  have hz := lngZ
  have zI : ∀ w, (zeroValue 52).run Try.prog w = .ok (.agg #[.int .i64 0, .int .u64 0]) w := (zero_of_info (show (Try.prog.info? 52).map (fun i => (i.zero, i.size)) = some (some (.agg #[.int .i64 0, .int .u64 0]), 2) by kernel_rfl)).1
  have HN := Lib.hid hn
  have HO := Lib.hid ho
  have HSY := Lib.hid hsy
  have HLV := Lib.hid hlv
  have hroom := row_enough (lv := lv) hL (by rw [← hn]; exact hnL)
  have hG := greedy hlv (L - 1) _ hroom
  rw [← hn] at hroom hG
  have HTOT := Lib.hid (fun (s : Nat) => Nat.le_trans (hG.le s (by omega)) (show L - 1 + 1 ≤ 15 by omega))
  have HROOM := Lib.hid hroom
  have hrc := fun (w1 : World) (h : OwnI w1 A0 c0 lv) => rows_call A0 n c0 L lv hn hn6 hL hL15 hw w1 h
  have HRC := Lib.hid hrc
  obtain ⟨TOT, hTOT⟩ : ∃ TOT : Nat → Nat, TOT = fun (s : Nat) => lnC lv (L - 1) (2 * n - 2) (s : Int) := ⟨_, rfl⟩
  have HT : RowKit.Hid (∀ s : Nat, TOT s = lnR lv L (2 * n - 2) s) := Lib.hid (fun s => by
    rw [hTOT]
    obtain ⟨k, rfl⟩ : ∃ k, L = k + 1 := ⟨L - 1, by omega⟩
    rfl)
  have HT15 : RowKit.Hid (∀ s : Nat, TOT s ≤ 15) := Lib.hid (fun s => by rw [hTOT]; exact HTOT.out s)
  rw [← hTOT]
  clear hn ho hsy hlv hG hroom hrc hTOT HTOT hw hnL
  go_enter Try.func21, Try.ntmps21
  go_upto_region 9 with fail
  have hL0 : Lb w zL ((w.alloc (.cells (lg zL) 25)).alloc (.cells (lg zL) 25)) := ⟨heap_alloc2_old w _ _, heap_alloc2_new w _ _, ((Below.refl _ _).alloc (Nat.le_refl _) _).alloc (by simp) _⟩
  generalize hw1 : (w.alloc (.cells (lg zL) 25)).alloc (.cells (lg zL) 25) = w1 at hL0 ⊢
  have hw1s : w1.heap.size = w.heap.size + 2 := by rw [← hw1]; simp
  have HW1 := Lib.hid hw1s
  clear hw1 hw1s
  have hrc := HRC.out w1 (HO.out.on hL0.bel)
  go_upto_region 10 with (with_reducible refine hrc.mono ?_; rintro e w2 ⟨A, c, D, rfl, hrw⟩)
  obtain ⟨g, _, hAg, _⟩ := hrw.get (j := 0) (by omega)
  subst hAg
  simp only [ad0_some]
  have HL2 := Lib.hid (hL0.on hrw.bel)
  have HRW := Lib.hid hrw
  clear hrw hrc hL0 HRC
  have h2n : IntKind.i64.wrap (2 * (n : Int)) = 2 * (n : Int) := by rw [IntKind.wrap_i64]; omega
  have h2m : IntKind.i64.wrap (2 * (n : Int) - 2) = 2 * (n : Int) - 2 := by rw [IntKind.wrap_i64]; omega
  go_wp2_with fail
  go_loopw [9, 10] (fun s9 s10 wr => ∃ (R m : Nat) (i : Int) (F : Nat → Nat) (q : List Int), R ≤ L ∧ s9 = .int .i64 m ∧ s10 = .int .i64 i ∧ i + 1 = R ∧ (0 < R → m ≤ (rowR lv (R - 1)).length) ∧ Is F q ∧ (∀ s : Nat, TOT s = F s + lnR lv R m s) ∧ Lb w q wr ∧ Ch (fun y => y = w.heap.size + 1) w2 wr) (fun _ s10 _ => (intOf s10 + 1).toNat)
  case atStart => exact ⟨L, 2 * n - 2, (L : Int) - 1, fun _ => 0, zL, Nat.le_refl _, by congr 1; omega, rfl, by omega, fun _ => HROOM.out, Is.zero, fun s => by rw [Nat.zero_add]; exact HT.out s, HL2.out, Ch.refl _ _⟩
  case round =>
    obtain ⟨R, m, i, F, q, hRL, rfl, rfl, hiR, hmr, hq, hF, hlb, hch⟩ := hrel
    have HQ := Lib.hid hq
    have HF := Lib.hid hF
    have HB := Lib.hid hlb
    have HCH := Lib.hid hch
    have HMR := Lib.hid hmr
    clear hq hF hlb hch hmr
    by_cases hR0 : 0 < R
    · obtain ⟨r, rfl⟩ : ∃ r, R = r + 1 := ⟨R - 1, by omega⟩
      obtain rfl : i = (r : Int) := by omega
      clear hiR
      obtain ⟨g', d, hAg, hcell, hok, hold⟩ := HRW.out.get (j := r) (by omega)
      injection hAg with hAg
      subst hAg
      have hgn := HRW.out.new g rfl
      have hw1s := HW1.out
      have hcell2 : wr.cell? ⟨g, r, none⟩ = some (slC d) := HCH.out.cell hcell (fun e => by simp only at e; omega)
      have hdn : ∀ x, d.a = some x → ¬ x.block = w.heap.size + 1 := fun x hx e => by
        rcases hold x hx with h1 | h1
        · have := HO.out.lt h1
          omega
        · omega
      have HDN := Lib.hid hdn
      have hok2 := hok.ch HCH.out hdn
      have HOK := Lib.hid hok
      have HCAP := Lib.hid (show m ≤ d.c from Nat.le_trans (HMR.out (by omega)) (by rw [Nat.add_sub_cancel, ← hok.len]; exact hok.cap))
      have hmlen : m ≤ (rowR lv r).length := by have := HMR.out (by omega); rwa [Nat.add_sub_cancel] at this
      have hrlen := row_len_le lv r
      have hlvn := HN.out
      have hm516 : m ≤ 516 := by omega
      have hdc := hok.max
      obtain ⟨da, dn, dc⟩ := d
      have hcl : wr.cell? ⟨g, r, none⟩ = some (.slice da dn dc) := hcell2
      have hmc : m ≤ dc := HCAP.out
      have hrI : (r : Int) < (L : Int) := by omega
      clear hcell hcell2 hok hok2 hold hdn HCAP hdc hrlen hlvn hgn hw1s
      have HML := Lib.hid hmlen
      clear hmlen
      go_wp2_with fail
      go_loopw [11, 48] (fun s11 s48 wx => ∃ (i2 p : Nat) (q2 : List Int), i2 ≤ m ∧ s48 = .int .i64 i2 ∧ s11 = .int .i64 p ∧ p = pkN ((rowR lv r).take i2) ∧ p ≤ i2 ∧ Is (fun s => F s + cntS ((rowR lv r).take i2) s) q2 ∧ Lb w q2 wx ∧ Ch (fun y => y = w.heap.size + 1) w2 wx) (fun _ s48 _ => m - (intOf s48).toNat)
      case atStart => exact ⟨0, 0, q, by omega, rfl, rfl, rfl, Nat.le_refl _, HQ.out.congr (fun s _ => by rw [List.take_zero]; rfl), HB.out, HCH.out⟩
      case round =>
        obtain ⟨i2, p, q2, hi2, rfl, rfl, hp, hpi, hq2, hlb, hch⟩ := hrel
        have HQ2 := Lib.hid hq2
        have HB2 := Lib.hid hlb
        have HC2 := Lib.hid hch
        have HP := Lib.hid hp
        clear hq2 hlb hch hp
        by_cases hlt : i2 < m
        · have hi2l : i2 < (rowR lv r).length := Nat.lt_of_lt_of_le hlt HML.out
          have hok2 := (HOK.out.ch HC2.out HDN.out).src
          obtain ⟨rg, ro, hda, c0, c1⟩ := hok2.getD hi2l
          have hda' : da = some ⟨rg, ro, none⟩ := hda
          clear hda
          subst hda'
          have HCN := Lib.hid (cntS_take_succ (rowR lv r) i2 hi2l)
          have HPK := Lib.hid (pkN_take_succ (rowR lv r) i2 hi2l)
          have hsy := row_sym HSY.out r ((rowR lv r).getD i2 (0, 0)) (by rw [List.getD_eq_getElem?_getD, List.getElem?_eq_getElem hi2l]; exact List.getElem_mem _)
          have HLE := Lib.hid (fun s : Int => Nat.le_trans (by
            have := cntS_append (((rowR lv r).take m).take (i2 + 1)) (((rowR lv r).take m).drop (i2 + 1)) s
            rw [List.take_append_drop, List.take_take, Nat.min_eq_left (by omega)] at this
            show cntS ((rowR lv r).take (i2 + 1)) s ≤ cntS ((rowR lv r).take m) s
            omega) (lnR_le (lv := lv) r m s))
          generalize ((rowR lv r).getD i2 (0, 0)).1 = X at c0 HCN HPK hsy
          generalize ((rowR lv r).getD i2 (0, 0)).2 = Y at c1
          have hA := fun (t : TypeId) (a : Array Value) => (Below.refl wr.heap.size wr).alloc (Nat.le_refl _) (.cells a t)
          by_cases hX : X = -1
          · subst hX
            clear hsy
            have HLB := Lib.hid (fun (t : TypeId) (a : Array Value) => HB2.out.on (hA t a))
            have HCC := Lib.hid (fun (t : TypeId) (a : Array Value) => HC2.out.alloc (.cells a t))
            clear hA hok2
            go_wp2_with fail
            refine ⟨⟨i2 + 1, p + 1, q2, by omega, by go_num, by go_num, by rw [HPK.out, ← HP.out, if_neg (by omega)], by omega, HQ2.out.congr (fun s hs => ?_), HLB.out _ _, HCC.out _ _⟩, by simp [intOf]; omega⟩
            rw [HCN.out, if_neg (by omega), Nat.add_zero]
          · obtain ⟨s, rfl⟩ : ∃ s : Nat, X = s := ⟨X.toNat, by omega⟩
            have hs8 : s < 258 := by omega
            have hsI : (s : Int) < 258 := by omega
            have hval : q2.getD s 0 = ((F s + cntS ((rowR lv r).take i2) s : Nat) : Int) := HQ2.out.2 s hs8
            have hsum := HF.out s
            have hl2 := HLE.out s
            rw [HCN.out, if_pos rfl] at hl2
            have h15 := HT15.out s
            have hlq : Lng q2 := HQ2.out.lng (fun s' hs' => by
              have a1 := HF.out s'
              have a2 := HLE.out s'
              have a3 := HT15.out s'
              rw [HCN.out] at a2
              omega)
            obtain ⟨v, hv⟩ : ∃ v, v = F s + cntS ((rowR lv r).take i2) s := ⟨_, rfl⟩
            have hv15 : v + 1 ≤ 15 := by omega
            rw [← hv] at hval
            have HV := Lib.hid hv
            have hcr := fun (t : TypeId) (a : Array Value) => lg_cell (heap_on (hA t a) HB2.out.box) hlq s hs8
            have hfr := fun (t : TypeId) (a : Array Value) => frozen_of_row _ _ s _ _ (heap_on (hA t a) HB2.out.box)
            have hcr0 := lg_cell HB2.out.box hlq s hs8
            have hfr0 := frozen_of_row _ _ s _ _ HB2.out.box
            rw [hval] at hcr0
            have hcr2 : ∀ (t : TypeId) (a : Array Value), (wr.alloc (.cells a t)).cell? ⟨w.heap.size + 1, s, none⟩ = some (.int .u8 (v : Int)) := fun t a => by rw [hcr t a, hval]
            have HLB := Lib.hid (fun (t : TypeId) (a : Array Value) => (HB2.out.on (hA t a)).set s ((v : Int) + 1))
            have HCC := Lib.hid (fun (t : TypeId) (a : Array Value) => (HC2.out.alloc (.cells a t)).setCell ⟨w.heap.size + 1, s, none⟩ (.int .u8 ((v : Int) + 1)) (.inl rfl))
            have hwr : IntKind.u8.wrap ((v : Int) + 1) = (v : Int) + 1 := by unfold IntKind.wrap; simp [IntKind.bits, IntKind.signed]; omega
            clear hA hok2 hsy hcr hsum hl2 h15 hval hv hX
            go_wp2_with fail
            have hIs : Is (fun s' => F s' + cntS ((rowR lv r).take (i2 + 1)) s') (q2.set s ((v : Int) + 1)) := by
              have h1 := HQ2.out.set s (v + 1) hs8
              rw [show ((v + 1 : Nat) : Int) = (v : Int) + 1 by omega] at h1
              refine h1.congr fun s' _ => ?_
              show (if s' = s then v + 1 else F s' + cntS ((rowR lv r).take i2) s') = F s' + cntS ((rowR lv r).take (i2 + 1)) s'
              rw [HCN.out s']
              by_cases e : s' = s
              · subst e
                rw [if_pos rfl, if_pos rfl, HV.out]
                omega
              · rw [if_neg e, if_neg (by omega)]
                omega
            exact ⟨⟨i2 + 1, p, _, by omega, by go_num, rfl, by rw [HPK.out, ← HP.out, if_pos (by omega), Nat.add_zero], by omega, hIs, HLB.out _ _, HCC.out _ _⟩, by simp [intOf]; omega⟩
        · obtain rfl : i2 = m := by omega
          have hwp : IntKind.i64.wrap (2 * (p : Int)) = 2 * (p : Int) := by rw [IntKind.wrap_i64]; omega
          go_wp2_with fail
          have hpe := HP.out
          have hnr : 0 < r → 2 * p ≤ (rowR lv (r - 1)).length := fun h0 => by
            obtain ⟨r', rfl⟩ : ∃ r', r = r' + 1 := ⟨r - 1, by omega⟩
            rw [Nat.add_sub_cancel, hpe]
            exact next_room HLV.out r' i2 HML.out
          go_roundw
          case rel =>
            refine ⟨r, 2 * p, (r : Int) - 1, _, q2, by omega, by go_num, rfl, by omega, hnr, HQ2.out, fun s => ?_, HB2.out, HC2.out⟩
            rw [HF.out s, lnR_step, hpe]
            omega
          case measure => simp [intOf]
    · obtain rfl : R = 0 := by omega
      obtain rfl : i = -1 := by omega
      have hlq : Lng q := HQ.out.lng (fun s _ => by have a1 := HF.out s; have a3 := HT15.out s; omega)
      go_wp2_with (first
        | (refine wpList_load_row rfl 25 _ rfl (w.heap.size + 1) rfl 25 (lg q) (0, 0) _ HB.out.box Try.underlying25 rfl (lngIk hlq) ?_)
        | (refine wpList_store_row rfl 25 _ _ rfl w.heap.size (lg q) rfl rfl 25 (lg zL) HB.out.res (lngIk hlq) (by rw [lg_size zL_lng, lg_size hlq]) (lg_all _) ?_))
      refine bodyPost_ret (v := .agg (lg q)) ?_ rfl ⟨q, rfl, HQ.out.congr (fun s _ => (HF.out s).symm), HB.out.bel.setRow (Nat.le_refl _) _⟩
      exact results_cell_row Try.results21 _ _ w.heap.size 25 (lg q) (0, 0) _ rfl (setRow_heap _ _ _ _ _ _ HB.out.res) Try.underlying25 rfl (lngIk hlq)
end Go.Proofs.Ytemjlmeakkknbaa
