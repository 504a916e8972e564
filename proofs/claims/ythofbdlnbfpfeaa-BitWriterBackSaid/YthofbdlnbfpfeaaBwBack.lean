/- The walk over winepresslaw02.BitWriterBack. -/
import Derived.Test.YthofbdlnbfpfeaaBwDoes
import Derived.Test.YthofbdlnbfpfeaaDeeds
import Derived.Deep.RegionHeld3
import Derived.Deep.DeepCutAuto
import Derived.StillTailTactics
set_option linter.unusedVariables false
set_option linter.unusedSimpArgs false
namespace Go.Proofs.Ythofbdlnbfpfeaa
open Go.RowKit

set_option maxRecDepth 100000 in
set_option maxHeartbeats 1000000 in
theorem back_long (a0 : Option Addr) (len0 cap0 : Nat) (w : World) (h : 60 < len0) (h63 : len0 ≤ 9223372036854775807) :
    Calls Try.prog 4 #[.slice a0 len0 cap0] w fun e w' => e = .returned (.bool true) ∧ Below w.heap.size w w' := by
  have d : decide ((60 : Int) < (len0 : Int)) = true := by simp; omega
  go_enter Try.func4, Try.ntmps4
  go_wp2_with fail
  refine (wakes_call w).mono ?_
  rintro e w1 ⟨rfl, hb⟩
  go_wp2
  go_ret
  exact ⟨rfl, hb⟩

theorem foldl_prefix (D : List Deed) : ∀ bs : List Int, ∃ r, D.foldl stepD bs = bs ++ r := by
  induction D with
  | nil => intro bs; exact ⟨[], by simp⟩
  | cons d D ih =>
    intro bs
    obtain ⟨r, hr⟩ := ih (stepD bs d)
    exact ⟨extD bs.length d ++ r, by rw [List.foldl_cons, hr]; simp [stepD]⟩
theorem runD_prefix (D : List Deed) (k : Nat) : ∃ r, runD D = runD (D.take k) ++ r := by
  obtain ⟨r, hr⟩ := foldl_prefix (D.drop k) (runD (D.take k))
  refine ⟨r, ?_⟩
  rw [← hr]
  unfold runD
  rw [← List.foldl_append, List.take_append_drop]
theorem runD_seg (D : List Deed) (k : Nat) (d : Deed) (h : D[k]? = some d) (hb : Bin (runD D)) :
    ((bitsB (packB (runD D))).drop (runD (D.take k)).length).take ((runD (D.take (k + 1))).length - (runD (D.take k)).length) = extD (runD (D.take k)).length d := by
  obtain ⟨r, hr⟩ := runD_prefix D (k + 1)
  have hs := runD_snoc D k d h
  unfold stepD at hs
  rw [bitsB_packB_eq hb]
  rw [hr]
  rw [hs, List.length_append, Nat.add_sub_cancel_left]
  simp only [List.append_assoc]
  rw [List.drop_left, List.take_left]
theorem runD_rest (D : List Deed) (hb : Bin (runD D)) (m : Nat) (hm : m = ((runD D).length + 7) / 8) :
    ((bitsB (packB (runD D))).drop (runD D).length).take (8 * m - (runD D).length) = List.replicate (8 * m - (runD D).length) 0 := by
  subst hm
  rw [bitsB_packB_eq hb, List.drop_left, List.take_of_length_le (by simp)]

def BackS (w2 : World) (gf j f0 g : Nat) (l : List Int) (W : World) : Prop := W.cell? ⟨gf, j, none⟩ = some (.int .i64 f0) ∧ W.heap[g]? = some (.cells (icells .u8 l) 5 (0, 0)) ∧ Below w2.heap.size w2 W ∧ w2.heap.size ≤ W.heap.size
theorem BackS.below {w2 W W' : World} {gf j f0 g : Nat} {l : List Int} (h : BackS w2 gf j f0 g l W) (hb : Below W.heap.size W W') : BackS w2 gf j f0 g l W' :=
  ⟨(hb.cell (World.block_lt_of_cell? W _ h.1)).trans h.1, (hb.block g (Array.getElem?_eq_some_iff.1 h.2.1).1).trans h.2.1, h.2.2.1.trans (hb.mono h.2.2.2), Nat.le_trans h.2.2.2 hb.size⟩

set_option maxRecDepth 100000 in
set_option maxHeartbeats 4000000 in
theorem back_short (a0 : Option Addr) (n cap0 : Nat) (w : World) (D : List Deed) (hl : D.length = n) (hs : DSrc w a0 D) (hok : ∀ d ∈ D, okDeed d) (h : n ≤ 60) :
    Calls Try.prog 4 #[.slice a0 n cap0] w fun e w' => e = .returned (.bool true) ∧ Below w.heap.size w w' := by
  have d : decide ((60 : Int) < (n : Int)) = false := by simp; omega
  obtain ⟨B, hB⟩ : ∃ B, B = w.heap.size := ⟨_, rfl⟩
  rw [← hB]
  have hB' := Lib.hid hB
  have HL := Lib.hid hl
  have HS := Lib.hid hs
  have HOK := Lib.hid hok
  clear hB hl hs hok
  go_enter Try.func4, Try.ntmps4
  go_wp2_with fail
  refine (newB B w (by rw [hB'.out]; exact Nat.le_refl _)).mono ?_
  rintro e w1 ⟨rfl, hw1, hb⟩
  rw [← hB'.out] at hw1 hb ⊢
  have HW1 := Lib.hid hw1
  have b1 := Lib.hid hb
  clear hb hw1
  go_wp2_with fail
  go_loopw [4, 5] (fun v x wr => ∃ (k : Nat) (A : Option Nat) (c : Nat) (Af : Option Nat) (cf : Nat), k ≤ n ∧ x = .int .i64 k ∧ v = .slice (ad0 Af) k cf ∧ WrB B wr B A c (runD (D.take k)) ∧ OwnS wr .i64 3 Af cf (fromsD D k) ∧ (∀ g, Af = some g → B ≤ g) ∧ Below B w wr) (fun _ x _ => n - (intOf x).toNat)
  case atStart => exact ⟨0, none, 0, none, 0, Nat.zero_le _, rfl, rfl, HW1.out, OwnS.nil _ _ _, by simp, b1.out⟩
  case round =>
    obtain ⟨k, A, c, Af, cf, hk, rfl, rfl, hwr, hof, haf, hbr⟩ := hrel
    have HW := Lib.hid hwr
    have HF := Lib.hid hof
    have HAF := Lib.hid haf
    have HB := Lib.hid hbr
    clear hwr hof haf hbr
    by_cases hlt : k < n
    · obtain ⟨d, hd⟩ : ∃ d, D[k]? = some d := ⟨D[k]'(by rw [HL.out]; exact hlt), List.getElem?_eq_getElem _⟩
      have hdo := HOK.out d (List.mem_of_getElem? hd)
      have hrl := runD_len D k (by rw [HL.out]; omega)
      have hrs := runD_snoc D k d hd
      have hDS := HS.out
      rcases hDS with rfl | ⟨gd, od, rfl, hcd⟩
      · simp at hd
      obtain ⟨hc1, hc2, hc3⟩ := hcd k d hd
      have hgB : gd < B := by rw [hB'.out]; exact World.block_lt_of_cell? w _ hc1
      have HRS := Lib.hid hrs
      have HDO := Lib.hid hdo
      have HD := Lib.hid hd
      obtain ⟨bs, hbs⟩ : ∃ bs, bs = runD (D.take k) := ⟨_, rfl⟩
      have HBS := Lib.hid hbs
      rw [← hbs] at HW hrl HRS
      clear hd hdo hrs hcd hbs
      go_wp2_with fail
      refine (wlen_call HW.out.wr).mono ?_
      rintro e w2 ⟨rfl, rfl⟩
      have hfl := fromsD_length D k
      have HFL := Lib.hid hfl
      clear hfl
      go_wp2_with (at_builtin; go_must (
        refine wpList_appendI rfl _ _ 28 rfl 3 .i64 8 Try.underlying28 intI Af cf (fromsD D k) k HFL.out rfl (HF.out.alloc _) (some ⟨wr.heap.size, 0, none⟩) 1 1 rfl [(bs.length : Int)] rfl (Src.one (Boxed.new wr 3 _).cell) (by unfold maxLen; omega) (by omega) ?_
        intro Af2 cf2 w3 hown hgr halt
        have hBr : B ≤ wr.heap.size := HW.out.sz
        have b3 : Below B w w3 := (HB.out.alloc hBr _).grown hgr (by simp; omega) (fun g e => HAF.out g e)
        have hc31 := (b3.cell (p := ⟨gd, od + k * 3, none⟩) hgB).trans hc1
        have hc32 := (b3.cell (p := ⟨gd, od + k * 3 + 1, none⟩) hgB).trans hc2
        have hc33 := (b3.cell (p := ⟨gd, od + k * 3 + 2, none⟩) hgB).trans hc3
        have hw3 : Wr w3 B A c bs := (HW.out.wr.alloc _).ch (Ch.of_grown (S := fun g => Af = some g) hgr (fun g e => e)) (fun g hg e => wr_own_ne HW.out.wr HF.out e hg)
        have haf3 : ∀ g, Af2 = some g → B ≤ g := fun g e => by
          rcases halt with h1 | h1
          · exact HAF.out g (by rw [← h1]; exact e)
          · rw [h1] at e
            injection e with e
            simp at e
            omega
        have HO3 := Lib.hid hown
        have HW3 := Lib.hid hw3
        have HAF3 := Lib.hid haf3
        have HB3 := Lib.hid b3
        clear hown hgr halt b3 hw3 haf3))
      refine (does_call HW3.out d HDO.out (by omega)).mono ?_
      rintro e w4 ⟨rfl, A4, c4, hw4, hC4, hA4⟩
      have hBr : B ≤ w3.heap.size := Nat.le_trans (Nat.le_of_eq hB'.out) HB3.out.size
      have hO4 := HO3.out.ch hC4 (fun g e => wr_own_ne HW3.out HO3.out e)
      have b4 := Lib.hid (HB3.out.trans (hC4.below hBr HW.out.fp))
      have hw4' : WrB B w4 B A4 c4 (runD (D.take (k + 1))) := ⟨by rw [HRS.out]; exact hw4, fun g hg => by
        rcases hg with rfl | hg
        · exact Nat.le_refl _
        · rcases hA4 g hg with h1 | h1
          · exact HW.out.fp g (.inr h1)
          · omega, Nat.le_trans hBr hC4.size⟩
      have hO4' : OwnS w4 .i64 3 Af2 cf2 (fromsD D (k + 1)) := by rw [fromsD_succ, ← HBS.out]; exact hO4
      have HW4 := Lib.hid hw4'
      have HO4 := Lib.hid hO4'
      clear hw4 hw4' hO4' hO4 hC4 hA4
      go_wp2
      go_roundw
      case rel => exact ⟨k + 1, A4, c4, Af2, cf2, by omega, by go_num, rfl, HW4.out, HO4.out, HAF3.out, b4.out⟩
      case measure => simp [intOf]; omega
    · obtain rfl : k = n := by omega
      have hDt : D.take k = D := List.take_of_length_le (by rw [HL.out]; exact Nat.le_refl _)
      have hrl := runD_len D k (by rw [HL.out]; exact Nat.le_refl _)
      rw [hDt] at HW hrl
      clear hDt
      obtain ⟨N, hN⟩ : ∃ N, N = (runD D).length := ⟨_, rfl⟩
      obtain ⟨M, hM⟩ : ∃ M, M = (N + 7) / 8 := ⟨_, rfl⟩
      rw [← hN] at hrl
      have HN := Lib.hid hN
      have HM := Lib.hid hM
      have hNM : N ≤ 8 * M := by omega
      have hMN : M ≤ 250 := by omega
      have dM : ((M : Int) != ((N : Int) + 7) / 8) = false := by simp; omega
      clear hN hM
      go_wp2_with fail
      refine (wbytes_call HW.out.wr).mono ?_
      rintro e w2 ⟨g, rfl, hg, hgr, hb⟩
      have HW2 := Lib.hid (HW.out.below hb)
      have HF2 := Lib.hid (HF.out.below hb)
      have b2 := Lib.hid (HB.out.trans (hb.mono HW.out.sz))
      rw [← HN.out, ← HM.out]
      have HG := Lib.hid hgr
      clear hb hg hgr HW HF HB
      go_wp2_with fail
      refine (wlenN HW2.out.wr N HN.out.symm).mono ?_
      rintro e w3 ⟨rfl, rfl⟩
      go_wp2_with fail
      go_loopw [7] (fun x wr => ∃ j : Nat, j ≤ k ∧ x = .int .i64 j ∧ Below w2.heap.size w2 wr) (fun x _ => k - (intOf x).toNat)
      case atStart => exact ⟨0, Nat.zero_le _, rfl, Below.refl _ _⟩
      case round =>
        obtain ⟨j, hj, rfl, hbr⟩ := hrel
        have HB := Lib.hid hbr
        clear hbr
        by_cases hlt : j < k
        · obtain ⟨d, hd⟩ : ∃ d, D[j]? = some d := ⟨D[j]'(by rw [HL.out]; exact hlt), List.getElem?_eq_getElem _⟩
          have hdo := HOK.out d (List.mem_of_getElem? hd)
          have hDS := HS.out
          rcases hDS with rfl | ⟨gd, od, rfl, hcd⟩
          · simp at hd
          obtain ⟨hc1, hc2, hc3⟩ := hcd j d hd
          have hgB : gd < B := by rw [hB'.out]; exact World.block_lt_of_cell? w _ hc1
          have hwr := HW2.out.below HB.out
          have hbw : Below B w wr := b2.out.trans (HB.out.mono HW2.out.sz)
          have hc31 := (hbw.cell (p := ⟨gd, od + j * 3, none⟩) hgB).trans hc1
          have hc32 := (hbw.cell (p := ⟨gd, od + j * 3 + 1, none⟩) hgB).trans hc2
          have hc33 := (hbw.cell (p := ⟨gd, od + j * 3 + 2, none⟩) hgB).trans hc3
          have hof := HF2.out.below HB.out
          obtain ⟨gf, rfl⟩ := hof.pos (by rw [fromsD_length]; omega)
          have hcf := hof.cell j (by rw [fromsD_length]; exact hlt)
          rw [fromsD_getD _ _ _ hlt] at hcf
          have hgl := (HB.out.block g (Array.getElem?_eq_some_iff.1 HG.out).1).trans HG.out
          have hbin := HW2.out.wr.bin
          have hseg := runD_seg D j d hd hbin
          have hext := runD_snoc D j d hd
          have hel := extD_len (runD (D.take j)).length d
          obtain ⟨r, hr⟩ := runD_prefix D (j + 1)
          have hrN := congrArg List.length hr
          rw [List.length_append, ← HN.out] at hrN
          have htl := congrArg List.length hext
          unfold stepD at htl
          rw [List.length_append] at htl
          have hf1 : j + 1 < k → wr.cell? ⟨gf, j + 1, none⟩ = some (.int .i64 (runD (D.take (j + 1))).length) := fun h1 => by
            have := hof.cell (j + 1) (by rw [fromsD_length]; exact h1)
            rwa [fromsD_getD _ _ _ h1] at this
          have hf2 : ¬ j + 1 < k → N = (runD (D.take (j + 1))).length := fun h1 => by
            rw [List.take_of_length_le (by rw [HL.out]; omega)]
            exact HN.out
          obtain ⟨f0, hf0⟩ : ∃ f, f = (runD (D.take j)).length := ⟨_, rfl⟩
          obtain ⟨t1, ht1⟩ : ∃ t, t = (runD (D.take (j + 1))).length := ⟨_, rfl⟩
          rw [← hf0] at hcf hseg htl hel
          rw [← ht1] at hseg htl hf1 hf2 hrN
          have hft : f0 ≤ t1 := by omega
          have ht32 : t1 ≤ f0 + 32 := by omega
          have htN : t1 ≤ N := by omega
          have hget : ∀ W : World, W.heap[g]? = some (.cells (icells .u8 (packB (runD D))) 5 (0, 0)) →
              Calls Try.prog 15 #[.slice (some ⟨g, 0, none⟩) M M, .int .i64 f0, .int .i64 ((t1 : Int) - (f0 : Int))] W fun e w' => e = .returned (.tuple #[.int .u32 (valV (extD f0 d)), .bool true]) ∧ Below W.heap.size W w' := fun W hW => by
            have := get_yes W (some ⟨g, 0, none⟩) M M (packB (runD D)) (by rw [packB_length, ← HN.out, HM.out]) (Src.whole hW) (packB_bytes hbin) f0 (t1 - f0) (by omega) (by omega) (by omega)
            rw [hseg] at this
            rwa [show ((t1 - f0 : Nat) : Int) = (t1 : Int) - (f0 : Int) by omega] at this
          have HGET := Lib.hid hget
          have HHW := Lib.hid hwr
          have HBW := Lib.hid hbw
          have HGL := Lib.hid hgl
          have HDO := Lib.hid hdo
          have hext2 : t1 = f0 + (extD f0 d).length := htl
          have HE := Lib.hid hext2
          have HF1 := Lib.hid hf1
          have HF2 := Lib.hid hf2
          clear hget hwr hbw hgl hseg hext hr hrN htl hf1 hf2 hf0 ht1 hof hcd hc1 hc2 hc3 hdo hd hbin hel hext2
          obtain ⟨v, wd, pad⟩ := d
          dsimp only at hc31 hc32 hc33
          rw [ad0_some]
          have ht1N : (t1 : Int) ≤ 9223372036854775807 := by omega
          go_wp2_with fail
          refine (wlenN HHW.out.wr N HN.out.symm).mono ?_
          rintro e w5 ⟨rfl, rfl⟩
          go_upto_if 57 with fail
          go_cut [8] (fun s8 wx => s8 = .int .i64 t1 ∧ wx = wr)
          case first =>
            by_cases h1 : j + 1 < k
            · have hcf1 := HF1.out h1
              have d1 : decide ((j : Int) + 1 < (k : Int)) = true := by simp; omega
              go_wp2
              all_goals go_meet
              all_goals exact ⟨rfl, rfl⟩
            · have hN1 := HF2.out h1
              have d1 : decide ((j : Int) + 1 < (k : Int)) = false := by simp; omega
              have HN1 := Lib.hid hN1
              have hge : k ≤ j + 1 := by omega
              clear hN1 h1
              go_wp2
              all_goals go_meet
              all_goals exact ⟨by rw [HN1.out], rfl⟩
          case rest =>
            obtain ⟨rfl, hwc⟩ := hcut
            obtain rfl : wr = wc := hwc.symm
            obtain ⟨want, hwant⟩ : ∃ x : Int, x = if pad then 0 else v := ⟨_, rfl⟩
            have HWANT := Lib.hid hwant
            clear hwant
            go_upto_if 72 with fail
            go_cut [9] (fun s9 wx => s9 = .int .u32 want ∧ wx = wr)
            case first =>
              cases pad with
              | true =>
                go_wp2
                all_goals go_meet
                all_goals exact ⟨by rw [HWANT.out]; rfl, rfl⟩
              | false =>
                go_wp2
                all_goals go_meet
                all_goals exact ⟨by rw [HWANT.out]; rfl, rfl⟩
            case rest =>
              obtain ⟨rfl, hwc⟩ := hcut
              obtain rfl : wr = wc := hwc.symm
              by_cases he : t1 = f0
              · have d2 : ((t1 : Int) == (f0 : Int)) = true := by simp; omega
                clear he
                go_wp2
                exact ⟨⟨j + 1, by omega, by go_num, HB.out⟩, by simp [intOf]; omega⟩
              · have d2 : ((t1 : Int) == (f0 : Int)) = false := by simp; omega
                go_wp2_with fail
                have hS0 : BackS w2 gf j f0 g (packB (runD D)) wr.drew := ⟨hcf, HGL.out, HB.out.drew, HB.out.size⟩
                have hwrap : IntKind.i64.wrap ((t1 : Int) - (f0 : Int)) = (t1 : Int) - (f0 : Int) := IntWalk.i64_in _ (by omega)
                go_region_held3 (fun W => W.cell? ⟨gf, j, none⟩ = some (.int .i64 f0) ∧ W.heap[g]? = some (.cells (icells .u8 (packB (runD D))) 5 (0, 0)) ∧ Below w2.heap.size w2 W ∧ w2.heap.size ≤ W.heap.size) (first | exact hS0 | exact hS6) ((go_at_call 15; refine (HGET.out _ ?_).mono ?_; (first | exact HGL.out | assumption); rintro e w6 ⟨rfl, hb6⟩; have hS6 := hS0.below hb6))
                obtain ⟨hs1, hs2, hs3, hs4⟩ := hS6
                have hb26 : Below B w w6 := b2.out.trans (hs3.mono HW2.out.sz)
                have hc61 := (hb26.cell (p := ⟨gd, od + j * 3 + 1, none⟩) hgB).trans ((HBW.out.cell (p := ⟨gd, od + j * 3 + 1, none⟩) hgB).symm.trans hc32)
                have hc62 := (hb26.cell (p := ⟨gd, od + j * 3 + 2, none⟩) hgB).trans ((HBW.out.cell (p := ⟨gd, od + j * 3 + 2, none⟩) hgB).symm.trans hc33)
                have HS3 := Lib.hid hs3
                have HE2 := HE.out
                have HDO2 := HDO.out
                clear hS0 hs2 hs3 hs4 hb26 hwrap hc31 hc32 hc33 hcf
                cases pad with
                | true =>
                  have hv0 : valV (extD f0 ⟨v, wd, true⟩) = 0 := by simp only [extD, if_true]; exact valV_zeros _
                  have hw0 : want = 0 := HWANT.out
                  rw [hv0, hw0]
                  have h8 : (t1 : Int) % 8 = 0 := by
                    simp only [extD, if_true, List.length_replicate] at HE2
                    unfold lackN at HE2
                    omega
                  have d4 : ((t1 : Int) % 8 != 0) = false := by rw [h8]; rfl
                  clear hv0 hw0 h8 HE2 HDO2
                  go_wp2
                  go_quiet (fail)
                  go_wp2
                  exact ⟨⟨j + 1, by omega, by go_num, below_drewN HS3.out _⟩, by simp [intOf]; omega⟩
                | false =>
                  have hfit : fitsD ⟨v, wd, false⟩ = true := by
                    cases hf : fitsD ⟨v, wd, false⟩
                    · rw [show extD f0 ⟨v, wd, false⟩ = [] by simp [extD, hf]] at HE2
                      simp at HE2
                      omega
                    · rfl
                  have hf2 := of_decide_eq_true hfit
                  dsimp only at hf2
                  have hex : extD f0 ⟨v, wd, false⟩ = bitsV v wd.toNat := by simp [extD, hfit]
                  have hv0 : valV (extD f0 ⟨v, wd, false⟩) = v := by rw [hex]; exact valV_bits _ _ HDO2.1 hf2.2.2
                  have hw0 : want = v := HWANT.out
                  rw [hv0, hw0]
                  have hwd : IntKind.i64.wrap ((t1 : Int) - (f0 : Int)) = wd := by
                    rw [hex, bitsV_length] at HE2
                    rw [IntWalk.i64_in _ (by omega)]
                    omega
                  have d4 : (v != v) = false := by simp
                  have d5 : (wd != wd) = false := by simp
                  clear hv0 hw0 hex hf2 hfit HE2 HDO2
                  go_wp2
                  go_quiet (fail)
                  go_wp2
                  exact ⟨⟨j + 1, by omega, by go_num, below_drewN HS3.out _⟩, by simp [intOf]; omega⟩
        · obtain rfl : j = k := by omega
          have b5 := Lib.hid (b2.out.trans (HB.out.mono HW2.out.sz))
          have HW5 := Lib.hid (HW2.out.below HB.out)
          have hgl := (HB.out.block g (Array.getElem?_eq_some_iff.1 HG.out).1).trans HG.out
          have hrest := runD_rest (D := D) HW2.out.wr.bin M (by rw [← HN.out]; exact HM.out)
          have hget := get_yes wr (some ⟨g, 0, none⟩) M M (packB (runD D)) (by rw [packB_length, ← HN.out, HM.out]) (Src.whole hgl) (packB_bytes HW2.out.wr.bin) N (8 * M - N) (by have := HM.out; omega) (by omega) (by omega)
          rw [HN.out, hrest, valV_zeros, ← HN.out, show ((8 * M - N : Nat) : Int) = 8 * (M : Int) - (N : Int) by omega] at hget
          have HGET := Lib.hid hget
          clear hget hrest hgl HB HW2 b2
          go_wp2_with fail
          refine (wlenN HW5.out.wr N HN.out.symm).mono ?_
          rintro e w6 ⟨rfl, rfl⟩
          go_wp2_with fail
          refine (wlenN HW5.out.wr N HN.out.symm).mono ?_
          rintro e w6 ⟨rfl, rfl⟩
          go_wp2_with fail
          refine HGET.out.mono ?_
          rintro e w7 ⟨rfl, hb⟩
          have b7 := Lib.hid (b5.out.trans (hb.mono HW5.out.sz))
          have hsz7 := Nat.le_trans HW5.out.sz hb.size
          clear hb b5
          go_wp2_with fail
          refine (wakes_call w7).mono ?_
          rintro e w8 ⟨rfl, hb⟩
          have b8 := Lib.hid (b7.out.trans (hb.mono hsz7))
          clear hb
          go_wp2
          go_ret
          exact ⟨rfl, b8.out⟩

theorem back_call (a0 : Option Addr) (len0 cap0 : Nat) (D : List Deed) (w : World) (hl : D.length = len0) (hs : DSrc w a0 D) (hok : ∀ d ∈ D, okDeed d) (hc : len0 ≤ cap0) (hm : cap0 ≤ maxLen) :
    Calls Try.prog 4 #[.slice a0 len0 cap0] w fun e w' => e = .returned (.bool true) ∧ Below w.heap.size w w' := by
  by_cases h : 60 < len0
  · exact back_long a0 len0 cap0 w h (by unfold maxLen at hm; omega)
  · exact back_short a0 len0 cap0 w D hl hs hok (by omega)
end Go.Proofs.Ythofbdlnbfpfeaa
