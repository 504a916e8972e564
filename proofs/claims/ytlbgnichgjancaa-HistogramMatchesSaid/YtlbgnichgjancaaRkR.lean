/- The reference's Ranks. -/
import Derived.Test.YtlbgnichgjancaaRkQ
import Derived.Test.YtlbgnichgjancaaIn
import Derived.Deep.QuietTactic
import Derived.BigQuiet
set_option linter.unusedVariables false
set_option linter.unusedSimpArgs false
namespace Go.Proofs.Ytlbgnichgjancaa
open Go.RowKit

/-- What the inner loop looks at, at number k. -/
structure PrAt (l : List Int) (k s : Nat) : Prop where
  eq : (usedV l).getD k 0 = s
  lt : s < 258
  at_ : (prs l)[k]? = some ((s : Int), l.getD s 0)
theorem prAt (l : List Int) (k : Nat) (hk : k < (usedV l).length) : ∃ s, PrAt l k s := by
  obtain ⟨s, h1, h2⟩ := usedV_at l k hk
  exact ⟨s, h1, h2, prs_at l k hk s h1⟩

set_option maxRecDepth 100000 in
set_option maxHeartbeats 2000000 in
theorem rranks_call (l : List Int) (h : Tal l) (w : World) :
    Calls Try.prog 20 #[.agg (tl l)] w fun e w' => ∃ a c, e = .returned (.slice a (rankV l).length c) ∧ NewS w w' a c (rankV l) := by
  have hul := usedV_le l
  have HUC := Lib.hid (fun w => rused_call l h w)
  have HPR := Lib.hid (prAt l)
  obtain ⟨u, hu⟩ : ∃ u, u = usedV l := ⟨_, rfl⟩
  obtain ⟨n, hn⟩ : ∃ n, n = u.length := ⟨_, rfl⟩
  have hnu : n = (usedV l).length := by rw [hn, hu]
  rw [← hnu] at hul HPR
  rw [← hu, ← hn] at HUC
  have HU := Lib.hid hu
  have HN := Lib.hid hn
  have HNU := Lib.hid hnu
  clear hu hn hnu
  go_enter Try.func20, Try.ntmps20
  go_upto_region 1 with fail
  have hg := heap_alloc_last w (.cells (tl l) 23)
  have hb := (Below.refl w.heap.size w).alloc (Nat.le_refl _) (.cells (tl l) 23)
  generalize w.alloc (.cells (tl l) 23) = w1 at hg hb ⊢
  have HB := Lib.hid hb
  have huc := HUC.out w1
  clear hb
  go_wp2_with (refine wpList_load_row rfl 23 _ rfl w.heap.size rfl 23 (tl l) (0, 0) _ hg Try.underlying23 rfl (talIk h) ?_)
  refine huc.mono ?_
  rintro e w2 ⟨a, c, rfl, hN⟩
  have hg2 := heap_on hN.bel hg
  have HNS := Lib.hid hN
  have hmk := run_makeI intsT intI .i64 .i64 n (by omega) (by omega) w2
  clear hN huc hg
  go_upto_region 3 with fail
  have hgn := heap_alloc_last w2 (.cells (icells .i64 (List.replicate n 0)) 3)
  have hb3 := (Below.refl w2.heap.size w2).alloc (Nat.le_refl _) (.cells (icells .i64 (List.replicate n 0)) 3)
  have hW0 : WinS (w2.alloc (.cells (icells .i64 (List.replicate n 0)) 3)) .i64 3 (some ⟨w2.heap.size, 0, none⟩) n (List.replicate n 0) := by
    have := WinS.lit (k := .i64) (E := 3) hgn (by rw [List.length_replicate]; omega)
    rwa [List.length_replicate] at this
  generalize w2.alloc (.cells (icells .i64 (List.replicate n 0)) 3) = w3 at hgn hb3 hW0 ⊢
  have hg3 := heap_on hb3 hg2
  have hS3 := HNS.out.win.src.below hb3
  have HBB := Lib.hid (HB.out.trans (HNS.out.bel.mono HB.out.size))
  have HB3 := Lib.hid (HBB.out.trans (hb3.mono HBB.out.size))
  obtain ⟨G, hG⟩ : ∃ G, G = w2.heap.size := ⟨_, rfl⟩
  have hwG : w.heap.size < G := by rw [hG]; exact (Array.getElem?_eq_some_iff.1 hg2).1
  have hyG : ∀ x, a = some x → 0 < n → x.block < G := fun x e hpos => by
    rw [hG]
    exact HNS.out.win.src.lt (by rw [← HN.out]; exact hpos) x e
  rw [← hG] at hW0 ⊢
  have HS3 := Lib.hid hS3
  have HW0 := Lib.hid hW0
  have HY := Lib.hid hyG
  have HG3 := Lib.hid hg3
  clear hgn hb3 hW0 hg2 hg3 hS3 hyG hG hmk HNS HB
  go_wp2_with fail
  go_loopw [5] (fun v5 wr => ∃ (i : Nat) (q : List Int), i ≤ n ∧ v5 = .int .i64 i ∧ Plc l q i ∧ WinS wr .i64 3 (some ⟨G, 0, none⟩) n q ∧ Ch (fun y => y = G) w3 wr) (fun v5 _ => n - (intOf v5).toNat)
  case atStart => exact ⟨0, List.replicate n 0, by omega, rfl, Plc.start _ _ (by rw [List.length_replicate, HNU.out]), HW0.out, Ch.refl _ _⟩
  case round =>
    obtain ⟨i, q, hi, rfl, hP, hW, hc⟩ := hrel
    have HP := Lib.hid hP
    have HW := Lib.hid hW
    have HC := Lib.hid hc
    clear hP hW hc
    by_cases hlt : i < n
    · obtain ⟨s, hs⟩ := HPR.out i hlt
      have hs8 := hs.lt
      have HXS := Lib.hid hs
      have HCS := Lib.hid (cntR_step l ((s : Int), l.getD s 0))
      have HCL := Lib.hid (cntR_le l ((s : Int), l.getD s 0))
      have HCT := Lib.hid (cntR_lt l i _ hs.at_)
      have HST := Lib.hid (HP.out.step _ hs.at_)
      rw [← HNU.out] at HCT HST
      have HC0 := Lib.hid (show cntR l ((s : Int), l.getD s 0) 0 = 0 by have := HCL.out 0; omega)
      generalize hcx : cntR l ((s : Int), l.getD s 0) = CN at HCS HCL HCT HST HC0
      clear hs hcx
      go_upto_region 8 with fail
      go_loopw [6, 7] (fun v6 v7 wy => ∃ k : Nat, k ≤ n ∧ v7 = .int .i64 k ∧ v6 = .int .i64 (CN k) ∧ Below wr.heap.size wr wy) (fun _ v7 _ => n - (intOf v7).toNat)
      case atStart => exact ⟨0, by omega, rfl, by rw [HC0.out]; rfl, Below.refl _ _⟩
      case round =>
        obtain ⟨k, hk, rfl, rfl, hby⟩ := hrel
        have HBY := Lib.hid hby
        clear hby
        by_cases hltk : k < n
        · obtain ⟨p, hp⟩ := HPR.out k hltk
          have hp8 := hp.lt
          have hgy := heap_on HBY.out (HC.out.heap HG3.out (by omega))
          have hcs := tl_cell hgy h s hs8
          have hcp := tl_cell hgy h p hp8
          have hsy := (HC.out.src HS3.out (fun x e => by have := HY.out x e (by omega); omega)).below HBY.out
          obtain ⟨g, o, hae, hci⟩ := hsy.get (j := i) (by rw [← HN.out]; exact hlt)
          obtain ⟨g', o', hae', hck⟩ := hsy.get (j := k) (by rw [← HN.out]; exact hltk)
          subst hae
          injection hae' with hae'
          injection hae' with e1 e2 _
          subst e1 e2
          rw [HU.out, HXS.out.eq] at hci
          rw [HU.out, hp.eq] at hck
          have hbs := h.bd s
          have hbp := h.bd p
          have hstep := HCS.out k _ hp.at_
          have hcle := HCL.out k
          rw [show rlt ((p : Int), l.getD p 0) ((s : Int), l.getD s 0) = if l.getD p 0 = l.getD s 0 then decide ((p : Int) < (s : Int)) else decide (l.getD p 0 < l.getD s 0) from rfl] at hstep
          have HSTP := Lib.hid hstep
          clear hp hgy hsy hstep
          generalize l.getD s 0 = S at hcs hbs HSTP
          generalize l.getD p 0 = R at hcp hbp HSTP
          by_cases h1 : R < S
          · have hs1 : CN (k + 1) = CN k + 1 := by
              rw [HSTP.out]; simp [show ¬ R = S by omega, h1]
            have HS1 := Lib.hid hs1
            have d1 : decide (R < S) = true := decide_eq_true h1
            clear hs1
            go_upto_region 10 with fail
            go_quiet (fail)
            go_wp2_with fail
            exact ⟨⟨k + 1, by omega, by go_num, by rw [HS1.out]; go_num, HBY.out.drewN _⟩, by simp [intOf]; omega⟩
          · have d1 : decide (R < S) = false := decide_eq_false h1
            by_cases h2 : R = S
            · subst h2
              by_cases h3 : p < s
              · have hs1 : CN (k + 1) = CN k + 1 := by
                  rw [HSTP.out]; simp [h3]
                have HS1 := Lib.hid hs1
                have d3 : decide (p < s) = true := decide_eq_true h3
                have d3' : decide ((p : Int) < (s : Int)) = true := decide_eq_true (by omega)
                clear hs1
                go_upto_region 10 with fail
                go_quiet (fail)
                go_wp2_with fail
                exact ⟨⟨k + 1, by omega, by go_num, by rw [HS1.out]; go_num, HBY.out.drewN _⟩, by simp [intOf]; omega⟩
              · have hs1 : CN (k + 1) = CN k := by
                  rw [HSTP.out]; simp [h3]
                have HS1 := Lib.hid hs1
                have d3 : decide (p < s) = false := decide_eq_false h3
                have d3' : decide ((p : Int) < (s : Int)) = false := decide_eq_false (by omega)
                clear hs1
                go_upto_region 10 with fail
                go_quiet (fail)
                go_wp2_with fail
                exact ⟨⟨k + 1, by omega, by go_num, by rw [HS1.out], HBY.out.drewN _⟩, by simp [intOf]; omega⟩
            · have hs1 : CN (k + 1) = CN k := by
                rw [HSTP.out]; simp [h2, h1]
              have HS1 := Lib.hid hs1
              have d2 : decide (R = S) = false := decide_eq_false h2
              have d2' : (R == S) = false := by simpa using h2
              clear hs1
              go_upto_region 10 with fail
              go_quiet (fail)
              go_wp2_with fail
              exact ⟨⟨k + 1, by omega, by go_num, by rw [HS1.out], HBY.out.drewN _⟩, by simp [intOf]; omega⟩
        · obtain rfl : k = n := by omega
          have hsy := (HC.out.src HS3.out (fun x e => by have := HY.out x e (by omega); omega)).below HBY.out
          obtain ⟨g, o, hae, hci⟩ := hsy.get (j := i) (by rw [← HN.out]; exact hlt)
          subst hae
          rw [HU.out, HXS.out.eq] at hci
          have hWy := HW.out.below HBY.out
          have hct := HCT.out
          have hfz : wr.frozen? ⟨G, CN k, none⟩ = false := by
            obtain ⟨cur, hcur⟩ := hWy.row rfl
            simp [World.frozen?, hcur]
          obtain ⟨g2, o2, e2, hcell2⟩ := hWy.src.get (j := CN k) (by rw [HP.out.1, ← HNU.out]; exact hct)
          injection e2 with e2
          injection e2 with e3 e4 _
          subst e3 e4
          rw [Nat.zero_add] at hcell2
          have hset := hWy.setAt (CN k) (by rw [HP.out.1, ← HNU.out]; exact hct) (s : Int)
          rw [Nat.zero_add] at hset
          have HSET := Lib.hid hset
          have HC2 := Lib.hid ((HC.out.thenBelow HBY.out).setCell ⟨G, CN k, none⟩ (.int .i64 (s : Int)) (.inl rfl))
          clear hsy hWy hset
          go_wp2_with fail
          exact ⟨⟨i + 1, _, by omega, by go_num, HST.out, HSET.out, HC2.out⟩, by simp [intOf]; omega⟩
    · obtain rfl : i = n := by omega
      have hq : q = rankV l := (HNU.out ▸ HP.out).all
      have hlen : i = (rankV l).length := by rw [rankV_length, HNU.out]
      have HQ := Lib.hid hq
      have HL := Lib.hid hlen
      clear hq hlen
      go_wp2_with fail
      go_ret
      refine ⟨some ⟨G, 0, none⟩, i, by rw [← HL.out]; rfl, by rw [← HQ.out]; exact HW.out, fun g e => ?_, HB3.out.trans (HC.out.below HB3.out.size (fun y e => by subst e; omega))⟩
      injection e with e
      subst e
      show w.heap.size ≤ G
      omega
end Go.Proofs.Ytlbgnichgjancaa
