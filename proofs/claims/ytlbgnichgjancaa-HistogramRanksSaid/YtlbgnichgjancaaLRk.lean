/- Law HistogramRanks. -/
import Derived.Test.YtlbgnichgjancaaRkN
import Derived.Test.YtlbgnichgjancaaPa
import Derived.Test.YtlbgnichgjancaaWk
import Derived.Test.YtlbgnichgjancaaLOr
import Derived.Test.YtlbgnichgjancaaFrm
import Derived.Test.YtlbgnichgjancaaOp
import Derived.Deep.QuietTactic
import Derived.BigQuiet
set_option linter.unusedVariables false
set_option linter.unusedSimpArgs false
namespace Go.Proofs.Ytlbgnichgjancaa
open Go.RowKit

/-- A slice of these integers. -/
def LsJ (n : Nat) (q : List Int) (v : Value) (w : World) : Prop := ∃ a c, v = .slice a n c ∧ Src w .i64 a q
theorem LsJ_mono (n : Nat) (q : List Int) : MonoV (LsJ n q) := fun v w w' h hb => by
  obtain ⟨a, c, e, hs⟩ := h
  exact ⟨a, c, e, hs.below hb⟩
/-- What the second loop looks at. -/
structure RankAt (l r : List Int) (k s : Nat) : Prop where
  eq : r.getD k 0 = s
  lt : s < 258
  pos : 1 ≤ l.getD s 0
theorem rankAt (l : List Int) (k : Nat) (hk : k < (rankV l).length) : ∃ s, RankAt l (rankV l) k s := by
  obtain ⟨s, h1, h2, h3⟩ := rank_at l k hk
  exact ⟨s, h1, h2, h3⟩

set_option maxRecDepth 100000 in
set_option maxHeartbeats 4000000 in
theorem ranksLaw_out (l : List Int) (h : Tal l) (hv : ¬ VT l) (w : World) :
    Calls Try.prog 5 #[.agg (tl l)] w fun e w' => e = .returned (.bool true) ∧ Below w.heap.size w w' := by
  have hu : usedV l = [] := if_neg hv
  have hr : rankV l = [] := List.eq_nil_of_length_eq_zero (by rw [rankV_length, hu]; rfl)
  have hrv := fun w => rvalid_call l h w
  have hUC := fun w => used_call l h w
  have hRC := fun w => ranksA_call l h w
  rw [decide_eq_false hv] at hrv
  rw [hu] at hUC
  rw [hr] at hRC
  clear hu hr hv
  go_enter Try.func5, Try.ntmps5
  go_upto_region 1 with fail
  have hg := heap_alloc_last w (.cells (tl l) 23)
  have hb := below_al w (.cells (tl l) 23)
  generalize w.alloc (.cells (tl l) 23) = w1 at hg hb ⊢
  have HB := Lib.hid hb
  clear hb
  go_wp2_with (refine wpList_load_row rfl 23 _ rfl w.heap.size rfl 23 (tl l) (0, 0) _ hg Try.underlying23 rfl (talIk h) ?_)
  refine (hrv _).mono ?_
  rintro e w2 ⟨rfl, hb2⟩
  have hg2 := heap_on hb2 hg
  have HB2 := Lib.hid (HB.out.trans (hb2.mono HB.out.size))
  clear hb2 hrv HB hg
  go_wp2_with (refine wpList_load_row rfl 23 _ rfl w.heap.size rfl 23 (tl l) (0, 0) _ hg2 Try.underlying23 rfl (talIk h) ?_)
  refine (hUC _).mono ?_
  rintro e w3 ⟨a, c, rfl, hN⟩
  have hg3 := heap_on hN.bel hg2
  have HB3 := Lib.hid (HB2.out.trans (hN.bel.mono HB2.out.size))
  clear hN hUC HB2 hg2
  go_wp2_with (refine wpList_load_row_g 4 true rfl 16 rfl _ rfl rfl 23 _ rfl w.heap.size rfl 23 (tl l) (0, 0) _ hg3 Try.underlying23 rfl (talIk h) ?_)
  refine (hRC _).mono ?_
  rintro e w4 ⟨a2, c2, rfl, hN⟩
  have HB4 := Lib.hid (HB3.out.trans (hN.bel.mono HB3.out.size))
  clear hN hRC HB3
  go_wp2_with fail
  refine (wakes_call _).mono ?_
  rintro e w5 ⟨rfl, hb5⟩
  have HB5 := Lib.hid (HB4.out.trans (hb5.mono HB4.out.size))
  clear hb5
  go_wp2_with fail
  go_ret
  exact ⟨rfl, HB5.out⟩

set_option maxRecDepth 100000 in
set_option maxHeartbeats 4000000 in
theorem ranksLaw_in (l : List Int) (h : Tal l) (hv : VT l) (w : World) :
    Calls Try.prog 5 #[.agg (tl l)] w fun e w' => e = .returned (.bool true) ∧ Below w.heap.size w w' := by
  have hu : usedV l = usedL l 258 := if_pos hv
  have hrv := fun w => rvalid_call l h w
  have hUC := fun w => used_call l h w
  have hRC := fun w => ranksA_call l h w
  have hln := rankV_length l
  have hul := usedV_le l
  rw [decide_eq_true hv] at hrv
  have HRA := Lib.hid (rankAt l)
  have HRO := Lib.hid (rank_ord l)
  have HUT := Lib.hid (used_there l)
  have hlu : (usedV l).length = (usedL l 258).length := by rw [hu]
  rw [hln] at hRC
  generalize rankV l = r at hRC hln HRA HRO
  rw [← hu] at HUT
  generalize usedV l = u at hUC hRC hln hul HUT hlu
  obtain ⟨n, hn⟩ : ∃ n, n = u.length := ⟨_, rfl⟩
  rw [← hn] at hRC hul HUT hln hlu
  simp only [← hn] at hUC
  have HN := Lib.hid hn
  have HLU := Lib.hid hlu
  have HLN := Lib.hid hln
  clear hln hn hlu hu hv
  go_enter Try.func5, Try.ntmps5
  go_upto_region 1 with fail
  have hg := heap_alloc_last w (.cells (tl l) 23)
  have hb := below_al w (.cells (tl l) 23)
  generalize w.alloc (.cells (tl l) 23) = w1 at hg hb ⊢
  have HB := Lib.hid hb
  clear hb
  go_wp2_with (refine wpList_load_row rfl 23 _ rfl w.heap.size rfl 23 (tl l) (0, 0) _ hg Try.underlying23 rfl (talIk h) ?_)
  refine (hrv _).mono ?_
  rintro e w2 ⟨rfl, hb2⟩
  have hg2 := heap_on hb2 hg
  have HB2 := Lib.hid (HB.out.trans (hb2.mono HB.out.size))
  clear hb2 hrv HB hg
  go_upto_region 3 with fail
  go_cut [3, 4] (fun s3 s4 wx => ∃ a c b d, s3 = .slice a n c ∧ s4 = .slice b n d ∧ Src wx .i64 a u ∧ Src wx .i64 b r ∧ Below w2.heap.size w2 wx)
  case first =>
    -- REGION
    refine wp_region_frame (J := Js [eqv (.agg (tl l)), LsJ n u, eqv (.agg (tl l)), LsJ n r, LsJ n u, LsJ n r]) (ds := [25, 26, 27, 28, 3, 4]) (N := 122)
      (B := [(1, .pointer (some ⟨w.heap.size, 0, none⟩))]) (by kernel_rfl) (by kernel_rfl) (Js_mono ⟨eqv_mono _, LsJ_mono _ _, eqv_mono _, LsJ_mono _ _, LsJ_mono _ _, LsJ_mono _ _, trivial⟩) rfl rfl (by simp) ?_ ?_
    · refine ⟨?_, ?_, ?_, ?_, ?_, ?_, trivial⟩
      · intro a w' hb hdep K hK
        have c1 := hb.at 0 1 _ rfl
        clear hdep
        exact wp_load_row 23 _ rfl w.heap.size (by simp [Act.eval, c1]) 23 (tl l) (0, 0) _ (heap_on hb.bel hg2) Try.underlying23 rfl (talIk h) (hK _ _ rfl (Below.refl _ _))
      · intro a w' hb hdep K hK
        obtain ⟨v0, e0, j0⟩ := hdep 0 (by kernel_rfl)
        replace e0 : a.tmps[25]? = some v0 := e0
        obtain rfl : v0 = _ := j0
        clear hdep
        go_simp
        go_at_call 17
        refine (hUC _).mono ?_
        rintro e w5 ⟨a5, c5, rfl, hn5⟩
        exact hK _ _ ⟨_, _, rfl, hn5.win.src⟩ hn5.bel
      · intro a w' hb hdep K hK
        have c1 := hb.at 0 1 _ rfl
        clear hdep
        exact wp_load_row 23 _ rfl w.heap.size (by simp [Act.eval, c1]) 23 (tl l) (0, 0) _ (heap_on hb.bel hg2) Try.underlying23 rfl (talIk h) (hK _ _ rfl (Below.refl _ _))
      · intro a w' hb hdep K hK
        obtain ⟨v2, e2, j2⟩ := hdep 2 (by kernel_rfl)
        replace e2 : a.tmps[27]? = some v2 := e2
        obtain rfl : v2 = _ := j2
        clear hdep
        go_simp
        go_at_call 19
        refine (hRC _).mono ?_
        rintro e w5 ⟨a5, c5, rfl, hn5⟩
        exact hK _ _ ⟨_, _, rfl, hn5.win.src⟩ hn5.bel
      · intro a w' hb hdep K hK
        obtain ⟨v1, e1, j1⟩ := hdep 1 (by kernel_rfl)
        replace e1 : a.tmps[26]? = some v1 := e1
        clear hdep
        go_simp
        exact hK _ _ j1 (Below.refl _ _)
      · intro a w' hb hdep K hK
        obtain ⟨v3, e3, j3⟩ := hdep 3 (by kernel_rfl)
        replace e3 : a.tmps[28]? = some v3 := e3
        clear hdep
        go_simp
        exact hK _ _ j3 (Below.refl _ _)
    · intro vs w' hvl hall hb
      match vs, hvl with
      | [v0, v1, v2, v3, v4, v5], _ =>
        obtain rfl : v0 = _ := hall 0 (by decide)
        have hj1 := hall 1 (by decide)
        obtain rfl : v2 = _ := hall 2 (by decide)
        have hj3 := hall 3 (by decide)
        have hj4 := hall 4 (by decide)
        have hj5 := hall 5 (by decide)
        simp only [putAll, List.setIfInBounds_toArray, List.set_cons_zero, List.set_cons_succ]
        obtain ⟨a5, c5, rfl, h5⟩ := hj4
        obtain ⟨a6, c6, rfl, h6⟩ := hj5
        go_wp2
        go_meet
        exact ⟨_, _, _, _, rfl, rfl, h5, h6, hb⟩
    -- END REGION
  case rest =>
    obtain ⟨a, c, b, d, rfl, rfl, hsu, hsr, hbc⟩ := hcut
    have hg5 := heap_on hbc hg2
    have HB5 := Lib.hid (HB2.out.trans (hbc.mono HB2.out.size))
    have HSU := Lib.hid hsu
    have HSR := Lib.hid hsr
    clear hsu hsr hbc hg2 HB2 hUC hRC
    go_wp2_with fail
    go_loopw [5, 6] (fun v5 v6 wr => ∃ k : Nat, k ≤ 258 ∧ v6 = .int .i64 k ∧ v5 = .int .i64 (usedL l k).length ∧ wr = wc) (fun _ v6 _ => 258 - (intOf v6).toNat)
    case atStart => exact ⟨0, by omega, rfl, rfl, rfl⟩
    case round =>
      obtain ⟨k, hk, rfl, rfl, rfl⟩ := hrel
      by_cases hlt : k < 258
      · have hcl := tl_cell hg5 h k hlt
        have hbd := h.bd k
        have HY := Lib.hid (usedL_yes l k)
        have HNO := Lib.hid (usedL_no l k)
        have HT := Lib.hid (HUT.out k hlt)
        have hle := usedL_length l k
        generalize l.getD k 0 = V at hcl hbd HY HNO HT
        obtain ⟨m, hm⟩ : ∃ m, m = (usedL l k).length := ⟨_, rfl⟩
        rw [← hm] at HT hle ⊢
        have HM := Lib.hid hm
        clear hm
        by_cases hV : 0 < V
        · obtain ⟨hmn, hum⟩ := HT.out hV
          obtain ⟨g, o, hae, hc2⟩ := HSU.out.get (j := m) (by rw [← HN.out]; exact hmn)
          subst hae
          rw [hum] at hc2
          have HL2 := Lib.hid (show (usedL l (k + 1)).length = m + 1 by rw [HY.out hV, List.length_append, ← HM.out]; rfl)
          clear hum HT HY HNO
          go_wp2_with fail
          exact ⟨⟨k + 1, by omega, by go_num, by rw [HL2.out]; rfl, by trivial⟩, by simp [intOf]; omega⟩
        · have HL2 := Lib.hid (show (usedL l (k + 1)).length = m by rw [HNO.out hV, ← HM.out])
          clear HT HY HNO
          go_wp2_with fail
          exact ⟨⟨k + 1, by omega, by go_num, by rw [HL2.out], by trivial⟩, by simp [intOf]; omega⟩
      · obtain rfl : k = 258 := by omega
        rw [← HLU.out, show ((258 : Nat) : Int) = 258 from rfl]
        go_wp2_with fail
        go_loopw [7] (fun v7 wy => ∃ k : Nat, k ≤ n ∧ v7 = .int .i64 k ∧ Below wr.heap.size wr wy) (fun v7 _ => n - (intOf v7).toNat)
        case atStart => exact ⟨0, by omega, rfl, Below.refl _ _⟩
        case round =>
          obtain ⟨k, hk, rfl, hbr⟩ := hrel
          have HBR := Lib.hid hbr
          clear hbr
          by_cases hlt : k < n
          · obtain ⟨s, hs⟩ := HRA.out k (by rw [HLN.out]; exact hlt)
            have hs8 := hs.lt
            have hps := hs.pos
            have hgr := heap_on HBR.out hg5
            have hcs := tl_cell hgr h s hs8
            obtain ⟨g, o, hae, hcr⟩ := (HSR.out.below HBR.out).get (j := k) (by rw [HLN.out]; exact hlt)
            subst hae
            rw [hs.eq] at hcr
            have hbs := h.bd s
            by_cases hk0 : k = 0
            · have hd0 : decide ((0 : Int) < (k : Int)) = false := decide_eq_false (by omega)
              have hd1 : decide (0 < k) = false := decide_eq_false (by omega)
              clear hk0
              generalize l.getD s 0 = S at hcs hps hbs
              clear hs hgr
              go_upto_region 20 with fail
              go_quiet (fail)
              go_wp2_with fail
              go_roundw
              case rel => exact ⟨k + 1, by omega, by go_num, HBR.out.drewN _⟩
              case measure => simp [intOf]; omega
            · obtain ⟨j, hj⟩ : ∃ j, k = j + 1 := ⟨k - 1, by omega⟩
              obtain ⟨p, hp⟩ := HRA.out j (by rw [HLN.out]; omega)
              have hp8 := hp.lt
              have hcp := tl_cell hgr h p hp8
              obtain ⟨g', o', hae, hcq⟩ := (HSR.out.below HBR.out).get (j := j) (by rw [HLN.out]; omega)
              injection hae with hae
              injection hae with e1 e2 _
              subst e1 e2
              rw [hp.eq] at hcq
              have hbp := h.bd p
              have hor := HRO.out j (by rw [HLN.out]; omega) p s hp.eq (by rw [← hj]; exact hs.eq)
              have hwr : IntKind.i64.wrap ((k : Int) - 1) = j := by rw [IntKind.wrap_i64]; omega
              have hjn : j < n := by omega
              have h0 : decide (0 < k) = true := decide_eq_true (by omega)
              have h0' : decide ((0 : Int) < (k : Int)) = true := decide_eq_true (by omega)
              clear hs hp hgr hk0 hj
              generalize l.getD s 0 = S at hcs hps hbs hor
              generalize l.getD p 0 = R at hcp hbp hor
              rcases hor with hor | ⟨hor, hps2⟩
              · have h1 : decide (S < R) = false := decide_eq_false (by omega)
                have h2 : decide (S = R) = false := decide_eq_false (by omega)
                have h3 : (S == R) = false := by simpa using h2
                go_upto_region 20 with fail
                go_quiet (fail)
                go_wp2_with fail
                exact ⟨⟨k + 1, by omega, by go_num, HBR.out.drewN _⟩, by simp [intOf]; omega⟩
              · subst hor
                have h3 : decide (s ≤ p) = false := decide_eq_false (by omega)
                have h3' : decide ((s : Int) ≤ (p : Int)) = false := decide_eq_false (by omega)
                clear hps2
                go_upto_region 20 with fail
                go_quiet (fail)
                go_wp2_with fail
                exact ⟨⟨k + 1, by omega, by go_num, HBR.out.drewN _⟩, by simp [intOf]; omega⟩
          · obtain rfl : k = n := by omega
            have HBB := Lib.hid (HB5.out.trans (HBR.out.mono HB5.out.size))
            go_wp2_with fail
            refine (wakes_call _).mono ?_
            rintro e w7 ⟨rfl, hb7⟩
            have HB7 := Lib.hid (HBB.out.trans (hb7.mono HBB.out.size))
            clear hb7
            go_wp2_with fail
            go_ret
            exact ⟨rfl, HB7.out⟩
theorem ranksLaw_call (l : List Int) (h : Tal l) (w : World) :
    Calls Try.prog 5 #[.agg (tl l)] w fun e w' => e = .returned (.bool true) ∧ Below w.heap.size w w' := by
  by_cases hv : VT l
  · exact ranksLaw_in l h hv w
  · exact ranksLaw_out l h hv w
end Go.Proofs.Ytlbgnichgjancaa
