/- The walk over winepresslaw03.BitReaderMatches. -/
import Derived.Test.YtjbbbojbjholfaaWkR
import Derived.Test.YtjbbbojbjholfaaMr
import Derived.Deep.DeepCutAuto
import Derived.Deep.CutBlock
import Derived.Deep.RegionHeld3
set_option linter.unusedVariables false
set_option linter.unusedSimpArgs false
namespace Go.Proofs.Ytjbbbojbjholfaa
open Go.RowKit

/-- The state behind an operation. -/
def MaS (w : World) (B p r : Nat) (D : List AskD) (k : Nat) (W : World) : Prop := ∃ a1 a2 s, MR w B p r a1 s a2 s W ∧ s.f.length ≤ (joinK (D.take k)).length
theorem MaS.succ {w : World} {B p r : Nat} {D : List AskD} {k : Nat} {W : World} {a1 a2 : Option Addr} {s : St} (h : MR w B p r a1 s a2 s W) {d : AskD} (hd : D[k]? = some d) (hs : s.f.length ≤ (joinK (D.take k)).length + d.ck.bs.length) : MaS w B p r D (k + 1) W :=
  ⟨a1, a2, s, h, by rw [joinK_succ D k d hd, List.length_append]; exact hs⟩

set_option maxRecDepth 100000 in
set_option maxHeartbeats 8000000 in
theorem malaw_call (sp : Option Addr) (n cc : Nat) (D : List AskD) (w : World) (hl : D.length = n) (hs : KSrc w sp D) (hok : ∀ d ∈ D, OkK w d) (hn : n ≤ 9223372036854775807) :
    Calls Try.prog 3 #[.slice sp n cc] w fun e w' => e = .returned (.bool true) ∧ Below w.heap.size w w' := by
  obtain ⟨B, hB⟩ : ∃ B, B = w.heap.size := ⟨_, rfl⟩
  have hG := Lib.hid (small_call w sp n cc D hl hs hok hn)
  have hdlt : ∀ d ∈ D, 0 < d.ck.bs.length → ∀ x, d.ck.a = some x → x.block < B := fun d hd h0 x e => by rw [hB]; exact (hok d hd).ck.src.lt h0 x e
  have HD := Lib.hid hdlt
  have HB := Lib.hid hB
  have HL := Lib.hid hl
  have HS := Lib.hid hs
  have HK := Lib.hid hok
  rw [← hB]
  clear hB hl hs hok hdlt
  go_enter Try.func3, Try.ntmps3
  go_wp2_with fail
  refine hG.out.mono ?_
  rintro e w1 ⟨⟨b, rfl, hgr⟩, rfl⟩
  cases b with
  | false =>
    go_wp2_with fail
    refine (wakes_call w).mono ?_
    rintro e w1 ⟨rfl, hb⟩
    go_wp2
    go_ret
    exact ⟨rfl, HB.out ▸ hb⟩
  | true =>
    obtain ⟨h100, h3000⟩ := hgr rfl
    rw [HL.out] at h100
    clear hgr
    go_wp2_with fail
    refine (newB B w (by rw [HB.out]; exact Nat.le_refl _)).mono ?_
    rintro e w1 ⟨rfl, hr1, hb⟩
    rw [← HB.out] at hr1 hb ⊢
    obtain ⟨r, hr⟩ : ∃ r, r = w1.heap.size := ⟨_, rfl⟩
    have hB1 : B < r := by rw [hr]; exact hr1.rd.plt
    have hM : MR w B B r none ⟨[], 0, false⟩ none ⟨[], 0, false⟩ (w1.alloc (.cells #[.slice none 0 0, .int .i64 0, .bool false] 30)) :=
      ⟨⟨_, (hr1.alloc _).rd⟩, ⟨0, by rw [hr]; exact heap_alloc_new w1 _, WinS.nil _ _ _, by simp, by simp, by simp⟩, hr1.fp, fun k e => by (rcases e with rfl | e); (omega); (cases e), fun k e1 e2 => by (rcases e1 with rfl | e1); (rcases e2 with e2 | e2); (omega); (cases e2); (cases e1), hb.alloc hr1.sz _, Nat.le_trans hr1.sz (by simp)⟩
    have HM := Lib.hid (show MaS w B B r D 0 _ from ⟨_, _, _, hM, by simp⟩)
    clear hM hr1 hb
    go_wp2_with fail
    rw [← hr]
    clear hr
    generalize (w1.alloc (.cells #[.slice none 0 0, .int .i64 0, .bool false] 30)) = w2 at *
    go_loopw [5] (fun x5 wr => ∃ k : Nat, k ≤ n ∧ x5 = .int .i64 k ∧ MaS w B B r D k wr) (fun x5 _ => n - (intOf x5).toNat)
    case atStart => exact ⟨0, Nat.zero_le _, rfl, HM.out⟩
    case round =>
      obtain ⟨k, hk, rfl, a1, a2, s, hm, hsf⟩ := hrel
      have HM1 := Lib.hid hm
      have HSF := Lib.hid hsf
      clear hm hsf HM
      by_cases hlt : k < n
      · obtain ⟨d, hd⟩ : ∃ d, D[k]? = some d := ⟨D[k]'(by rw [HL.out]; exact hlt), List.getElem?_eq_getElem _⟩
        have hbA := HM1.out.bel
        have hks := HS.out.below (HB.out ▸ hbA)
        rcases hks with rfl | ⟨g, o, rfl, hc⟩
        · simp at hd
        have hc0 := hc k d hd 0 _ rfl
        have hc1 := hc k d hd 1 _ rfl
        have hc2 := hc k d hd 2 _ rfl
        rw [Nat.add_zero] at hc0
        have hdm := List.mem_of_getElem? hd
        have hjl := joinK_le D (k + 1)
        rw [joinK_succ D k d hd, List.length_append] at hjl
        have hsum : s.f.length + d.ck.bs.length ≤ 1000000 := by have := HSF.out; omega
        have hok := HK.out d hdm
        have HDW := Lib.hid (HD.out d hdm)
        have HOKW := Lib.hid hok
        have HDD := Lib.hid hd
        have HBA := Lib.hid hbA
        have hgw : g < wr.heap.size := World.block_lt_of_cell? wr _ hc0
        have hgB : g < B := by
          rcases HS.out with rfl | ⟨g', o', e, hc'⟩
          · have := HDD.out; simp at this
          · injection e with e
            injection e with e1 _ _
            subst e1
            rw [HB.out]
            exact World.block_lt_of_cell? w _ (hc' k d HDD.out 0 _ rfl)
        obtain ⟨dv, wv, ck⟩ := d
        dsimp only at hc0 hc1 hc2 hsum
        clear hc hd hdm hjl hok hbA
        go_upto_block 2 with fail
        go_cut [6] (fun s6 wx => s6 = .bool true ∧ MaS w B B r D (k + 1) wx)
        case first =>
          by_cases h0 : dv = 0
          · subst h0
            have hm0 := HM1.out.drew
            have hS0 : wr.drew.cell? ⟨g, o + k * 3 + 2, none⟩ = some (.slice ck.a ck.len ck.cap) := hc2
            have hS1 : ∀ ob, (wr.drew.alloc ob).cell? ⟨g, o + k * 3 + 2, none⟩ = some (.slice ck.a ck.len ck.cap) := fun ob => (World.cell?_alloc_lt _ _ _ hgw).trans hS0
            have hok0 : OkC wr.drew ck := (HOKW.out.ck.below (HB.out ▸ HBA.out)).below ((Below.refl _ _).drew)
            go_wp2_with fail
            go_region_held3 (fun W => W.cell? ⟨g, o + k * 3 + 2, none⟩ = some (.slice ck.a ck.len ck.cap)) (first | exact hS0 | exact hS1 _ | exact hS5 | exact hS6) ((first
              | (go_at_call 11; go_must (refine ((hm0.alloc _).feed1 wr.drew.heap.size ck 28 (heap_alloc_new _ _) hm0.new1 (hok0.below ((Below.refl _ _).alloc (Nat.le_refl _) _)) HDW.out hsum).mono ?_; rintro e w5 ⟨rfl, a15, hm5, hb5⟩; have hS5 := (hb5.cell (p := ⟨g, o + k * 3 + 2, none⟩) hgB).trans (hS1 _); have hok5 : OkC w5 ck := HOKW.out.ck.below (HB.out ▸ hm5.bel)))
              | (go_at_call 12; go_must (refine (hm5.feed2 ck hok5 hsum).mono ?_; rintro e w6 ⟨rfl, a26, hm6, hb6, hh6⟩; have hS6 := (hb6.cell (p := ⟨g, o + k * 3 + 2, none⟩) hgB).trans hS5))))
            have HA := Lib.hid (MaS.succ hm6 HDD.out (by
              have := HSF.out
              unfold feedS
              dsimp only
              split
              · omega
              · rw [List.length_append]
                omega))
            clear hm0 hm5 hm6 hb5 hb6 hh6 hS1 hok0 hok5
            go_wp2_with fail
            all_goals go_meet
            all_goals exact ⟨by simp, HA.out⟩
          · have d0 : (dv == 0) = false := by simpa using h0
            by_cases h1 : dv = 1
            · subst h1
              obtain ⟨V, hV⟩ : ∃ V, V = valS s wv := ⟨_, rfl⟩
              obtain ⟨c, hcc⟩ : ∃ c, c = canS s wv := ⟨_, rfl⟩
              have hp1 := HM1.out.peek1 wv
              rw [← hV, ← hcc] at hp1
              have HP1 := Lib.hid hp1
              clear hp1
              go_wp2_with fail
              refine HP1.out.mono ?_
              rintro e w5 ⟨rfl, hm5, hb5⟩
              have hq1 := (hb5.cell (p := ⟨g, o + k * 3 + 1, none⟩) hgB).trans hc1
              have hp2 := hm5.peek2 wv
              rw [← hV, ← hcc] at hp2
              have HP2 := Lib.hid hp2
              clear hp2 hm5 hb5 hV hcc HP1
              go_wp2_with fail
              refine HP2.out.mono ?_
              rintro e w6 ⟨rfl, hm6, hb6⟩
              have HA := Lib.hid (MaS.succ hm6 HDD.out (by have := HSF.out; omega))
              clear hm6 hb6 HP2
              go_wp2_with fail
              all_goals go_meet
              all_goals exact ⟨by simp, HA.out⟩
            · have d1 : (dv == 1) = false := by simpa using h1
              by_cases h2 : dv = 2
              · subst h2
                obtain ⟨V, hV⟩ : ∃ V, V = valS s wv := ⟨_, rfl⟩
                obtain ⟨c, hcc⟩ : ∃ c, c = canS s wv := ⟨_, rfl⟩
                have hp1 := HM1.out.take1 wv
                rw [← hV, ← hcc] at hp1
                have HP1 := Lib.hid hp1
                clear hp1
                go_wp2_with fail
                refine HP1.out.mono ?_
                rintro e w5 ⟨rfl, a15, hm5, hb5⟩
                have hq1 := (hb5.cell (p := ⟨g, o + k * 3 + 1, none⟩) hgB).trans hc1
                have hp2 := hm5.take2 wv
                rw [← hV, ← hcc] at hp2
                have HP2 := Lib.hid hp2
                clear hp2 hm5 hb5 hV hcc HP1
                go_wp2_with fail
                refine HP2.out.mono ?_
                rintro e w6 ⟨rfl, a26, hm6, hb6, _⟩
                have HA := Lib.hid (MaS.succ hm6 HDD.out (by have := HSF.out; unfold takeS; dsimp only; omega))
                clear hm6 hb6 HP2
                go_wp2_with fail
                all_goals go_meet
                all_goals exact ⟨by simp, HA.out⟩
              · have d2 : (dv == 2) = false := by simpa using h2
                by_cases h3 : dv = 3
                · subst h3
                  obtain ⟨V, hV⟩ : ∃ V, V = valV (((bitsB s.f).drop s.u).take (lackS s)) := ⟨_, rfl⟩
                  obtain ⟨c, hcc⟩ : ∃ c, c = lackS s := ⟨_, rfl⟩
                  have hp1 := HM1.out.align1
                  rw [← hV, ← hcc] at hp1
                  have HP1 := Lib.hid hp1
                  clear hp1
                  go_wp2_with fail
                  refine HP1.out.mono ?_
                  rintro e w5 ⟨rfl, a15, hm5, hb5⟩
                  have hp2 := hm5.align2
                  rw [← hV, ← hcc] at hp2
                  have HP2 := Lib.hid hp2
                  clear hp2 hm5 hb5 hV hcc HP1
                  go_wp2_with fail
                  refine HP2.out.mono ?_
                  rintro e w6 ⟨rfl, a26, hm6, hb6, _⟩
                  have HA := Lib.hid (MaS.succ hm6 HDD.out (by have := HSF.out; unfold alignS; dsimp only; omega))
                  clear hm6 hb6 HP2
                  go_wp2_with fail
                  all_goals go_meet
                  all_goals exact ⟨by simp, HA.out⟩
                · have d3 : (dv == 3) = false := by simpa using h3
                  have hm0 := HM1.out.drew
                  have hS0 : wr.drew.cell? ⟨r, 2, none⟩ = some (.bool s.e) := hm0.ce
                  go_wp2_with fail
                  go_region_held3 (fun W => W.cell? ⟨r, 2, none⟩ = some (.bool s.e)) (first | exact hS0 | exact hS5) ((go_at_call 19; go_must (refine hm0.end1.mono ?_; rintro e w5 ⟨rfl, a15, hm5, hb5⟩; have hS5 := hm5.ce)))
                  have hf5 := hm5.cf 2
                  have HE := Lib.hid hm5.ended2
                  clear hm0 hm5 hb5
                  go_wp2_with fail
                  obtain ⟨a26, hm6, hb6, _⟩ := HE.out
                  have HA := Lib.hid (MaS.succ hm6 HDD.out (by have := HSF.out; unfold endS; dsimp only; omega))
                  clear hm6 hb6 HE
                  all_goals go_meet
                  all_goals exact ⟨by simp, HA.out⟩
        case rest =>
          obtain ⟨rfl, q1, q2, t, hmc, htf⟩ := hcut
          have hm0 := hmc.drew
          obtain ⟨L, hL⟩ : ∃ L, t.u + L = 8 * t.f.length := ⟨8 * t.f.length - t.u, by have := hmc.le; omega⟩
          have HLL := Lib.hid hL
          have HTF := Lib.hid htf
          clear hmc htf hL hc0 hc1 hc2
          go_wp2_with fail
          go_region_held3 (fun W => W.cell? ⟨r, 1, none⟩ = some (.int .i64 t.u) ∧ W.cell? ⟨r, 2, none⟩ = some (.bool t.e)) (first | exact ⟨hm0.cu, hm0.ce⟩ | exact ⟨hm5.cu, hm5.ce⟩ | exact ⟨hm6.cu, hm6.ce⟩ | exact ⟨hm7.cu, hm7.ce⟩ | exact ⟨hm8.cu, hm8.ce⟩) ((first
            | (go_at_call 20; go_must (refine (hm0.left1 L HLL.out).mono ?_; rintro e w5 ⟨rfl, hb5⟩; have hm5 := hm0.below hb5))
            | (go_at_call 21; go_must (refine (hm5.left2 L HLL.out).mono ?_; rintro e w6 ⟨rfl, hb6⟩; have hm6 := hm5.below hb6))
            | (go_at_call 22; go_must (refine hm6.used1.mono ?_; rintro e w7 ⟨rfl, hb7⟩; have hm7 := hm6.below hb7))
            | (go_at_call 23; go_must (refine hm7.ended1.mono ?_; rintro e w8 ⟨rfl, hb8⟩; have hm8 := hm7.below hb8))))
          have HA := Lib.hid (show MaS w B B r D (k + 1) _ from ⟨q1, q2, t, hm8, HTF.out⟩)
          clear hm0 hm5 hm6 hm7 hm8 hb5 hb6 hb7 hb8
          go_wp2_with fail
          exact ⟨⟨k + 1, by omega, by go_num, HA.out⟩, by simp [intOf]; omega⟩
      · obtain rfl : k = n := by omega
        have hsz := HM1.out.sz
        have B5 := Lib.hid HM1.out.bel
        go_wp2_with fail
        refine (wakes_call wr).mono ?_
        rintro e w6 ⟨rfl, hb⟩
        go_wp2
        go_ret
        exact ⟨rfl, B5.out.trans (hb.mono hsz)⟩

theorem malaw_shell (sp : Option Addr) (n cc : Nat) (D : List AskD) (w : World) (hl : D.length = n) (hs : KSrc w sp D) (hok : ∀ d ∈ D, OkK w d) (hc : n ≤ cc) (hcm : cc ≤ maxLen) :
    Calls Try.prog 3 #[.slice sp n cc] w fun e w' => e = .returned (.bool true) ∧ Below w.heap.size w w' :=
  malaw_call sp n cc D w hl hs hok (by unfold maxLen at hcm; omega)
end Go.Proofs.Ytjbbbojbjholfaa
