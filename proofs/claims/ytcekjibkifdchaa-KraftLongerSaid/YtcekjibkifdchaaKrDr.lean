/- The reference's Different. -/
import Derived.Test.YtcekjibkifdchaaKrD
set_option linter.unusedVariables false
set_option linter.unusedSimpArgs false
namespace Go.Proofs.Ytcekjibkifdchaa
open Go.RowKit

theorem dst_old (q : List (List Int)) (i k : Nat) (hi : i < q.length) (hk : k < i) (e : q.getD k [] = q.getD i []) : (dst (q.take (i + 1))).length = (dst (q.take i)).length := by
  rw [dst_step q i hi]
  have : q.getD i [] ∈ dst (q.take i) := by
    rw [mem_dst, ← e, List.getD_eq_getElem?_getD, List.getElem?_eq_getElem (by omega), Option.getD_some]
    have h2 : k < (q.take i).length := by rw [List.length_take]; omega
    have h3 : (q.take i)[k] = q[k] := List.getElem_take
    exact h3 ▸ List.getElem_mem h2
  unfold addK
  rw [if_pos this]
theorem dst_fresh (q : List (List Int)) (i : Nat) (hi : i < q.length) (h : ∀ j, j < i → q.getD j [] ≠ q.getD i []) : (dst (q.take (i + 1))).length = (dst (q.take i)).length + 1 := by
  rw [dst_step q i hi]
  have : ¬ q.getD i [] ∈ dst (q.take i) := by
    rw [mem_dst]
    intro hm
    obtain ⟨j, hj, e⟩ := List.getElem_of_mem hm
    have hj2 : j < i := by rw [List.length_take] at hj; omega
    apply h j hj2
    rw [List.getD_eq_getElem?_getD, List.getElem?_eq_getElem (by omega), Option.getD_some, ← e]
    exact List.getElem_take.symm
  unfold addK
  rw [if_neg this, List.length_append]
  rfl

set_option maxRecDepth 100000 in
set_option maxHeartbeats 2000000 in
theorem rdiff_call (sp : Option Addr) (n c : Nat) (q : List (List Int)) (w : World) (hl : q.length = n) (hs : LSrc w sp q) (hm : n ≤ 1000000) :
    Calls Try.prog 19 #[.slice sp n c] w fun e w' => e = .returned (.int .i64 (dst q).length) ∧ Below w.heap.size w w' := by
  have HS := Lib.hid hs
  have HL := Lib.hid hl
  clear hs hl
  go_enter Try.func19, Try.ntmps19
  go_wp2_with fail
  go_loopw [3, 4] (fun v3 v4 wr => ∃ i : Nat, i ≤ n ∧ v4 = .int .i64 i ∧ v3 = .int .i64 (dst (q.take i)).length ∧ Below w.heap.size w wr) (fun _ v4 _ => n - (intOf v4).toNat)
  case atStart => exact ⟨0, by omega, rfl, rfl, Below.refl _ _⟩
  case round =>
    obtain ⟨i, hi, rfl, rfl, hb⟩ := hrel
    have HB := Lib.hid hb
    clear hb
    by_cases hlt : i < n
    · have HO := Lib.hid (fun k => dst_old q i k (by rw [HL.out]; exact hlt))
      have HF := Lib.hid (dst_fresh q i (by rw [HL.out]; exact hlt))
      have hle := dst_le (q.take i)
      rw [List.length_take] at hle
      generalize (dst (q.take i)).length = M at hle HO HF ⊢
      go_upto_region 6 with fail
      go_loopw [5] (fun v5 wy => ∃ k : Nat, k ≤ i ∧ v5 = .int .i64 k ∧ (∀ j, j < k → q.getD j [] ≠ q.getD i []) ∧ Below w.heap.size w wy) (fun v5 _ => i - (intOf v5).toNat)
      case atStart => exact ⟨0, by omega, rfl, fun j hj => by omega, HB.out⟩
      case round =>
        obtain ⟨k, hk, rfl, hne, hb2⟩ := hrel
        have HB2 := Lib.hid hb2
        have HNE := Lib.hid hne
        clear hb2 hne
        obtain ⟨g, o, hspe, hri, hTi⟩ := (HS.out.on HB2.out).get (i := i) (by rw [HL.out]; exact hlt)
        obtain ⟨g', o', hspe', hrk, hTk⟩ := (HS.out.on HB2.out).get (i := k) (by rw [HL.out]; omega)
        subst hspe
        injection hspe' with hspe'
        injection hspe' with e1 e2 _
        subst e1 e2
        obtain ⟨D, hD⟩ : ∃ D, D = decide (q.getD k [] = q.getD i []) := ⟨_, rfl⟩
        have heq := fun W => run_eqi_lng W hTk hTi
        rw [← hD] at heq
        have HD := Lib.hid hD
        have hkn : k < n := by omega
        generalize hqk : q.getD k [] = X at hrk hTk heq
        generalize hqi : q.getD i [] = Y at hri hTi heq
        have HQK := Lib.hid hqk
        have HQI := Lib.hid hqi
        clear hD hqk hqi
        go_upto_region 6 with fail
        -- REGION
        refine wp_region_frame (J := Js [eqv (.slice (some ⟨g, o, none⟩) n c), eqv (.int .i64 k), eqv (.pointer (some ⟨g, o + k * 258, none⟩)), eqv (.agg (lg X)), eqv (.slice (some ⟨g, o, none⟩) n c), eqv (.int .i64 i), eqv (.pointer (some ⟨g, o + i * 258, none⟩)), eqv (.agg (lg Y)), eqv (.bool (!D))]) (ds := [12, 13, 14, 15, 16, 17, 18, 19, 20]) (N := 29)
          (B := [(0, .slice (some ⟨g, o, none⟩) n c), (4, .int .i64 i), (5, .int .i64 k)]) (by kernel_rfl) (by kernel_rfl) (Js_mono ⟨eqv_mono _, eqv_mono _, eqv_mono _, eqv_mono _, eqv_mono _, eqv_mono _, eqv_mono _, eqv_mono _, eqv_mono _, trivial⟩) rfl rfl (by simp) ?_ ?_
        · refine ⟨?_, ?_, ?_, ?_, ?_, ?_, ?_, ?_, ?_, trivial⟩
          · intro a w' hb hdep K hK
            have c0 := hb.at 0 0 _ rfl
            clear hdep
            go_simp
            exact hK _ _ rfl (Below.refl _ _)
          · intro a w' hb hdep K hK
            have c5 := hb.at 2 5 _ rfl
            clear hdep
            go_simp
            exact hK _ _ rfl (Below.refl _ _)
          · intro a w' hb hdep K hK
            obtain ⟨v0, e0, j0⟩ := hdep 0 (by kernel_rfl)
            replace e0 : a.tmps[12]? = some v0 := e0
            obtain rfl : v0 = _ := j0
            obtain ⟨v1, e1, j1⟩ := hdep 1 (by kernel_rfl)
            replace e1 : a.tmps[13]? = some v1 := e1
            obtain rfl : v1 = _ := j1
            clear hdep
            go_simp
            exact hK _ _ rfl (Below.refl _ _)
          · intro a w' hb hdep K hK
            obtain ⟨v2, e2, j2⟩ := hdep 2 (by kernel_rfl)
            replace e2 : a.tmps[14]? = some v2 := e2
            obtain rfl : v2 = _ := j2
            clear hdep
            exact wp_load_mid 23 _ rfl g (o + k * 258) (by simp [Act.eval, e2]) (lg X).toList _ (fun j v hv => cell_on hb.bel (hrk j v hv)) Try.underlying23 rfl (by rw [Array.length_toList]; exact lngIk hTk) (hK (.agg (lg X)) _ rfl (Below.refl _ _))
          · intro a w' hb hdep K hK
            have c0 := hb.at 0 0 _ rfl
            clear hdep
            go_simp
            exact hK _ _ rfl (Below.refl _ _)
          · intro a w' hb hdep K hK
            have c4 := hb.at 1 4 _ rfl
            clear hdep
            go_simp
            exact hK _ _ rfl (Below.refl _ _)
          · intro a w' hb hdep K hK
            obtain ⟨v4, e4, j4⟩ := hdep 4 (by kernel_rfl)
            replace e4 : a.tmps[16]? = some v4 := e4
            obtain rfl : v4 = _ := j4
            obtain ⟨v5, e5, j5⟩ := hdep 5 (by kernel_rfl)
            replace e5 : a.tmps[17]? = some v5 := e5
            obtain rfl : v5 = _ := j5
            clear hdep
            go_simp
            exact hK _ _ rfl (Below.refl _ _)
          · intro a w' hb hdep K hK
            obtain ⟨v6, e6, j6⟩ := hdep 6 (by kernel_rfl)
            replace e6 : a.tmps[18]? = some v6 := e6
            obtain rfl : v6 = _ := j6
            clear hdep
            exact wp_load_mid 23 _ rfl g (o + i * 258) (by simp [Act.eval, e6]) (lg Y).toList _ (fun j v hv => cell_on hb.bel (hri j v hv)) Try.underlying23 rfl (by rw [Array.length_toList]; exact lngIk hTi) (hK (.agg (lg Y)) _ rfl (Below.refl _ _))
          · intro a w' hb hdep K hK
            obtain ⟨v3, e3, j3⟩ := hdep 3 (by kernel_rfl)
            replace e3 : a.tmps[15]? = some v3 := e3
            obtain rfl : v3 = _ := j3
            obtain ⟨v7, e7, j7⟩ := hdep 7 (by kernel_rfl)
            replace e7 : a.tmps[19]? = some v7 := e7
            obtain rfl : v7 = _ := j7
            clear hdep
            go_simp
            exact hK _ _ rfl (Below.refl _ _)
        intro vs w' hvl hall hb
        obtain ⟨v0, v1, v2, v3, v4, v5, v6, v7, v8, rfl⟩ : ∃ v0 v1 v2 v3 v4 v5 v6 v7 v8, vs = [v0, v1, v2, v3, v4, v5, v6, v7, v8] := by
          match vs, hvl with
          | [v0, v1, v2, v3, v4, v5, v6, v7, v8], _ => exact ⟨v0, v1, v2, v3, v4, v5, v6, v7, v8, rfl⟩
        obtain rfl : v0 = _ := hall 0 (by decide)
        obtain rfl : v1 = _ := hall 1 (by decide)
        obtain rfl : v2 = _ := hall 2 (by decide)
        obtain rfl : v3 = _ := hall 3 (by decide)
        obtain rfl : v4 = _ := hall 4 (by decide)
        obtain rfl : v5 = _ := hall 5 (by decide)
        obtain rfl : v6 = _ := hall 6 (by decide)
        obtain rfl : v7 = _ := hall 7 (by decide)
        obtain rfl : v8 = _ := hall 8 (by decide)
        simp only [putAll, List.setIfInBounds_toArray, List.set_cons_zero, List.set_cons_succ]
        -- END REGION
        cases D with
        | false =>
          have hne1 : q.getD k [] ≠ q.getD i [] := of_decide_eq_false HD.out.symm
          have hki : k < i := by
            rcases Nat.lt_or_ge k i with h1 | h1
            · exact h1
            · obtain rfl : k = i := by omega
              exact absurd rfl hne1
          have HN2 := Lib.hid (show ∀ j, j < k + 1 → q.getD j [] ≠ q.getD i [] from fun j hj => by
            rcases Nat.lt_or_ge j k with h1 | h1
            · exact HNE.out j h1
            · obtain rfl : j = k := by omega
              exact hne1)
          have HB3 := Lib.hid (HB2.out.trans (hb.mono HB2.out.size))
          clear hne1 hb
          go_wp2_with fail
          exact ⟨⟨k + 1, by omega, by go_num, HQI.out ▸ HN2.out, HB3.out⟩, by simp [intOf]; omega⟩
        | true =>
          have hee : q.getD k [] = q.getD i [] := of_decide_eq_true HD.out.symm
          have HE := Lib.hid hee
          have HB3 := Lib.hid (HB2.out.trans (hb.mono HB2.out.size))
          clear hee hb
          by_cases hki : k = i
          · have hML := HF.out (by rw [← hki]; intro j hj; rw [hki]; exact HNE.out j hj)
            have HML := Lib.hid hML
            subst hki
            clear hML
            go_wp2_with fail
            exact ⟨⟨k + 1, by omega, by go_num, by rw [HML.out]; go_num, HB3.out⟩, by simp [intOf]; omega⟩
          · have hML := HO.out k (by omega) HE.out
            have HML := Lib.hid hML
            have hd : decide (k = i) = false := decide_eq_false hki
            have hd2 : ((k : Int) == (i : Int)) = false := by simp; omega
            clear hML
            go_wp2_with fail
            exact ⟨⟨i + 1, by omega, by go_num, by rw [HML.out], HB3.out⟩, by simp [intOf]; omega⟩
    · obtain rfl : i = n := by omega
      have ht : q.take i = q := List.take_of_length_le (by rw [HL.out]; exact Nat.le_refl _)
      rw [ht]
      go_wp2_with fail
      go_ret
      exact ⟨rfl, HB.out⟩
end Go.Proofs.Ytcekjibkifdchaa
