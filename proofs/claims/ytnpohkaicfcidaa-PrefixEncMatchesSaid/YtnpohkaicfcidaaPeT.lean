/- Law PrefixEncParts out of the contracts (genps.py). -/
import Derived.Test.YtnpohkaicfcidaaPeS
import Derived.Test.YtnpohkaicfcidaaPeR
set_option linter.unusedVariables false
set_option linter.unusedSimpArgs false
namespace Go.Proofs.Ytnpohkaicfcidaa
open Go.RowKit

theorem IsU_mono (n : Nat) (q : List Int) : MonoV (IsU n q) := fun v w w' h hb => by
  obtain ⟨a, c, e, hs⟩ := h
  exact ⟨a, c, e, hs.below hb⟩
theorem wlen_at {w : World} {p : Nat} {A : Option Nat} {c n : Nat} {bs : List Int} (h : Wr w p A c bs) (hn : bs.length = n) :
    Calls Try.prog 20 #[.pointer (some ⟨p, 0, none⟩)] w fun e w' => e = .returned (.int .i64 n) ∧ w = w' := by
  subst hn
  exact wlen_call h
theorem wbytes_at {w : World} {p : Nat} {A : Option Nat} {c n : Nat} {bs P : List Int} (h : Wr w p A c bs) (hn : (bs.length + 7) / 8 = n) (hp : packB bs = P) :
    Calls Try.prog 21 #[.pointer (some ⟨p, 0, none⟩)] w fun e w' => ∃ v, e = .returned v ∧ IsU n P v w' ∧ Below w.heap.size w w' := by
  subst hn
  subst hp
  exact (wbytes_call h).mono fun e w' ⟨g, h1, _, h3, h4⟩ => ⟨_, h1, ⟨_, _, rfl, Src.whole h3⟩, h4⟩
theorem lg_whole {w : World} {g : Nat} {t : TypeId} {fr : Nat × Nat} {l : List Int} (hg : w.heap[g]? = some (.cells (lg l) t fr)) : w.rangeAt g 0 (lg l).toList := fun j v hv => by
  rw [cell_of_row w g (0 + j) _ t fr hg, Nat.zero_add]
  rw [Array.getElem?_toList] at hv
  exact hv
set_option maxRecDepth 100000 in
set_option maxHeartbeats 2000000 in
theorem parts_long (CW : WakesC) (l : List Int) (part : Int) (sp : Option Addr) (n cap : Nat) (hn : n ≤ 9223372036854775807) (h : 100 < n) (w : World) :
    Calls Try.prog 6 #[.agg (lg l), .slice sp n cap, .int .i64 part] w fun e w' => e = .returned (.bool true) ∧ Below w.heap.size w w' := by
  have hwk := fun W => CW W
  have d0 : decide ((100 : Int) < (n : Int)) = true := decide_eq_true (by omega)
  have HB := Lib.hid ((Below.refl w.heap.size w).alloc (Nat.le_refl _) (.cells (lg l) 23))
  go_enter Try.func6, Try.ntmps6
  go_upto_region 1 with fail
  generalize w.alloc (.cells (lg l) 23) = w1 at HB ⊢
  go_wp2_with (with_reducible refine (hwk _).mono ?_; rintro e z ⟨rfl, hb⟩)
  go_ret
  exact ⟨rfl, HB.out.trans (hb.mono HB.out.size)⟩

set_option maxRecDepth 100000 in
set_option maxHeartbeats 8000000 in
theorem parts_short (CS : SpellC) (CZ : SizeC) (CP : PutC) (CW : WakesC) (l : List Int) (h : Lng l) (part : Int) (hpb : -9223372036854775808 ≤ part ∧ part ≤ 9223372036854775807) (sp : Option Addr) (n cap : Nat) (q : List Int) (hq : q.length = n) (hcap : n ≤ cap) (hn : n ≤ 100) (w : World) (hs : Src w .i64 sp q) :
    Calls Try.prog 6 #[.agg (lg l), .slice sp n cap, .int .i64 part] w fun e w' => e = .returned (.bool true) ∧ Below w.heap.size w w' := by
  have HWK := Lib.hid (fun W => CW W)
  have hk : ∃ k : Nat, (if (n : Int) < (if part < 0 then 0 else part) then (n : Int) else if part < 0 then 0 else part) = (k : Int) ∧ k ≤ n := by
    refine ⟨(if (n : Int) < (if part < 0 then 0 else part) then (n : Int) else if part < 0 then 0 else part).toNat, ?_, ?_⟩
    · split
      · omega
      · split <;> omega
    · split
      · omega
      · split <;> omega
  obtain ⟨k, hk, hkm⟩ := hk
  have HK := Lib.hid hk
  have hkl : (q.take k).length = k := by rw [List.length_take]; omega
  have hdl : (q.drop k).length = n - k := by rw [List.length_drop, hq]
  have hkc : (k : Int) ≤ (cap : Int) := by omega
  obtain ⟨ad, had⟩ : ∃ ad, ad = if cap = k then sp else sp.map (·.add k) := ⟨_, rfl⟩
  have hrest := fun W => run_restI sp n cap k (by omega) (by omega) ad had W
  have hrun1 := fun W => (hrest W).1
  have hrun2 := fun W => (hrest W).2
  have HT1 := Lib.hid (fun (W : World) (hS : Src W .i64 sp q) => show Src W .i64 sp (q.take k) from by
    rcases hS with rfl | ⟨g, o, hx, hc⟩
    · left; simp
    · right
      refine ⟨g, o, hx, fun j hj => ?_⟩
      rw [List.length_take] at hj
      rw [hc j (by omega)]
      simp [List.getD_eq_getElem?_getD, List.getElem?_take, show j < k by omega])
  have HT2 := Lib.hid (fun (W : World) (hS : Src W .i64 sp q) => show Src W .i64 ad (q.drop k) from by
    rw [had]
    exact Src.rest hq hkm hcap hS)
  obtain ⟨X, hX⟩ : ∃ X, X = (spR l q).length := ⟨_, rfl⟩
  obtain ⟨Y, hY⟩ : ∃ Y, Y = (spR l (q.take k)).length := ⟨_, rfl⟩
  obtain ⟨Z, hZ⟩ : ∃ Z, Z = (spR l (q.drop k)).length := ⟨_, rfl⟩
  obtain ⟨E, hE⟩ : ∃ E, E = spE l q := ⟨_, rfl⟩
  obtain ⟨E1, hE1⟩ : ∃ E1, E1 = spE l (q.take k) := ⟨_, rfl⟩
  obtain ⟨E2, hE2⟩ : ∃ E2, E2 = spE l (q.drop k) := ⟨_, rfl⟩
  obtain ⟨nb, hnb⟩ : ∃ nb, nb = (X + 7) / 8 := ⟨_, rfl⟩
  have HSP := Lib.hid (fun (W : World) (hS : Src W .i64 sp q) => show Calls Try.prog 8 #[.agg (lg l), .slice sp n cap] W fun e w' => ∃ v, e = .returned (.tuple #[v, .int .i64 X, .int .i64 E]) ∧ IsU nb (packB (spR l q)) v w' ∧ Below W.heap.size W w' from by
    rw [hnb, hX, hE]
    exact CS l h sp n cap q hq (by omega) W hS)
  have HS1 := Lib.hid (fun (W : World) (hS : Src W .i64 sp (q.take k)) => show Calls Try.prog 10 #[.agg (lg l), .slice sp k cap] W fun e w' => e = .returned (.tuple #[.int .i64 Y, .int .i64 E1]) ∧ Below W.heap.size W w' from by
    rw [hY, hE1]
    exact CZ l h sp k cap (q.take k) hkl (by omega) W hS)
  have HS2 := Lib.hid (fun (W : World) (hS : Src W .i64 ad (q.drop k)) => show Calls Try.prog 10 #[.agg (lg l), .slice ad (n - k) (cap - k)] W fun e w' => e = .returned (.tuple #[.int .i64 Z, .int .i64 E2]) ∧ Below W.heap.size W w' from by
    rw [hZ, hE2]
    exact CZ l h ad (n - k) (cap - k) (q.drop k) hdl (by omega) W hS)
  have hX15 : X ≤ 1500 := by rw [hX]; have := spR_len (q := q) h; omega
  have hY15 : Y ≤ 1500 := by rw [hY]; have := spR_len (q := q.take k) h; omega
  have hZ15 : Z ≤ 1500 := by rw [hZ]; have := spR_len (q := q.drop k) h; omega
  have HS := Lib.hid hs
  have HEQ := Lib.hid (show X = (spR l q).length ∧ Y = (spR l (q.take k)).length ∧ Z = (spR l (q.drop k)).length ∧ E = spE l q ∧ E1 = spE l (q.take k) ∧ E2 = spE l (q.drop k) ∧ nb = (X + 7) / 8 from ⟨hX, hY, hZ, hE, hE1, hE2, hnb⟩)
  have d0 : decide ((100 : Int) < (n : Int)) = false := decide_eq_false (by omega)
  have d0n : decide (100 < n) = false := decide_eq_false (by omega)
  have hg := heap_alloc_last w (.cells (lg l) 23)
  have HB := Lib.hid ((Below.refl w.heap.size w).alloc (Nat.le_refl _) (.cells (lg l) 23))
  have HP1 := Lib.hid (fun (wb : World) (hS : Src wb .i64 sp (q.take k)) (W : World) (p : Nat) (A : Option Nat) (c : Nat) (bs : List Int) (hB : Below wb.heap.size wb W) (hfp : ∀ k, Fp p A k → wb.heap.size ≤ k) (hw : Wr W p A c bs) (hbs : bs.length ≤ 200000) => by
    have h1 := put_on CP l h sp k cap (q.take k) hkl (by omega) wb hS W p A c bs hB hfp hw hbs
    rw [← hE1] at h1
    exact h1)
  have HP2 := Lib.hid (fun (wb : World) (hS : Src wb .i64 ad (q.drop k)) (W : World) (p : Nat) (A : Option Nat) (c : Nat) (bs : List Int) (hB : Below wb.heap.size wb W) (hfp : ∀ k, Fp p A k → wb.heap.size ≤ k) (hw : Wr W p A c bs) (hbs : bs.length ≤ 200000) => by
    have h1 := put_on CP l h ad (n - k) (cap - k) (q.drop k) hdl (by omega) wb hS W p A c bs hB hfp hw hbs
    rw [← hE2] at h1
    exact h1)
  clear hs hq hk hX hY hZ hE hE1 hE2 hnb hkl hdl had hrest CS CZ CP
  go_enter Try.func6, Try.ntmps6
  go_upto_region 1 with fail
  generalize w.alloc (.cells (lg l) 23) = w1 at hg HB ⊢
  have hs1 := HS.out.below HB.out
  go_upto_region 4 with fail
  rw [HK.out]
  generalize (if part < 0 then (0 : Int) else part) = mx
  go_upto_region 5 with (first
    | (refine wpList_load_row rfl 23 _ rfl w.heap.size rfl 23 (lg l) (0, 0) _ hg Try.underlying23 rfl (lngIk h) ?_)
    | (with_reducible refine (HSP.out _ hs1).mono ?_
       rintro e w2 ⟨v, rfl, ⟨a2, c2, rfl, hu⟩, hb2⟩))
  replace HB := Lib.hid (HB.out.trans (hb2.mono HB.out.size))
  have HG := Lib.hid (heap_on hb2 hg)
  have HU := Lib.hid hu
  clear hu hb2 hg hs1 HK HSP d0 d0n hpb
  refine wp_region_frame (J := Js [eqv (.agg (lg l)), eqv (.slice sp n cap), eqv (.int .i64 k), eqv (.slice sp k cap), eqv (.tuple #[.int .i64 Y, .int .i64 E1]), eqv (.tuple #[.int .i64 Y, .int .i64 E1]), eqv (.int .i64 Y), eqv (.int .i64 E1), eqv (.int .i64 Y), eqv (.int .i64 E1)]) (ds := [34, 35, 36, 37, 38, 33, 39, 40, 10, 11]) (N := 117)
    (B := [(1, .slice sp n cap), (2, .int .i64 k), (3, .pointer (some ⟨w.heap.size, 0, none⟩))]) (by kernel_rfl) (by kernel_rfl) (Js_mono ⟨eqv_mono _, eqv_mono _, eqv_mono _, eqv_mono _, eqv_mono _, eqv_mono _, eqv_mono _, eqv_mono _, eqv_mono _, eqv_mono _, trivial⟩) rfl rfl (by simp) ?_ ?_
  · refine ⟨?_, ?_, ?_, ?_, ?_, ?_, ?_, ?_, ?_, ?_, trivial⟩
    · intro a w' hb hdep K hK
      have c3 := hb.at 2 3 _ rfl
      clear hdep
      exact wp_load_row 23 _ rfl w.heap.size (by simp [Act.eval, c3]) 23 (lg l) (0, 0) _ (heap_on hb.bel HG.out) Try.underlying23 rfl (lngIk h) (hK _ _ rfl (Below.refl _ _))
    · intro a w' hb hdep K hK
      have c1 := hb.at 0 1 _ rfl
      clear hdep
      go_simp
      exact hK _ _ rfl (Below.refl _ _)
    · intro a w' hb hdep K hK
      have c2 := hb.at 1 2 _ rfl
      clear hdep
      go_simp
      exact hK _ _ rfl (Below.refl _ _)
    · intro a w' hb hdep K hK
      obtain ⟨v1, e1, j1⟩ := hdep 1 (by kernel_rfl)
      replace e1 : a.tmps[35]? = some v1 := e1
      obtain rfl : v1 = _ := j1
      obtain ⟨v2, e2, j2⟩ := hdep 2 (by kernel_rfl)
      replace e2 : a.tmps[36]? = some v2 := e2
      obtain rfl : v2 = _ := j2
      clear hdep
      go_simp
      exact hK _ _ rfl (Below.refl _ _)
    · intro a w' hb hdep K hK
      obtain ⟨v0, e0, j0⟩ := hdep 0 (by kernel_rfl)
      replace e0 : a.tmps[34]? = some v0 := e0
      obtain rfl : v0 = _ := j0
      obtain ⟨v3, e3, j3⟩ := hdep 3 (by kernel_rfl)
      replace e3 : a.tmps[37]? = some v3 := e3
      obtain rfl : v3 = _ := j3
      clear hdep
      go_simp
      go_at_call 10
      refine (HS1.out w' (HT1.out w' (HS.out.below (HB.out.trans (hb.bel.mono HB.out.size))))).mono ?_
      rintro e w20 ⟨rfl, hb20⟩
      exact hK _ _ rfl hb20
    · intro a w' hb hdep K hK
      obtain ⟨v4, e4, j4⟩ := hdep 4 (by kernel_rfl)
      replace e4 : a.tmps[38]? = some v4 := e4
      obtain rfl : v4 = _ := j4
      clear hdep
      go_simp
      exact hK _ _ rfl (Below.refl _ _)
    · intro a w' hb hdep K hK
      obtain ⟨v5, e5, j5⟩ := hdep 5 (by kernel_rfl)
      replace e5 : a.tmps[33]? = some v5 := e5
      obtain rfl : v5 = _ := j5
      clear hdep
      go_simp
      exact hK _ _ rfl (Below.refl _ _)
    · intro a w' hb hdep K hK
      obtain ⟨v5, e5, j5⟩ := hdep 5 (by kernel_rfl)
      replace e5 : a.tmps[33]? = some v5 := e5
      obtain rfl : v5 = _ := j5
      clear hdep
      go_simp
      exact hK _ _ rfl (Below.refl _ _)
    · intro a w' hb hdep K hK
      obtain ⟨v6, e6, j6⟩ := hdep 6 (by kernel_rfl)
      replace e6 : a.tmps[39]? = some v6 := e6
      obtain rfl : v6 = _ := j6
      clear hdep
      go_simp
      exact hK _ _ rfl (Below.refl _ _)
    · intro a w' hb hdep K hK
      obtain ⟨v7, e7, j7⟩ := hdep 7 (by kernel_rfl)
      replace e7 : a.tmps[40]? = some v7 := e7
      obtain rfl : v7 = _ := j7
      clear hdep
      go_simp
      exact hK _ _ rfl (Below.refl _ _)
  · intro vs w' hvl hall hb
    match vs, hvl with
    | [v0, v1, v2, v3, v4, v5, v6, v7, v8, v9], _ =>
      obtain rfl : v0 = _ := hall 0 (by decide)
      obtain rfl : v1 = _ := hall 1 (by decide)
      obtain rfl : v2 = _ := hall 2 (by decide)
      obtain rfl : v3 = _ := hall 3 (by decide)
      obtain rfl : v4 = _ := hall 4 (by decide)
      obtain rfl : v5 = _ := hall 5 (by decide)
      obtain rfl : v6 = _ := hall 6 (by decide)
      obtain rfl : v7 = _ := hall 7 (by decide)
      obtain rfl : v8 = _ := hall 8 (by decide)
      obtain rfl : v9 = _ := hall 9 (by decide)
      simp only [putAll, List.setIfInBounds_toArray, List.set_cons_zero, List.set_cons_succ]
      replace HB := Lib.hid (HB.out.trans (hb.mono HB.out.size))
      replace HG := Lib.hid (heap_on hb HG.out)
      replace HU := Lib.hid (HU.out.below hb)
      clear hb hvl hall HS1
      go_upto_region 6 with fail
      refine wp_region_frame (J := Js [eqv (.agg (lg l)), eqv (.slice sp n cap), eqv (.int .i64 k), eqv (.slice ad (n - k) (cap - k)), eqv (.tuple #[.int .i64 Z, .int .i64 E2]), eqv (.tuple #[.int .i64 Z, .int .i64 E2]), eqv (.int .i64 Z), eqv (.int .i64 E2), eqv (.int .i64 Z), eqv (.int .i64 E2)]) (ds := [42, 43, 44, 45, 46, 41, 47, 48, 12, 13]) (N := 117)
        (B := [(1, .slice sp n cap), (2, .int .i64 k), (3, .pointer (some ⟨w.heap.size, 0, none⟩))]) (by kernel_rfl) (by kernel_rfl) (Js_mono ⟨eqv_mono _, eqv_mono _, eqv_mono _, eqv_mono _, eqv_mono _, eqv_mono _, eqv_mono _, eqv_mono _, eqv_mono _, eqv_mono _, trivial⟩) rfl rfl (by simp) ?_ ?_
      · refine ⟨?_, ?_, ?_, ?_, ?_, ?_, ?_, ?_, ?_, ?_, trivial⟩
        · intro a w' hb hdep K hK
          have c3 := hb.at 2 3 _ rfl
          clear hdep
          exact wp_load_row 23 _ rfl w.heap.size (by simp [Act.eval, c3]) 23 (lg l) (0, 0) _ (heap_on hb.bel HG.out) Try.underlying23 rfl (lngIk h) (hK _ _ rfl (Below.refl _ _))
        · intro a w' hb hdep K hK
          have c1 := hb.at 0 1 _ rfl
          clear hdep
          go_simp
          exact hK _ _ rfl (Below.refl _ _)
        · intro a w' hb hdep K hK
          have c2 := hb.at 1 2 _ rfl
          clear hdep
          go_simp
          exact hK _ _ rfl (Below.refl _ _)
        · intro a w' hb hdep K hK
          obtain ⟨v1, e1, j1⟩ := hdep 1 (by kernel_rfl)
          replace e1 : a.tmps[43]? = some v1 := e1
          obtain rfl : v1 = _ := j1
          obtain ⟨v2, e2, j2⟩ := hdep 2 (by kernel_rfl)
          replace e2 : a.tmps[44]? = some v2 := e2
          obtain rfl : v2 = _ := j2
          clear hdep
          go_simp
          exact hK _ _ rfl (Below.refl _ _)
        · intro a w' hb hdep K hK
          obtain ⟨v0, e0, j0⟩ := hdep 0 (by kernel_rfl)
          replace e0 : a.tmps[42]? = some v0 := e0
          obtain rfl : v0 = _ := j0
          obtain ⟨v3, e3, j3⟩ := hdep 3 (by kernel_rfl)
          replace e3 : a.tmps[45]? = some v3 := e3
          obtain rfl : v3 = _ := j3
          clear hdep
          go_simp
          go_at_call 10
          refine (HS2.out w' (HT2.out w' (HS.out.below (HB.out.trans (hb.bel.mono HB.out.size))))).mono ?_
          rintro e w20 ⟨rfl, hb20⟩
          exact hK _ _ rfl hb20
        · intro a w' hb hdep K hK
          obtain ⟨v4, e4, j4⟩ := hdep 4 (by kernel_rfl)
          replace e4 : a.tmps[46]? = some v4 := e4
          obtain rfl : v4 = _ := j4
          clear hdep
          go_simp
          exact hK _ _ rfl (Below.refl _ _)
        · intro a w' hb hdep K hK
          obtain ⟨v5, e5, j5⟩ := hdep 5 (by kernel_rfl)
          replace e5 : a.tmps[41]? = some v5 := e5
          obtain rfl : v5 = _ := j5
          clear hdep
          go_simp
          exact hK _ _ rfl (Below.refl _ _)
        · intro a w' hb hdep K hK
          obtain ⟨v5, e5, j5⟩ := hdep 5 (by kernel_rfl)
          replace e5 : a.tmps[41]? = some v5 := e5
          obtain rfl : v5 = _ := j5
          clear hdep
          go_simp
          exact hK _ _ rfl (Below.refl _ _)
        · intro a w' hb hdep K hK
          obtain ⟨v6, e6, j6⟩ := hdep 6 (by kernel_rfl)
          replace e6 : a.tmps[47]? = some v6 := e6
          obtain rfl : v6 = _ := j6
          clear hdep
          go_simp
          exact hK _ _ rfl (Below.refl _ _)
        · intro a w' hb hdep K hK
          obtain ⟨v7, e7, j7⟩ := hdep 7 (by kernel_rfl)
          replace e7 : a.tmps[48]? = some v7 := e7
          obtain rfl : v7 = _ := j7
          clear hdep
          go_simp
          exact hK _ _ rfl (Below.refl _ _)
      · intro vs w' hvl hall hb
        match vs, hvl with
        | [v0, v1, v2, v3, v4, v5, v6, v7, v8, v9], _ =>
          obtain rfl : v0 = _ := hall 0 (by decide)
          obtain rfl : v1 = _ := hall 1 (by decide)
          obtain rfl : v2 = _ := hall 2 (by decide)
          obtain rfl : v3 = _ := hall 3 (by decide)
          obtain rfl : v4 = _ := hall 4 (by decide)
          obtain rfl : v5 = _ := hall 5 (by decide)
          obtain rfl : v6 = _ := hall 6 (by decide)
          obtain rfl : v7 = _ := hall 7 (by decide)
          obtain rfl : v8 = _ := hall 8 (by decide)
          obtain rfl : v9 = _ := hall 9 (by decide)
          simp only [putAll, List.setIfInBounds_toArray, List.set_cons_zero, List.set_cons_succ]
          replace HB := Lib.hid (HB.out.trans (hb.mono HB.out.size))
          replace HG := Lib.hid (heap_on hb HG.out)
          replace HU := Lib.hid (HU.out.below hb)
          clear hb hvl hall HS2
          go_upto_region 10 with (with_reducible refine (wnew_call _).mono ?_; rintro e w8 ⟨rfl, hw8, hb8⟩)
          have HG8 := Lib.hid (heap_on hb8 HG.out)
          have HW8 := Lib.hid hw8
          have HB8 := Lib.hid hb8
          have HSB := Lib.hid (HS.out.below HB.out)
          clear hw8 hb8
          refine wp_region_noPanic ?_
          refine wp_region_held_drew (S := fun W => W.heap[w.heap.size]? = some (.cells (lg l) 23 (0, 0))) (by kernel_rfl) HG8.out (fun hHeld => ?_)
          refine wpAnyH_take (i := 0) (v := ?_) rfl (by kernel_rfl) (by kernel_rfl) (by kernel_rfl) (fun _ _ _ h => h) (Or.inl ⟨by rfl, ?_⟩) (by assumption) ?_
          rotate_left
          · (intro W hSw; go_simp) <;> with_reducible rfl
          try simp only [Act.put, List.getElem_toArray, List.getElem_cons_succ, List.getElem_cons_zero, List.setIfInBounds_toArray, List.set_cons_zero, List.set_cons_succ]
          refine wpAnyH_take (i := 1) (v := .agg (lg l)) rfl (by kernel_rfl) (by kernel_rfl) (by kernel_rfl) (fun _ _ _ h => h) (yieldsIf_load_mid rfl 23 _ rfl w.heap.size 0 rfl ((lg l).toList) _ (fun W hW => lg_whole hW) Try.underlying23 rfl (by rw [Array.length_toList]; exact lngIk h)) (by assumption) ?_
          try simp only [Act.put, List.getElem_toArray, List.getElem_cons_succ, List.getElem_cons_zero, List.setIfInBounds_toArray, List.set_cons_zero, List.set_cons_succ]
          refine wpAnyH_take (i := 2) (v := ?_) rfl (by kernel_rfl) (by kernel_rfl) (by kernel_rfl) (fun _ _ _ h => h) (Or.inl ⟨by rfl, ?_⟩) (by assumption) ?_
          rotate_left
          · (intro W hSw; go_simp) <;> with_reducible rfl
          try simp only [Act.put, List.getElem_toArray, List.getElem_cons_succ, List.getElem_cons_zero, List.setIfInBounds_toArray, List.set_cons_zero, List.set_cons_succ]
          refine wpAnyH_take (i := 3) (v := ?_) rfl (by kernel_rfl) (by kernel_rfl) (by kernel_rfl) (fun _ _ _ h => h) (Or.inl ⟨by rfl, ?_⟩) (by assumption) ?_
          rotate_left
          · (intro W hSw; go_simp) <;> with_reducible rfl
          try simp only [Act.put, List.getElem_toArray, List.getElem_cons_succ, List.getElem_cons_zero, List.setIfInBounds_toArray, List.set_cons_zero, List.set_cons_succ]
          refine wpAnyH_take (i := 4) (v := ?_) rfl (by kernel_rfl) (by kernel_rfl) (by kernel_rfl) (fun _ _ _ h => h) (Or.inl ⟨by rfl, ?_⟩) (by assumption) ?_
          rotate_left
          · (intro W hSw; go_simp) <;> with_reducible rfl
          try simp only [Act.put, List.getElem_toArray, List.getElem_cons_succ, List.getElem_cons_zero, List.setIfInBounds_toArray, List.set_cons_zero, List.set_cons_succ]
          refine wpAnyH_ready (rs := [5]) (by kernel_rfl) (by simp) ?_
          refine AllReadyH.cons (o := _) rfl (fun K hK => ?_) (AllReadyH.nil)
          go_simp
          go_at_call 18
          refine (HP1.out w' (HT1.out w' HSB.out) _ w'.heap.size none 0 [] HB8.out.drew (fun k e => by rcases e with e | e; omega; cases e) HW8.out.drew (by simp)).mono ?_
          rintro e w9 ⟨rfl, A9, c9, hw9, hf9, hb9⟩
          refine hK.out _ _ (heap_on hb9 HG.out) (fun hHeldN => ?_)
          clear K hK hHeld
          have hHeld := hHeldN
          clear hHeldN
          try simp only [Act.put, List.getElem_toArray, List.getElem_cons_succ, List.getElem_cons_zero, List.setIfInBounds_toArray, List.set_cons_zero, List.set_cons_succ]
          refine wpAnyH_take (i := 6) (v := ?_) rfl (by kernel_rfl) (by kernel_rfl) (by kernel_rfl) (fun _ _ _ h => h) (Or.inl ⟨by rfl, ?_⟩) (by assumption) ?_
          rotate_left
          · (intro W hSw; go_simp) <;> with_reducible rfl
          try simp only [Act.put, List.getElem_toArray, List.getElem_cons_succ, List.getElem_cons_zero, List.setIfInBounds_toArray, List.set_cons_zero, List.set_cons_succ]
          refine wpAnyH_done (by kernel_rfl) ?_ _
          refine NoPanic.normal ?_
          have HW9 := Lib.hid hw9
          have HF9 := Lib.hid hf9
          have HB9 := Lib.hid hb9
          have HG9 := Lib.hid hHeld
          clear hw9 hf9 hb9 hHeld HW8 HB8 HG8 HP1
          go_upto_region 11 with fail
          refine wp_region_noPanic ?_
          refine wp_region_held_drew (S := fun W => W.heap[w.heap.size]? = some (.cells (lg l) 23 (0, 0))) (by kernel_rfl) HG9.out (fun hHeld => ?_)
          refine wpAnyH_take (i := 0) (v := ?_) rfl (by kernel_rfl) (by kernel_rfl) (by kernel_rfl) (fun _ _ _ h => h) (Or.inl ⟨by rfl, ?_⟩) (by assumption) ?_
          rotate_left
          · (intro W hSw; go_simp) <;> with_reducible rfl
          try simp only [Act.put, List.getElem_toArray, List.getElem_cons_succ, List.getElem_cons_zero, List.setIfInBounds_toArray, List.set_cons_zero, List.set_cons_succ]
          refine wpAnyH_take (i := 1) (v := .agg (lg l)) rfl (by kernel_rfl) (by kernel_rfl) (by kernel_rfl) (fun _ _ _ h => h) (yieldsIf_load_mid rfl 23 _ rfl w.heap.size 0 rfl ((lg l).toList) _ (fun W hW => lg_whole hW) Try.underlying23 rfl (by rw [Array.length_toList]; exact lngIk h)) (by assumption) ?_
          try simp only [Act.put, List.getElem_toArray, List.getElem_cons_succ, List.getElem_cons_zero, List.setIfInBounds_toArray, List.set_cons_zero, List.set_cons_succ]
          refine wpAnyH_take (i := 2) (v := ?_) rfl (by kernel_rfl) (by kernel_rfl) (by kernel_rfl) (fun _ _ _ h => h) (Or.inl ⟨by rfl, ?_⟩) (by assumption) ?_
          rotate_left
          · (intro W hSw; go_simp) <;> with_reducible rfl
          try simp only [Act.put, List.getElem_toArray, List.getElem_cons_succ, List.getElem_cons_zero, List.setIfInBounds_toArray, List.set_cons_zero, List.set_cons_succ]
          refine wpAnyH_take (i := 3) (v := ?_) rfl (by kernel_rfl) (by kernel_rfl) (by kernel_rfl) (fun _ _ _ h => h) (Or.inl ⟨by rfl, ?_⟩) (by assumption) ?_
          rotate_left
          · (intro W hSw; go_simp) <;> with_reducible rfl
          try simp only [Act.put, List.getElem_toArray, List.getElem_cons_succ, List.getElem_cons_zero, List.setIfInBounds_toArray, List.set_cons_zero, List.set_cons_succ]
          refine wpAnyH_take (i := 4) (v := ?_) rfl (by kernel_rfl) (by kernel_rfl) (by kernel_rfl) (fun _ _ _ h => h) (Or.inl ⟨by rfl, ?_⟩) (by assumption) ?_
          rotate_left
          · (intro W hSw; go_simp) <;> with_reducible rfl
          try simp only [Act.put, List.getElem_toArray, List.getElem_cons_succ, List.getElem_cons_zero, List.setIfInBounds_toArray, List.set_cons_zero, List.set_cons_succ]
          refine wpAnyH_ready (rs := [5]) (by kernel_rfl) (by simp) ?_
          refine AllReadyH.cons (o := _) rfl (fun K hK => ?_) (AllReadyH.nil)
          go_simp
          go_at_call 18
          refine (HP2.out w' (HT2.out w' HSB.out) _ w'.heap.size A9 c9 _ HB9.out.drew HF9.out HW9.out.drew (by rw [List.nil_append, ← HEQ.out.2.1]; omega)).mono ?_
          rintro e w10 ⟨rfl, A10, c10, hw10, hf10, hb10⟩
          refine hK.out _ _ (heap_on hb10 HG.out) (fun hHeldN => ?_)
          clear K hK hHeld
          have hHeld := hHeldN
          clear hHeldN
          try simp only [Act.put, List.getElem_toArray, List.getElem_cons_succ, List.getElem_cons_zero, List.setIfInBounds_toArray, List.set_cons_zero, List.set_cons_succ]
          refine wpAnyH_take (i := 6) (v := ?_) rfl (by kernel_rfl) (by kernel_rfl) (by kernel_rfl) (fun _ _ _ h => h) (Or.inl ⟨by rfl, ?_⟩) (by assumption) ?_
          rotate_left
          · (intro W hSw; go_simp) <;> with_reducible rfl
          try simp only [Act.put, List.getElem_toArray, List.getElem_cons_succ, List.getElem_cons_zero, List.setIfInBounds_toArray, List.set_cons_zero, List.set_cons_succ]
          refine wpAnyH_done (by kernel_rfl) ?_ _
          refine NoPanic.normal ?_
          have HW10 := Lib.hid hw10
          have HG10 := Lib.hid hHeld
          have HU10 := Lib.hid (HU.out.below hb10)
          have HB10 := Lib.hid (HB.out.trans (hb10.mono HB.out.size))
          clear hw10 hf10 hb10 hHeld HW9 HB9 HG9 HF9 HP2 HSB HU HB HG hrun1 hrun2 hkc HT1 HT2 HS
          obtain ⟨p, hp⟩ : ∃ p, w'.heap.size = p := ⟨_, rfl⟩
          rw [hp] at HW10 ⊢
          clear hp
          obtain ⟨e1, e2, e3, e4, e5, e6, e7⟩ := HEQ.out
          clear HEQ
          cases hc : canV l q with
          | true =>
            have hsp := spR_split k hc
            have hk2 := hc
            rw [canV_split l q k, Bool.and_eq_true] at hk2
            have hXYZ : X = Y + Z := by rw [e1, hsp, List.length_append, e2, e3]
            obtain rfl : E = 0 := by rw [e4, (spR_yes hc).2]
            obtain rfl : E1 = 0 := by rw [e5, (spR_yes hk2.1).2]
            obtain rfl : E2 = 0 := by rw [e6, (spR_yes hk2.2).2]
            rw [List.nil_append, ← hsp] at HW10
            have HX := Lib.hid e1.symm
            have HNB := Lib.hid e7.symm
            have HV := Lib.hid (fun W => rvalid_call l h W)
            rw [decide_eq_true ((canV_iff l q).1 hc).1] at HV
            have hyz : IntKind.i64.wrap ((Y : Int) + (Z : Int)) = (X : Int) := by rw [IntKind.wrap_i64]; omega
            have HYZ := Lib.hid hyz
            have HPL := Lib.hid (show (packB (spR l q)).length = nb by rw [packB_length, ← e1, e7])
            clear e1 e2 e3 e4 e5 e6 e7 hsp hk2 hc hXYZ hyz
            generalize hPB : packB (spR l q) = PB at HU10 HPL
            have HPB := Lib.hid hPB
            clear hPB
            generalize spR l q = x at HW10 HX HPB
            go_upto_region 14 with fail
            refine wp_region_inv (J := Js [eqv (.int .i64 0), eqv (.bool false), eqv (.bool false), eqv (.int .i64 X), eqv (.int .i64 Y), eqv (.int .i64 Z), eqv (.int .i64 X), eqv (.bool true), eqv (.bool true), eqv (.pointer (some ⟨p, 0, none⟩)), eqv (.int .i64 X), eqv (.int .i64 X), eqv (.bool true), eqv (.bool true), eqv (.bool true), eqv (.pointer (some ⟨p, 0, none⟩)), IsU nb PB, eqv (.string (bstr PB)), eqv (.slice a2 nb c2), eqv (.string (bstr PB)), eqv (.bool true), eqv (.bool true), eqv (.bool true), eqv (.bool true), eqv (.agg (lg l)), eqv (.bool true), eqv (.bool true), eqv undef, eqv undef, eqv (.bool true), eqv (.bool true), eqv (.bool true), eqv (.bool true), eqv (.bool true), eqv (.bool true)]) (ds := [83, 84, 85, 86, 87, 88, 89, 90, 91, 92, 93, 94, 95, 96, 97, 98, 99, 100, 101, 102, 103, 104, 105, 106, 107, 108, 109, 110, 111, 112, 113, 114, 115, 116, 6]) (N := 117)
              (B := [(3, .pointer (some ⟨w.heap.size, 0, none⟩)), (7, .slice a2 nb c2), (8, .int .i64 X), (9, .int .i64 0), (10, .int .i64 Y), (12, .int .i64 Z), (14, .pointer (some ⟨p, 0, none⟩))]) (by kernel_rfl) (by kernel_rfl) (Js_mono ⟨eqv_mono _, eqv_mono _, eqv_mono _, eqv_mono _, eqv_mono _, eqv_mono _, eqv_mono _, eqv_mono _, eqv_mono _, eqv_mono _, eqv_mono _, eqv_mono _, eqv_mono _, eqv_mono _, eqv_mono _, eqv_mono _, IsU_mono _ _, eqv_mono _, eqv_mono _, eqv_mono _, eqv_mono _, eqv_mono _, eqv_mono _, eqv_mono _, eqv_mono _, eqv_mono _, eqv_mono _, eqv_mono _, eqv_mono _, eqv_mono _, eqv_mono _, eqv_mono _, eqv_mono _, eqv_mono _, eqv_mono _, trivial⟩) rfl rfl (by simp) ?_ ?_
            · refine ⟨?_, ?_, ?_, ?_, ?_, ?_, ?_, ?_, ?_, ?_, ?_, ?_, ?_, ?_, ?_, ?_, ?_, ?_, ?_, ?_, ?_, ?_, ?_, ?_, ?_, ?_, ?_, ?_, ?_, ?_, ?_, ?_, ?_, ?_, ?_, trivial⟩
              · intro a w' hb hdep K hK
                have c9 := hb.at 3 9 _ rfl
                clear hdep
                go_simp
                exact hK _ _ rfl (Below.refl _ _)
              · intro a w' hb hdep K hK
                obtain ⟨v0, e0, j0⟩ := hdep 0 (by kernel_rfl)
                replace e0 : a.tmps[83]? = some v0 := e0
                obtain rfl : v0 = _ := j0
                clear hdep
                go_simp
                exact hK _ _ rfl (Below.refl _ _)
              · intro a w' hb hdep K hK
                obtain ⟨v1, e1, j1⟩ := hdep 1 (by kernel_rfl)
                replace e1 : a.tmps[84]? = some v1 := e1
                obtain rfl : v1 = _ := j1
                clear hdep
                go_simp
                exact hK _ _ rfl (Below.refl _ _)
              · intro a w' hb hdep K hK
                have c8 := hb.at 2 8 _ rfl
                obtain ⟨v2, e2, j2⟩ := hdep 2 (by kernel_rfl)
                replace e2 : a.tmps[85]? = some v2 := e2
                obtain rfl : v2 = _ := j2
                clear hdep
                go_simp
                exact hK _ _ rfl (Below.refl _ _)
              · intro a w' hb hdep K hK
                have c10 := hb.at 4 10 _ rfl
                obtain ⟨v2, e2, j2⟩ := hdep 2 (by kernel_rfl)
                replace e2 : a.tmps[85]? = some v2 := e2
                obtain rfl : v2 = _ := j2
                clear hdep
                go_simp
                exact hK _ _ rfl (Below.refl _ _)
              · intro a w' hb hdep K hK
                have c12 := hb.at 5 12 _ rfl
                obtain ⟨v2, e2, j2⟩ := hdep 2 (by kernel_rfl)
                replace e2 : a.tmps[85]? = some v2 := e2
                obtain rfl : v2 = _ := j2
                clear hdep
                go_simp
                exact hK _ _ rfl (Below.refl _ _)
              · intro a w' hb hdep K hK
                obtain ⟨v4, e4, j4⟩ := hdep 4 (by kernel_rfl)
                replace e4 : a.tmps[87]? = some v4 := e4
                obtain rfl : v4 = _ := j4
                obtain ⟨v5, e5, j5⟩ := hdep 5 (by kernel_rfl)
                replace e5 : a.tmps[88]? = some v5 := e5
                obtain rfl : v5 = _ := j5
                obtain ⟨v2, e2, j2⟩ := hdep 2 (by kernel_rfl)
                replace e2 : a.tmps[85]? = some v2 := e2
                obtain rfl : v2 = _ := j2
                have hyz := HYZ.out
                clear hdep
                go_simp
                exact hK _ _ rfl (Below.refl _ _)
              · intro a w' hb hdep K hK
                obtain ⟨v3, e3, j3⟩ := hdep 3 (by kernel_rfl)
                replace e3 : a.tmps[86]? = some v3 := e3
                obtain rfl : v3 = _ := j3
                obtain ⟨v6, e6, j6⟩ := hdep 6 (by kernel_rfl)
                replace e6 : a.tmps[89]? = some v6 := e6
                obtain rfl : v6 = _ := j6
                obtain ⟨v2, e2, j2⟩ := hdep 2 (by kernel_rfl)
                replace e2 : a.tmps[85]? = some v2 := e2
                obtain rfl : v2 = _ := j2
                clear hdep
                go_simp
                exact hK _ _ rfl (Below.refl _ _)
              · intro a w' hb hdep K hK
                obtain ⟨v7, e7, j7⟩ := hdep 7 (by kernel_rfl)
                replace e7 : a.tmps[90]? = some v7 := e7
                obtain rfl : v7 = _ := j7
                obtain ⟨v2, e2, j2⟩ := hdep 2 (by kernel_rfl)
                replace e2 : a.tmps[85]? = some v2 := e2
                obtain rfl : v2 = _ := j2
                clear hdep
                go_simp
                exact hK _ _ rfl (Below.refl _ _)
              · intro a w' hb hdep K hK
                have c14 := hb.at 6 14 _ rfl
                obtain ⟨v8, e8, j8⟩ := hdep 8 (by kernel_rfl)
                replace e8 : a.tmps[91]? = some v8 := e8
                obtain rfl : v8 = _ := j8
                clear hdep
                go_simp
                exact hK _ _ rfl (Below.refl _ _)
              · intro a w' hb hdep K hK
                obtain ⟨v9, e9, j9⟩ := hdep 9 (by kernel_rfl)
                replace e9 : a.tmps[92]? = some v9 := e9
                obtain rfl : v9 = _ := j9
                obtain ⟨v8, e8, j8⟩ := hdep 8 (by kernel_rfl)
                replace e8 : a.tmps[91]? = some v8 := e8
                obtain rfl : v8 = _ := j8
                clear hdep
                go_simp
                go_at_call 20
                refine (wlen_at (HW10.out.below hb.bel) HX.out).mono ?_
                rintro e w20 ⟨rfl, rfl⟩
                exact hK _ _ rfl (Below.refl _ _)
              · intro a w' hb hdep K hK
                have c8 := hb.at 2 8 _ rfl
                obtain ⟨v8, e8, j8⟩ := hdep 8 (by kernel_rfl)
                replace e8 : a.tmps[91]? = some v8 := e8
                obtain rfl : v8 = _ := j8
                clear hdep
                go_simp
                exact hK _ _ rfl (Below.refl _ _)
              · intro a w' hb hdep K hK
                obtain ⟨v10, e10, j10⟩ := hdep 10 (by kernel_rfl)
                replace e10 : a.tmps[93]? = some v10 := e10
                obtain rfl : v10 = _ := j10
                obtain ⟨v11, e11, j11⟩ := hdep 11 (by kernel_rfl)
                replace e11 : a.tmps[94]? = some v11 := e11
                obtain rfl : v11 = _ := j11
                obtain ⟨v8, e8, j8⟩ := hdep 8 (by kernel_rfl)
                replace e8 : a.tmps[91]? = some v8 := e8
                obtain rfl : v8 = _ := j8
                clear hdep
                go_simp
                exact hK _ _ rfl (Below.refl _ _)
              · intro a w' hb hdep K hK
                obtain ⟨v8, e8, j8⟩ := hdep 8 (by kernel_rfl)
                replace e8 : a.tmps[91]? = some v8 := e8
                obtain rfl : v8 = _ := j8
                obtain ⟨v12, e12, j12⟩ := hdep 12 (by kernel_rfl)
                replace e12 : a.tmps[95]? = some v12 := e12
                obtain rfl : v12 = _ := j12
                obtain ⟨v2, e2, j2⟩ := hdep 2 (by kernel_rfl)
                replace e2 : a.tmps[85]? = some v2 := e2
                obtain rfl : v2 = _ := j2
                clear hdep
                go_simp
                exact hK _ _ rfl (Below.refl _ _)
              · intro a w' hb hdep K hK
                obtain ⟨v13, e13, j13⟩ := hdep 13 (by kernel_rfl)
                replace e13 : a.tmps[96]? = some v13 := e13
                obtain rfl : v13 = _ := j13
                obtain ⟨v2, e2, j2⟩ := hdep 2 (by kernel_rfl)
                replace e2 : a.tmps[85]? = some v2 := e2
                obtain rfl : v2 = _ := j2
                clear hdep
                go_simp
                exact hK _ _ rfl (Below.refl _ _)
              · intro a w' hb hdep K hK
                have c14 := hb.at 6 14 _ rfl
                obtain ⟨v14, e14, j14⟩ := hdep 14 (by kernel_rfl)
                replace e14 : a.tmps[97]? = some v14 := e14
                obtain rfl : v14 = _ := j14
                clear hdep
                go_simp
                exact hK _ _ rfl (Below.refl _ _)
              · intro a w' hb hdep K hK
                obtain ⟨v15, e15, j15⟩ := hdep 15 (by kernel_rfl)
                replace e15 : a.tmps[98]? = some v15 := e15
                obtain rfl : v15 = _ := j15
                obtain ⟨v14, e14, j14⟩ := hdep 14 (by kernel_rfl)
                replace e14 : a.tmps[97]? = some v14 := e14
                obtain rfl : v14 = _ := j14
                clear hdep
                go_simp
                go_at_call 21
                refine (wbytes_at (n := nb) (P := PB) (HW10.out.below hb.bel) (by rw [HX.out]; exact HNB.out) HPB.out).mono ?_
                rintro e w20 ⟨v20, rfl, hv20, hb20⟩
                exact hK _ _ hv20 hb20
              · intro a w' hb hdep K hK
                obtain ⟨v16, e16, j16⟩ := hdep 16 (by kernel_rfl)
                replace e16 : a.tmps[99]? = some v16 := e16
                obtain ⟨v14, e14, j14⟩ := hdep 14 (by kernel_rfl)
                replace e14 : a.tmps[97]? = some v14 := e14
                obtain rfl : v14 = _ := j14
                clear hdep
                obtain ⟨a20, c20, rfl, hs20⟩ := j16
                have hcv := run_bstr (P := Try.prog) sliceT byteT strT w' a20 nb c20 PB HPL.out hs20
                clear hs20
                go_simp
                exact hK _ _ rfl (Below.refl _ _)
              · intro a w' hb hdep K hK
                have c7 := hb.at 1 7 _ rfl
                obtain ⟨v14, e14, j14⟩ := hdep 14 (by kernel_rfl)
                replace e14 : a.tmps[97]? = some v14 := e14
                obtain rfl : v14 = _ := j14
                clear hdep
                go_simp
                exact hK _ _ rfl (Below.refl _ _)
              · intro a w' hb hdep K hK
                obtain ⟨v18, e18, j18⟩ := hdep 18 (by kernel_rfl)
                replace e18 : a.tmps[101]? = some v18 := e18
                obtain rfl : v18 = _ := j18
                obtain ⟨v14, e14, j14⟩ := hdep 14 (by kernel_rfl)
                replace e14 : a.tmps[97]? = some v14 := e14
                obtain rfl : v14 = _ := j14
                clear hdep
                have hcv := run_bstr (P := Try.prog) sliceT byteT strT w' a2 nb c2 PB HPL.out (HU10.out.below hb.bel)
                go_simp
                exact hK _ _ rfl (Below.refl _ _)
              · intro a w' hb hdep K hK
                obtain ⟨v17, e17, j17⟩ := hdep 17 (by kernel_rfl)
                replace e17 : a.tmps[100]? = some v17 := e17
                obtain rfl : v17 = _ := j17
                obtain ⟨v19, e19, j19⟩ := hdep 19 (by kernel_rfl)
                replace e19 : a.tmps[102]? = some v19 := e19
                obtain rfl : v19 = _ := j19
                obtain ⟨v14, e14, j14⟩ := hdep 14 (by kernel_rfl)
                replace e14 : a.tmps[97]? = some v14 := e14
                obtain rfl : v14 = _ := j14
                clear hdep
                go_simp
                exact hK _ _ rfl (Below.refl _ _)
              · intro a w' hb hdep K hK
                obtain ⟨v14, e14, j14⟩ := hdep 14 (by kernel_rfl)
                replace e14 : a.tmps[97]? = some v14 := e14
                obtain rfl : v14 = _ := j14
                obtain ⟨v20, e20, j20⟩ := hdep 20 (by kernel_rfl)
                replace e20 : a.tmps[103]? = some v20 := e20
                obtain rfl : v20 = _ := j20
                obtain ⟨v2, e2, j2⟩ := hdep 2 (by kernel_rfl)
                replace e2 : a.tmps[85]? = some v2 := e2
                obtain rfl : v2 = _ := j2
                clear hdep
                go_simp
                exact hK _ _ rfl (Below.refl _ _)
              · intro a w' hb hdep K hK
                obtain ⟨v2, e2, j2⟩ := hdep 2 (by kernel_rfl)
                replace e2 : a.tmps[85]? = some v2 := e2
                obtain rfl : v2 = _ := j2
                obtain ⟨v21, e21, j21⟩ := hdep 21 (by kernel_rfl)
                replace e21 : a.tmps[104]? = some v21 := e21
                obtain rfl : v21 = _ := j21
                clear hdep
                go_simp
                exact hK _ _ rfl (Below.refl _ _)
              · intro a w' hb hdep K hK
                obtain ⟨v22, e22, j22⟩ := hdep 22 (by kernel_rfl)
                replace e22 : a.tmps[105]? = some v22 := e22
                obtain rfl : v22 = _ := j22
                clear hdep
                go_simp
                exact hK _ _ rfl (Below.refl _ _)
              · intro a w' hb hdep K hK
                have c3 := hb.at 0 3 _ rfl
                obtain ⟨v23, e23, j23⟩ := hdep 23 (by kernel_rfl)
                replace e23 : a.tmps[106]? = some v23 := e23
                obtain rfl : v23 = _ := j23
                clear hdep
                refine wanted_row 23 true rfl 106 rfl (by assumption) 23 _ rfl w.heap.size (by simp [Act.eval, c3]) 23 (lg l) (0, 0) _ (heap_on hb.bel HG10.out) Try.underlying23 rfl (lngIk h) ?_
                exact hK _ _ rfl (Below.refl _ _)
              · intro a w' hb hdep K hK
                obtain ⟨v24, e24, j24⟩ := hdep 24 (by kernel_rfl)
                replace e24 : a.tmps[107]? = some v24 := e24
                obtain rfl : v24 = _ := j24
                obtain ⟨v23, e23, j23⟩ := hdep 23 (by kernel_rfl)
                replace e23 : a.tmps[106]? = some v23 := e23
                obtain rfl : v23 = _ := j23
                clear hdep
                go_simp
                go_at_call 23
                refine (HV.out w').mono ?_
                rintro e w20 ⟨rfl, hb20⟩
                exact hK _ _ rfl hb20
              · intro a w' hb hdep K hK
                obtain ⟨v25, e25, j25⟩ := hdep 25 (by kernel_rfl)
                replace e25 : a.tmps[108]? = some v25 := e25
                obtain rfl : v25 = _ := j25
                obtain ⟨v23, e23, j23⟩ := hdep 23 (by kernel_rfl)
                replace e23 : a.tmps[106]? = some v23 := e23
                obtain rfl : v23 = _ := j23
                clear hdep
                go_simp
                exact hK _ _ rfl (Below.refl _ _)
              · intro a w' hb hdep K hK
                have c9 := hb.at 3 9 _ rfl
                obtain ⟨v26, e26, j26⟩ := hdep 26 (by kernel_rfl)
                replace e26 : a.tmps[109]? = some v26 := e26
                obtain rfl : v26 = _ := j26
                clear hdep
                go_simp
                exact hK _ _ rfl (Below.refl _ _)
              · intro a w' hb hdep K hK
                obtain ⟨v27, e27, j27⟩ := hdep 27 (by kernel_rfl)
                replace e27 : a.tmps[110]? = some v27 := e27
                obtain rfl : v27 = _ := j27
                obtain ⟨v26, e26, j26⟩ := hdep 26 (by kernel_rfl)
                replace e26 : a.tmps[109]? = some v26 := e26
                obtain rfl : v26 = _ := j26
                clear hdep
                go_simp
                exact hK _ _ rfl (Below.refl _ _)
              · intro a w' hb hdep K hK
                obtain ⟨v26, e26, j26⟩ := hdep 26 (by kernel_rfl)
                replace e26 : a.tmps[109]? = some v26 := e26
                obtain rfl : v26 = _ := j26
                obtain ⟨v28, e28, j28⟩ := hdep 28 (by kernel_rfl)
                replace e28 : a.tmps[111]? = some v28 := e28
                obtain rfl : v28 = _ := j28
                obtain ⟨v23, e23, j23⟩ := hdep 23 (by kernel_rfl)
                replace e23 : a.tmps[106]? = some v23 := e23
                obtain rfl : v23 = _ := j23
                clear hdep
                go_simp
                exact hK _ _ rfl (Below.refl _ _)
              · intro a w' hb hdep K hK
                obtain ⟨v23, e23, j23⟩ := hdep 23 (by kernel_rfl)
                replace e23 : a.tmps[106]? = some v23 := e23
                obtain rfl : v23 = _ := j23
                obtain ⟨v29, e29, j29⟩ := hdep 29 (by kernel_rfl)
                replace e29 : a.tmps[112]? = some v29 := e29
                obtain rfl : v29 = _ := j29
                clear hdep
                go_simp
                exact hK _ _ rfl (Below.refl _ _)
              · intro a w' hb hdep K hK
                obtain ⟨v30, e30, j30⟩ := hdep 30 (by kernel_rfl)
                replace e30 : a.tmps[113]? = some v30 := e30
                obtain rfl : v30 = _ := j30
                clear hdep
                go_simp
                exact hK _ _ rfl (Below.refl _ _)
              · intro a w' hb hdep K hK
                obtain ⟨v31, e31, j31⟩ := hdep 31 (by kernel_rfl)
                replace e31 : a.tmps[114]? = some v31 := e31
                obtain rfl : v31 = _ := j31
                clear hdep
                go_simp
                go_at_call 7
                refine (HWK.out w').mono ?_
                rintro e w20 ⟨rfl, hb20⟩
                exact hK _ _ rfl hb20
              · intro a w' hb hdep K hK
                obtain ⟨v31, e31, j31⟩ := hdep 31 (by kernel_rfl)
                replace e31 : a.tmps[114]? = some v31 := e31
                obtain rfl : v31 = _ := j31
                obtain ⟨v32, e32, j32⟩ := hdep 32 (by kernel_rfl)
                replace e32 : a.tmps[115]? = some v32 := e32
                obtain rfl : v32 = _ := j32
                clear hdep
                go_simp
                exact hK _ _ rfl (Below.refl _ _)
              · intro a w' hb hdep K hK
                obtain ⟨v33, e33, j33⟩ := hdep 33 (by kernel_rfl)
                replace e33 : a.tmps[116]? = some v33 := e33
                obtain rfl : v33 = _ := j33
                clear hdep
                go_simp
                exact hK _ _ rfl (Below.refl _ _)
            · intro a wz hb hall
              obtain ⟨v, h6, hv⟩ := hall 34 (by decide)
              obtain rfl : v = .bool true := hv
              have HBB := Lib.hid (HB10.out.trans (hb.bel.mono HB10.out.size))
              have hd := hb.defers
              clear hall hb
              go_wp2
              replace h6 : a.tmps[6]? = some (.bool true) := h6
              exact bodyPost_ret (v := .bool true) (by simp [results, Try.results6, go_sem, h6]) hd ⟨rfl, HBB.out⟩
          | false =>
            obtain rfl : E = 2 := by rw [e4, (spR_no hc).2]
            have hv0 := fun W => rvalid_call l h W
            obtain ⟨V, hV⟩ : ∃ V, V = decide (ks l ≤ 32768) := ⟨_, rfl⟩
            rw [← hV] at hv0
            have HV := Lib.hid hv0
            have hsplit := canV_split l q k
            rw [hc] at hsplit
            clear hV hv0 e1 e2 e3 e4 e7 hc
            cases hc1 : canV l (q.take k) with
            | true =>
              rw [hc1, Bool.true_and] at hsplit
              obtain rfl : E1 = 0 := by rw [e5, (spR_yes hc1).2]
              obtain rfl : E2 = 2 := by rw [e6, (spR_no hsplit.symm).2]
              clear e5 e6 hsplit hc1
              cases V with
              | true =>
                go_upto_region 14 with fail
                refine wp_region_inv (J := Js [eqv (.int .i64 2), eqv (.bool true), eqv (.bool true), eqv undef, eqv undef, eqv undef, eqv undef, eqv undef, eqv undef, eqv undef, eqv undef, eqv undef, eqv undef, eqv undef, eqv undef, eqv undef, eqv undef, eqv undef, eqv undef, eqv undef, eqv undef, eqv undef, eqv (.bool true), eqv (.bool true), eqv (.agg (lg l)), eqv (.bool true), eqv (.bool true), eqv undef, eqv undef, eqv (.bool true), eqv (.bool true), eqv (.bool true), eqv (.bool true), eqv (.bool true), eqv (.bool true)]) (ds := [83, 84, 85, 86, 87, 88, 89, 90, 91, 92, 93, 94, 95, 96, 97, 98, 99, 100, 101, 102, 103, 104, 105, 106, 107, 108, 109, 110, 111, 112, 113, 114, 115, 116, 6]) (N := 117)
                  (B := [(3, .pointer (some ⟨w.heap.size, 0, none⟩)), (7, .slice a2 nb c2), (8, .int .i64 X), (9, .int .i64 2), (10, .int .i64 Y), (12, .int .i64 Z), (14, .pointer (some ⟨p, 0, none⟩))]) (by kernel_rfl) (by kernel_rfl) (Js_mono ⟨eqv_mono _, eqv_mono _, eqv_mono _, eqv_mono _, eqv_mono _, eqv_mono _, eqv_mono _, eqv_mono _, eqv_mono _, eqv_mono _, eqv_mono _, eqv_mono _, eqv_mono _, eqv_mono _, eqv_mono _, eqv_mono _, eqv_mono _, eqv_mono _, eqv_mono _, eqv_mono _, eqv_mono _, eqv_mono _, eqv_mono _, eqv_mono _, eqv_mono _, eqv_mono _, eqv_mono _, eqv_mono _, eqv_mono _, eqv_mono _, eqv_mono _, eqv_mono _, eqv_mono _, eqv_mono _, eqv_mono _, trivial⟩) rfl rfl (by simp) ?_ ?_
                · refine ⟨?_, ?_, ?_, ?_, ?_, ?_, ?_, ?_, ?_, ?_, ?_, ?_, ?_, ?_, ?_, ?_, ?_, ?_, ?_, ?_, ?_, ?_, ?_, ?_, ?_, ?_, ?_, ?_, ?_, ?_, ?_, ?_, ?_, ?_, ?_, trivial⟩
                  · intro a w' hb hdep K hK
                    have c9 := hb.at 3 9 _ rfl
                    clear hdep
                    go_simp
                    exact hK _ _ rfl (Below.refl _ _)
                  · intro a w' hb hdep K hK
                    obtain ⟨v0, e0, j0⟩ := hdep 0 (by kernel_rfl)
                    replace e0 : a.tmps[83]? = some v0 := e0
                    obtain rfl : v0 = _ := j0
                    clear hdep
                    go_simp
                    exact hK _ _ rfl (Below.refl _ _)
                  · intro a w' hb hdep K hK
                    obtain ⟨v1, e1, j1⟩ := hdep 1 (by kernel_rfl)
                    replace e1 : a.tmps[84]? = some v1 := e1
                    obtain rfl : v1 = _ := j1
                    clear hdep
                    go_simp
                    exact hK _ _ rfl (Below.refl _ _)
                  · intro a w' hb hdep K hK
                    have c8 := hb.at 2 8 _ rfl
                    obtain ⟨v2, e2, j2⟩ := hdep 2 (by kernel_rfl)
                    replace e2 : a.tmps[85]? = some v2 := e2
                    obtain rfl : v2 = _ := j2
                    clear hdep
                    go_simp
                    exact hK _ _ rfl (Below.refl _ _)
                  · intro a w' hb hdep K hK
                    have c10 := hb.at 4 10 _ rfl
                    obtain ⟨v2, e2, j2⟩ := hdep 2 (by kernel_rfl)
                    replace e2 : a.tmps[85]? = some v2 := e2
                    obtain rfl : v2 = _ := j2
                    clear hdep
                    go_simp
                    exact hK _ _ rfl (Below.refl _ _)
                  · intro a w' hb hdep K hK
                    have c12 := hb.at 5 12 _ rfl
                    obtain ⟨v2, e2, j2⟩ := hdep 2 (by kernel_rfl)
                    replace e2 : a.tmps[85]? = some v2 := e2
                    obtain rfl : v2 = _ := j2
                    clear hdep
                    go_simp
                    exact hK _ _ rfl (Below.refl _ _)
                  · intro a w' hb hdep K hK
                    obtain ⟨v4, e4, j4⟩ := hdep 4 (by kernel_rfl)
                    replace e4 : a.tmps[87]? = some v4 := e4
                    obtain rfl : v4 = _ := j4
                    obtain ⟨v5, e5, j5⟩ := hdep 5 (by kernel_rfl)
                    replace e5 : a.tmps[88]? = some v5 := e5
                    obtain rfl : v5 = _ := j5
                    obtain ⟨v2, e2, j2⟩ := hdep 2 (by kernel_rfl)
                    replace e2 : a.tmps[85]? = some v2 := e2
                    obtain rfl : v2 = _ := j2
                    clear hdep
                    go_simp
                    exact hK _ _ rfl (Below.refl _ _)
                  · intro a w' hb hdep K hK
                    obtain ⟨v3, e3, j3⟩ := hdep 3 (by kernel_rfl)
                    replace e3 : a.tmps[86]? = some v3 := e3
                    obtain rfl : v3 = _ := j3
                    obtain ⟨v6, e6, j6⟩ := hdep 6 (by kernel_rfl)
                    replace e6 : a.tmps[89]? = some v6 := e6
                    obtain rfl : v6 = _ := j6
                    obtain ⟨v2, e2, j2⟩ := hdep 2 (by kernel_rfl)
                    replace e2 : a.tmps[85]? = some v2 := e2
                    obtain rfl : v2 = _ := j2
                    clear hdep
                    go_simp
                    exact hK _ _ rfl (Below.refl _ _)
                  · intro a w' hb hdep K hK
                    obtain ⟨v7, e7, j7⟩ := hdep 7 (by kernel_rfl)
                    replace e7 : a.tmps[90]? = some v7 := e7
                    obtain rfl : v7 = _ := j7
                    obtain ⟨v2, e2, j2⟩ := hdep 2 (by kernel_rfl)
                    replace e2 : a.tmps[85]? = some v2 := e2
                    obtain rfl : v2 = _ := j2
                    clear hdep
                    go_simp
                    exact hK _ _ rfl (Below.refl _ _)
                  · intro a w' hb hdep K hK
                    have c14 := hb.at 6 14 _ rfl
                    obtain ⟨v8, e8, j8⟩ := hdep 8 (by kernel_rfl)
                    replace e8 : a.tmps[91]? = some v8 := e8
                    obtain rfl : v8 = _ := j8
                    clear hdep
                    go_simp
                    exact hK _ _ rfl (Below.refl _ _)
                  · intro a w' hb hdep K hK
                    obtain ⟨v9, e9, j9⟩ := hdep 9 (by kernel_rfl)
                    replace e9 : a.tmps[92]? = some v9 := e9
                    obtain rfl : v9 = _ := j9
                    obtain ⟨v8, e8, j8⟩ := hdep 8 (by kernel_rfl)
                    replace e8 : a.tmps[91]? = some v8 := e8
                    obtain rfl : v8 = _ := j8
                    clear hdep
                    go_simp
                    exact hK _ _ rfl (Below.refl _ _)
                  · intro a w' hb hdep K hK
                    have c8 := hb.at 2 8 _ rfl
                    obtain ⟨v8, e8, j8⟩ := hdep 8 (by kernel_rfl)
                    replace e8 : a.tmps[91]? = some v8 := e8
                    obtain rfl : v8 = _ := j8
                    clear hdep
                    go_simp
                    exact hK _ _ rfl (Below.refl _ _)
                  · intro a w' hb hdep K hK
                    obtain ⟨v10, e10, j10⟩ := hdep 10 (by kernel_rfl)
                    replace e10 : a.tmps[93]? = some v10 := e10
                    obtain rfl : v10 = _ := j10
                    obtain ⟨v11, e11, j11⟩ := hdep 11 (by kernel_rfl)
                    replace e11 : a.tmps[94]? = some v11 := e11
                    obtain rfl : v11 = _ := j11
                    obtain ⟨v8, e8, j8⟩ := hdep 8 (by kernel_rfl)
                    replace e8 : a.tmps[91]? = some v8 := e8
                    obtain rfl : v8 = _ := j8
                    clear hdep
                    go_simp
                    exact hK _ _ rfl (Below.refl _ _)
                  · intro a w' hb hdep K hK
                    obtain ⟨v8, e8, j8⟩ := hdep 8 (by kernel_rfl)
                    replace e8 : a.tmps[91]? = some v8 := e8
                    obtain rfl : v8 = _ := j8
                    obtain ⟨v12, e12, j12⟩ := hdep 12 (by kernel_rfl)
                    replace e12 : a.tmps[95]? = some v12 := e12
                    obtain rfl : v12 = _ := j12
                    obtain ⟨v2, e2, j2⟩ := hdep 2 (by kernel_rfl)
                    replace e2 : a.tmps[85]? = some v2 := e2
                    obtain rfl : v2 = _ := j2
                    clear hdep
                    go_simp
                    exact hK _ _ rfl (Below.refl _ _)
                  · intro a w' hb hdep K hK
                    obtain ⟨v13, e13, j13⟩ := hdep 13 (by kernel_rfl)
                    replace e13 : a.tmps[96]? = some v13 := e13
                    obtain rfl : v13 = _ := j13
                    obtain ⟨v2, e2, j2⟩ := hdep 2 (by kernel_rfl)
                    replace e2 : a.tmps[85]? = some v2 := e2
                    obtain rfl : v2 = _ := j2
                    clear hdep
                    go_simp
                    exact hK _ _ rfl (Below.refl _ _)
                  · intro a w' hb hdep K hK
                    have c14 := hb.at 6 14 _ rfl
                    obtain ⟨v14, e14, j14⟩ := hdep 14 (by kernel_rfl)
                    replace e14 : a.tmps[97]? = some v14 := e14
                    obtain rfl : v14 = _ := j14
                    clear hdep
                    go_simp
                    exact hK _ _ rfl (Below.refl _ _)
                  · intro a w' hb hdep K hK
                    obtain ⟨v15, e15, j15⟩ := hdep 15 (by kernel_rfl)
                    replace e15 : a.tmps[98]? = some v15 := e15
                    obtain rfl : v15 = _ := j15
                    obtain ⟨v14, e14, j14⟩ := hdep 14 (by kernel_rfl)
                    replace e14 : a.tmps[97]? = some v14 := e14
                    obtain rfl : v14 = _ := j14
                    clear hdep
                    go_simp
                    exact hK _ _ rfl (Below.refl _ _)
                  · intro a w' hb hdep K hK
                    obtain ⟨v16, e16, j16⟩ := hdep 16 (by kernel_rfl)
                    replace e16 : a.tmps[99]? = some v16 := e16
                    obtain rfl : v16 = _ := j16
                    obtain ⟨v14, e14, j14⟩ := hdep 14 (by kernel_rfl)
                    replace e14 : a.tmps[97]? = some v14 := e14
                    obtain rfl : v14 = _ := j14
                    clear hdep
                    go_simp
                    exact hK _ _ rfl (Below.refl _ _)
                  · intro a w' hb hdep K hK
                    have c7 := hb.at 1 7 _ rfl
                    obtain ⟨v14, e14, j14⟩ := hdep 14 (by kernel_rfl)
                    replace e14 : a.tmps[97]? = some v14 := e14
                    obtain rfl : v14 = _ := j14
                    clear hdep
                    go_simp
                    exact hK _ _ rfl (Below.refl _ _)
                  · intro a w' hb hdep K hK
                    obtain ⟨v18, e18, j18⟩ := hdep 18 (by kernel_rfl)
                    replace e18 : a.tmps[101]? = some v18 := e18
                    obtain rfl : v18 = _ := j18
                    obtain ⟨v14, e14, j14⟩ := hdep 14 (by kernel_rfl)
                    replace e14 : a.tmps[97]? = some v14 := e14
                    obtain rfl : v14 = _ := j14
                    clear hdep
                    go_simp
                    exact hK _ _ rfl (Below.refl _ _)
                  · intro a w' hb hdep K hK
                    obtain ⟨v17, e17, j17⟩ := hdep 17 (by kernel_rfl)
                    replace e17 : a.tmps[100]? = some v17 := e17
                    obtain rfl : v17 = _ := j17
                    obtain ⟨v19, e19, j19⟩ := hdep 19 (by kernel_rfl)
                    replace e19 : a.tmps[102]? = some v19 := e19
                    obtain rfl : v19 = _ := j19
                    obtain ⟨v14, e14, j14⟩ := hdep 14 (by kernel_rfl)
                    replace e14 : a.tmps[97]? = some v14 := e14
                    obtain rfl : v14 = _ := j14
                    clear hdep
                    go_simp
                    exact hK _ _ rfl (Below.refl _ _)
                  · intro a w' hb hdep K hK
                    obtain ⟨v14, e14, j14⟩ := hdep 14 (by kernel_rfl)
                    replace e14 : a.tmps[97]? = some v14 := e14
                    obtain rfl : v14 = _ := j14
                    obtain ⟨v20, e20, j20⟩ := hdep 20 (by kernel_rfl)
                    replace e20 : a.tmps[103]? = some v20 := e20
                    obtain rfl : v20 = _ := j20
                    obtain ⟨v2, e2, j2⟩ := hdep 2 (by kernel_rfl)
                    replace e2 : a.tmps[85]? = some v2 := e2
                    obtain rfl : v2 = _ := j2
                    clear hdep
                    go_simp
                    exact hK _ _ rfl (Below.refl _ _)
                  · intro a w' hb hdep K hK
                    obtain ⟨v2, e2, j2⟩ := hdep 2 (by kernel_rfl)
                    replace e2 : a.tmps[85]? = some v2 := e2
                    obtain rfl : v2 = _ := j2
                    obtain ⟨v21, e21, j21⟩ := hdep 21 (by kernel_rfl)
                    replace e21 : a.tmps[104]? = some v21 := e21
                    obtain rfl : v21 = _ := j21
                    clear hdep
                    go_simp
                    exact hK _ _ rfl (Below.refl _ _)
                  · intro a w' hb hdep K hK
                    obtain ⟨v22, e22, j22⟩ := hdep 22 (by kernel_rfl)
                    replace e22 : a.tmps[105]? = some v22 := e22
                    obtain rfl : v22 = _ := j22
                    clear hdep
                    go_simp
                    exact hK _ _ rfl (Below.refl _ _)
                  · intro a w' hb hdep K hK
                    have c3 := hb.at 0 3 _ rfl
                    obtain ⟨v23, e23, j23⟩ := hdep 23 (by kernel_rfl)
                    replace e23 : a.tmps[106]? = some v23 := e23
                    obtain rfl : v23 = _ := j23
                    clear hdep
                    refine wanted_row 23 true rfl 106 rfl (by assumption) 23 _ rfl w.heap.size (by simp [Act.eval, c3]) 23 (lg l) (0, 0) _ (heap_on hb.bel HG10.out) Try.underlying23 rfl (lngIk h) ?_
                    exact hK _ _ rfl (Below.refl _ _)
                  · intro a w' hb hdep K hK
                    obtain ⟨v24, e24, j24⟩ := hdep 24 (by kernel_rfl)
                    replace e24 : a.tmps[107]? = some v24 := e24
                    obtain rfl : v24 = _ := j24
                    obtain ⟨v23, e23, j23⟩ := hdep 23 (by kernel_rfl)
                    replace e23 : a.tmps[106]? = some v23 := e23
                    obtain rfl : v23 = _ := j23
                    clear hdep
                    go_simp
                    go_at_call 23
                    refine (HV.out w').mono ?_
                    rintro e w20 ⟨rfl, hb20⟩
                    exact hK _ _ rfl hb20
                  · intro a w' hb hdep K hK
                    obtain ⟨v25, e25, j25⟩ := hdep 25 (by kernel_rfl)
                    replace e25 : a.tmps[108]? = some v25 := e25
                    obtain rfl : v25 = _ := j25
                    obtain ⟨v23, e23, j23⟩ := hdep 23 (by kernel_rfl)
                    replace e23 : a.tmps[106]? = some v23 := e23
                    obtain rfl : v23 = _ := j23
                    clear hdep
                    go_simp
                    exact hK _ _ rfl (Below.refl _ _)
                  · intro a w' hb hdep K hK
                    have c9 := hb.at 3 9 _ rfl
                    obtain ⟨v26, e26, j26⟩ := hdep 26 (by kernel_rfl)
                    replace e26 : a.tmps[109]? = some v26 := e26
                    obtain rfl : v26 = _ := j26
                    clear hdep
                    go_simp
                    exact hK _ _ rfl (Below.refl _ _)
                  · intro a w' hb hdep K hK
                    obtain ⟨v27, e27, j27⟩ := hdep 27 (by kernel_rfl)
                    replace e27 : a.tmps[110]? = some v27 := e27
                    obtain rfl : v27 = _ := j27
                    obtain ⟨v26, e26, j26⟩ := hdep 26 (by kernel_rfl)
                    replace e26 : a.tmps[109]? = some v26 := e26
                    obtain rfl : v26 = _ := j26
                    clear hdep
                    go_simp
                    exact hK _ _ rfl (Below.refl _ _)
                  · intro a w' hb hdep K hK
                    obtain ⟨v26, e26, j26⟩ := hdep 26 (by kernel_rfl)
                    replace e26 : a.tmps[109]? = some v26 := e26
                    obtain rfl : v26 = _ := j26
                    obtain ⟨v28, e28, j28⟩ := hdep 28 (by kernel_rfl)
                    replace e28 : a.tmps[111]? = some v28 := e28
                    obtain rfl : v28 = _ := j28
                    obtain ⟨v23, e23, j23⟩ := hdep 23 (by kernel_rfl)
                    replace e23 : a.tmps[106]? = some v23 := e23
                    obtain rfl : v23 = _ := j23
                    clear hdep
                    go_simp
                    exact hK _ _ rfl (Below.refl _ _)
                  · intro a w' hb hdep K hK
                    obtain ⟨v23, e23, j23⟩ := hdep 23 (by kernel_rfl)
                    replace e23 : a.tmps[106]? = some v23 := e23
                    obtain rfl : v23 = _ := j23
                    obtain ⟨v29, e29, j29⟩ := hdep 29 (by kernel_rfl)
                    replace e29 : a.tmps[112]? = some v29 := e29
                    obtain rfl : v29 = _ := j29
                    clear hdep
                    go_simp
                    exact hK _ _ rfl (Below.refl _ _)
                  · intro a w' hb hdep K hK
                    obtain ⟨v30, e30, j30⟩ := hdep 30 (by kernel_rfl)
                    replace e30 : a.tmps[113]? = some v30 := e30
                    obtain rfl : v30 = _ := j30
                    clear hdep
                    go_simp
                    exact hK _ _ rfl (Below.refl _ _)
                  · intro a w' hb hdep K hK
                    obtain ⟨v31, e31, j31⟩ := hdep 31 (by kernel_rfl)
                    replace e31 : a.tmps[114]? = some v31 := e31
                    obtain rfl : v31 = _ := j31
                    clear hdep
                    go_simp
                    go_at_call 7
                    refine (HWK.out w').mono ?_
                    rintro e w20 ⟨rfl, hb20⟩
                    exact hK _ _ rfl hb20
                  · intro a w' hb hdep K hK
                    obtain ⟨v31, e31, j31⟩ := hdep 31 (by kernel_rfl)
                    replace e31 : a.tmps[114]? = some v31 := e31
                    obtain rfl : v31 = _ := j31
                    obtain ⟨v32, e32, j32⟩ := hdep 32 (by kernel_rfl)
                    replace e32 : a.tmps[115]? = some v32 := e32
                    obtain rfl : v32 = _ := j32
                    clear hdep
                    go_simp
                    exact hK _ _ rfl (Below.refl _ _)
                  · intro a w' hb hdep K hK
                    obtain ⟨v33, e33, j33⟩ := hdep 33 (by kernel_rfl)
                    replace e33 : a.tmps[116]? = some v33 := e33
                    obtain rfl : v33 = _ := j33
                    clear hdep
                    go_simp
                    exact hK _ _ rfl (Below.refl _ _)
                · intro a wz hb hall
                  obtain ⟨v, h6, hv⟩ := hall 34 (by decide)
                  obtain rfl : v = .bool true := hv
                  have HBB := Lib.hid (HB10.out.trans (hb.bel.mono HB10.out.size))
                  have hd := hb.defers
                  clear hall hb
                  go_wp2
                  replace h6 : a.tmps[6]? = some (.bool true) := h6
                  exact bodyPost_ret (v := .bool true) (by simp [results, Try.results6, go_sem, h6]) hd ⟨rfl, HBB.out⟩
              | false =>
                go_upto_region 14 with fail
                refine wp_region_inv (J := Js [eqv (.int .i64 2), eqv (.bool true), eqv (.bool true), eqv undef, eqv undef, eqv undef, eqv undef, eqv undef, eqv undef, eqv undef, eqv undef, eqv undef, eqv undef, eqv undef, eqv undef, eqv undef, eqv undef, eqv undef, eqv undef, eqv undef, eqv undef, eqv undef, eqv (.bool true), eqv (.bool true), eqv (.agg (lg l)), eqv (.bool false), eqv (.bool false), eqv (.int .i64 2), eqv (.bool true), eqv (.bool true), eqv (.bool true), eqv (.bool true), eqv (.bool true), eqv (.bool true), eqv (.bool true)]) (ds := [83, 84, 85, 86, 87, 88, 89, 90, 91, 92, 93, 94, 95, 96, 97, 98, 99, 100, 101, 102, 103, 104, 105, 106, 107, 108, 109, 110, 111, 112, 113, 114, 115, 116, 6]) (N := 117)
                  (B := [(3, .pointer (some ⟨w.heap.size, 0, none⟩)), (7, .slice a2 nb c2), (8, .int .i64 X), (9, .int .i64 2), (10, .int .i64 Y), (12, .int .i64 Z), (14, .pointer (some ⟨p, 0, none⟩))]) (by kernel_rfl) (by kernel_rfl) (Js_mono ⟨eqv_mono _, eqv_mono _, eqv_mono _, eqv_mono _, eqv_mono _, eqv_mono _, eqv_mono _, eqv_mono _, eqv_mono _, eqv_mono _, eqv_mono _, eqv_mono _, eqv_mono _, eqv_mono _, eqv_mono _, eqv_mono _, eqv_mono _, eqv_mono _, eqv_mono _, eqv_mono _, eqv_mono _, eqv_mono _, eqv_mono _, eqv_mono _, eqv_mono _, eqv_mono _, eqv_mono _, eqv_mono _, eqv_mono _, eqv_mono _, eqv_mono _, eqv_mono _, eqv_mono _, eqv_mono _, eqv_mono _, trivial⟩) rfl rfl (by simp) ?_ ?_
                · refine ⟨?_, ?_, ?_, ?_, ?_, ?_, ?_, ?_, ?_, ?_, ?_, ?_, ?_, ?_, ?_, ?_, ?_, ?_, ?_, ?_, ?_, ?_, ?_, ?_, ?_, ?_, ?_, ?_, ?_, ?_, ?_, ?_, ?_, ?_, ?_, trivial⟩
                  · intro a w' hb hdep K hK
                    have c9 := hb.at 3 9 _ rfl
                    clear hdep
                    go_simp
                    exact hK _ _ rfl (Below.refl _ _)
                  · intro a w' hb hdep K hK
                    obtain ⟨v0, e0, j0⟩ := hdep 0 (by kernel_rfl)
                    replace e0 : a.tmps[83]? = some v0 := e0
                    obtain rfl : v0 = _ := j0
                    clear hdep
                    go_simp
                    exact hK _ _ rfl (Below.refl _ _)
                  · intro a w' hb hdep K hK
                    obtain ⟨v1, e1, j1⟩ := hdep 1 (by kernel_rfl)
                    replace e1 : a.tmps[84]? = some v1 := e1
                    obtain rfl : v1 = _ := j1
                    clear hdep
                    go_simp
                    exact hK _ _ rfl (Below.refl _ _)
                  · intro a w' hb hdep K hK
                    have c8 := hb.at 2 8 _ rfl
                    obtain ⟨v2, e2, j2⟩ := hdep 2 (by kernel_rfl)
                    replace e2 : a.tmps[85]? = some v2 := e2
                    obtain rfl : v2 = _ := j2
                    clear hdep
                    go_simp
                    exact hK _ _ rfl (Below.refl _ _)
                  · intro a w' hb hdep K hK
                    have c10 := hb.at 4 10 _ rfl
                    obtain ⟨v2, e2, j2⟩ := hdep 2 (by kernel_rfl)
                    replace e2 : a.tmps[85]? = some v2 := e2
                    obtain rfl : v2 = _ := j2
                    clear hdep
                    go_simp
                    exact hK _ _ rfl (Below.refl _ _)
                  · intro a w' hb hdep K hK
                    have c12 := hb.at 5 12 _ rfl
                    obtain ⟨v2, e2, j2⟩ := hdep 2 (by kernel_rfl)
                    replace e2 : a.tmps[85]? = some v2 := e2
                    obtain rfl : v2 = _ := j2
                    clear hdep
                    go_simp
                    exact hK _ _ rfl (Below.refl _ _)
                  · intro a w' hb hdep K hK
                    obtain ⟨v4, e4, j4⟩ := hdep 4 (by kernel_rfl)
                    replace e4 : a.tmps[87]? = some v4 := e4
                    obtain rfl : v4 = _ := j4
                    obtain ⟨v5, e5, j5⟩ := hdep 5 (by kernel_rfl)
                    replace e5 : a.tmps[88]? = some v5 := e5
                    obtain rfl : v5 = _ := j5
                    obtain ⟨v2, e2, j2⟩ := hdep 2 (by kernel_rfl)
                    replace e2 : a.tmps[85]? = some v2 := e2
                    obtain rfl : v2 = _ := j2
                    clear hdep
                    go_simp
                    exact hK _ _ rfl (Below.refl _ _)
                  · intro a w' hb hdep K hK
                    obtain ⟨v3, e3, j3⟩ := hdep 3 (by kernel_rfl)
                    replace e3 : a.tmps[86]? = some v3 := e3
                    obtain rfl : v3 = _ := j3
                    obtain ⟨v6, e6, j6⟩ := hdep 6 (by kernel_rfl)
                    replace e6 : a.tmps[89]? = some v6 := e6
                    obtain rfl : v6 = _ := j6
                    obtain ⟨v2, e2, j2⟩ := hdep 2 (by kernel_rfl)
                    replace e2 : a.tmps[85]? = some v2 := e2
                    obtain rfl : v2 = _ := j2
                    clear hdep
                    go_simp
                    exact hK _ _ rfl (Below.refl _ _)
                  · intro a w' hb hdep K hK
                    obtain ⟨v7, e7, j7⟩ := hdep 7 (by kernel_rfl)
                    replace e7 : a.tmps[90]? = some v7 := e7
                    obtain rfl : v7 = _ := j7
                    obtain ⟨v2, e2, j2⟩ := hdep 2 (by kernel_rfl)
                    replace e2 : a.tmps[85]? = some v2 := e2
                    obtain rfl : v2 = _ := j2
                    clear hdep
                    go_simp
                    exact hK _ _ rfl (Below.refl _ _)
                  · intro a w' hb hdep K hK
                    have c14 := hb.at 6 14 _ rfl
                    obtain ⟨v8, e8, j8⟩ := hdep 8 (by kernel_rfl)
                    replace e8 : a.tmps[91]? = some v8 := e8
                    obtain rfl : v8 = _ := j8
                    clear hdep
                    go_simp
                    exact hK _ _ rfl (Below.refl _ _)
                  · intro a w' hb hdep K hK
                    obtain ⟨v9, e9, j9⟩ := hdep 9 (by kernel_rfl)
                    replace e9 : a.tmps[92]? = some v9 := e9
                    obtain rfl : v9 = _ := j9
                    obtain ⟨v8, e8, j8⟩ := hdep 8 (by kernel_rfl)
                    replace e8 : a.tmps[91]? = some v8 := e8
                    obtain rfl : v8 = _ := j8
                    clear hdep
                    go_simp
                    exact hK _ _ rfl (Below.refl _ _)
                  · intro a w' hb hdep K hK
                    have c8 := hb.at 2 8 _ rfl
                    obtain ⟨v8, e8, j8⟩ := hdep 8 (by kernel_rfl)
                    replace e8 : a.tmps[91]? = some v8 := e8
                    obtain rfl : v8 = _ := j8
                    clear hdep
                    go_simp
                    exact hK _ _ rfl (Below.refl _ _)
                  · intro a w' hb hdep K hK
                    obtain ⟨v10, e10, j10⟩ := hdep 10 (by kernel_rfl)
                    replace e10 : a.tmps[93]? = some v10 := e10
                    obtain rfl : v10 = _ := j10
                    obtain ⟨v11, e11, j11⟩ := hdep 11 (by kernel_rfl)
                    replace e11 : a.tmps[94]? = some v11 := e11
                    obtain rfl : v11 = _ := j11
                    obtain ⟨v8, e8, j8⟩ := hdep 8 (by kernel_rfl)
                    replace e8 : a.tmps[91]? = some v8 := e8
                    obtain rfl : v8 = _ := j8
                    clear hdep
                    go_simp
                    exact hK _ _ rfl (Below.refl _ _)
                  · intro a w' hb hdep K hK
                    obtain ⟨v8, e8, j8⟩ := hdep 8 (by kernel_rfl)
                    replace e8 : a.tmps[91]? = some v8 := e8
                    obtain rfl : v8 = _ := j8
                    obtain ⟨v12, e12, j12⟩ := hdep 12 (by kernel_rfl)
                    replace e12 : a.tmps[95]? = some v12 := e12
                    obtain rfl : v12 = _ := j12
                    obtain ⟨v2, e2, j2⟩ := hdep 2 (by kernel_rfl)
                    replace e2 : a.tmps[85]? = some v2 := e2
                    obtain rfl : v2 = _ := j2
                    clear hdep
                    go_simp
                    exact hK _ _ rfl (Below.refl _ _)
                  · intro a w' hb hdep K hK
                    obtain ⟨v13, e13, j13⟩ := hdep 13 (by kernel_rfl)
                    replace e13 : a.tmps[96]? = some v13 := e13
                    obtain rfl : v13 = _ := j13
                    obtain ⟨v2, e2, j2⟩ := hdep 2 (by kernel_rfl)
                    replace e2 : a.tmps[85]? = some v2 := e2
                    obtain rfl : v2 = _ := j2
                    clear hdep
                    go_simp
                    exact hK _ _ rfl (Below.refl _ _)
                  · intro a w' hb hdep K hK
                    have c14 := hb.at 6 14 _ rfl
                    obtain ⟨v14, e14, j14⟩ := hdep 14 (by kernel_rfl)
                    replace e14 : a.tmps[97]? = some v14 := e14
                    obtain rfl : v14 = _ := j14
                    clear hdep
                    go_simp
                    exact hK _ _ rfl (Below.refl _ _)
                  · intro a w' hb hdep K hK
                    obtain ⟨v15, e15, j15⟩ := hdep 15 (by kernel_rfl)
                    replace e15 : a.tmps[98]? = some v15 := e15
                    obtain rfl : v15 = _ := j15
                    obtain ⟨v14, e14, j14⟩ := hdep 14 (by kernel_rfl)
                    replace e14 : a.tmps[97]? = some v14 := e14
                    obtain rfl : v14 = _ := j14
                    clear hdep
                    go_simp
                    exact hK _ _ rfl (Below.refl _ _)
                  · intro a w' hb hdep K hK
                    obtain ⟨v16, e16, j16⟩ := hdep 16 (by kernel_rfl)
                    replace e16 : a.tmps[99]? = some v16 := e16
                    obtain rfl : v16 = _ := j16
                    obtain ⟨v14, e14, j14⟩ := hdep 14 (by kernel_rfl)
                    replace e14 : a.tmps[97]? = some v14 := e14
                    obtain rfl : v14 = _ := j14
                    clear hdep
                    go_simp
                    exact hK _ _ rfl (Below.refl _ _)
                  · intro a w' hb hdep K hK
                    have c7 := hb.at 1 7 _ rfl
                    obtain ⟨v14, e14, j14⟩ := hdep 14 (by kernel_rfl)
                    replace e14 : a.tmps[97]? = some v14 := e14
                    obtain rfl : v14 = _ := j14
                    clear hdep
                    go_simp
                    exact hK _ _ rfl (Below.refl _ _)
                  · intro a w' hb hdep K hK
                    obtain ⟨v18, e18, j18⟩ := hdep 18 (by kernel_rfl)
                    replace e18 : a.tmps[101]? = some v18 := e18
                    obtain rfl : v18 = _ := j18
                    obtain ⟨v14, e14, j14⟩ := hdep 14 (by kernel_rfl)
                    replace e14 : a.tmps[97]? = some v14 := e14
                    obtain rfl : v14 = _ := j14
                    clear hdep
                    go_simp
                    exact hK _ _ rfl (Below.refl _ _)
                  · intro a w' hb hdep K hK
                    obtain ⟨v17, e17, j17⟩ := hdep 17 (by kernel_rfl)
                    replace e17 : a.tmps[100]? = some v17 := e17
                    obtain rfl : v17 = _ := j17
                    obtain ⟨v19, e19, j19⟩ := hdep 19 (by kernel_rfl)
                    replace e19 : a.tmps[102]? = some v19 := e19
                    obtain rfl : v19 = _ := j19
                    obtain ⟨v14, e14, j14⟩ := hdep 14 (by kernel_rfl)
                    replace e14 : a.tmps[97]? = some v14 := e14
                    obtain rfl : v14 = _ := j14
                    clear hdep
                    go_simp
                    exact hK _ _ rfl (Below.refl _ _)
                  · intro a w' hb hdep K hK
                    obtain ⟨v14, e14, j14⟩ := hdep 14 (by kernel_rfl)
                    replace e14 : a.tmps[97]? = some v14 := e14
                    obtain rfl : v14 = _ := j14
                    obtain ⟨v20, e20, j20⟩ := hdep 20 (by kernel_rfl)
                    replace e20 : a.tmps[103]? = some v20 := e20
                    obtain rfl : v20 = _ := j20
                    obtain ⟨v2, e2, j2⟩ := hdep 2 (by kernel_rfl)
                    replace e2 : a.tmps[85]? = some v2 := e2
                    obtain rfl : v2 = _ := j2
                    clear hdep
                    go_simp
                    exact hK _ _ rfl (Below.refl _ _)
                  · intro a w' hb hdep K hK
                    obtain ⟨v2, e2, j2⟩ := hdep 2 (by kernel_rfl)
                    replace e2 : a.tmps[85]? = some v2 := e2
                    obtain rfl : v2 = _ := j2
                    obtain ⟨v21, e21, j21⟩ := hdep 21 (by kernel_rfl)
                    replace e21 : a.tmps[104]? = some v21 := e21
                    obtain rfl : v21 = _ := j21
                    clear hdep
                    go_simp
                    exact hK _ _ rfl (Below.refl _ _)
                  · intro a w' hb hdep K hK
                    obtain ⟨v22, e22, j22⟩ := hdep 22 (by kernel_rfl)
                    replace e22 : a.tmps[105]? = some v22 := e22
                    obtain rfl : v22 = _ := j22
                    clear hdep
                    go_simp
                    exact hK _ _ rfl (Below.refl _ _)
                  · intro a w' hb hdep K hK
                    have c3 := hb.at 0 3 _ rfl
                    obtain ⟨v23, e23, j23⟩ := hdep 23 (by kernel_rfl)
                    replace e23 : a.tmps[106]? = some v23 := e23
                    obtain rfl : v23 = _ := j23
                    clear hdep
                    refine wanted_row 23 true rfl 106 rfl (by assumption) 23 _ rfl w.heap.size (by simp [Act.eval, c3]) 23 (lg l) (0, 0) _ (heap_on hb.bel HG10.out) Try.underlying23 rfl (lngIk h) ?_
                    exact hK _ _ rfl (Below.refl _ _)
                  · intro a w' hb hdep K hK
                    obtain ⟨v24, e24, j24⟩ := hdep 24 (by kernel_rfl)
                    replace e24 : a.tmps[107]? = some v24 := e24
                    obtain rfl : v24 = _ := j24
                    obtain ⟨v23, e23, j23⟩ := hdep 23 (by kernel_rfl)
                    replace e23 : a.tmps[106]? = some v23 := e23
                    obtain rfl : v23 = _ := j23
                    clear hdep
                    go_simp
                    go_at_call 23
                    refine (HV.out w').mono ?_
                    rintro e w20 ⟨rfl, hb20⟩
                    exact hK _ _ rfl hb20
                  · intro a w' hb hdep K hK
                    obtain ⟨v25, e25, j25⟩ := hdep 25 (by kernel_rfl)
                    replace e25 : a.tmps[108]? = some v25 := e25
                    obtain rfl : v25 = _ := j25
                    obtain ⟨v23, e23, j23⟩ := hdep 23 (by kernel_rfl)
                    replace e23 : a.tmps[106]? = some v23 := e23
                    obtain rfl : v23 = _ := j23
                    clear hdep
                    go_simp
                    exact hK _ _ rfl (Below.refl _ _)
                  · intro a w' hb hdep K hK
                    have c9 := hb.at 3 9 _ rfl
                    obtain ⟨v26, e26, j26⟩ := hdep 26 (by kernel_rfl)
                    replace e26 : a.tmps[109]? = some v26 := e26
                    obtain rfl : v26 = _ := j26
                    clear hdep
                    go_simp
                    exact hK _ _ rfl (Below.refl _ _)
                  · intro a w' hb hdep K hK
                    obtain ⟨v27, e27, j27⟩ := hdep 27 (by kernel_rfl)
                    replace e27 : a.tmps[110]? = some v27 := e27
                    obtain rfl : v27 = _ := j27
                    obtain ⟨v26, e26, j26⟩ := hdep 26 (by kernel_rfl)
                    replace e26 : a.tmps[109]? = some v26 := e26
                    obtain rfl : v26 = _ := j26
                    clear hdep
                    go_simp
                    exact hK _ _ rfl (Below.refl _ _)
                  · intro a w' hb hdep K hK
                    obtain ⟨v26, e26, j26⟩ := hdep 26 (by kernel_rfl)
                    replace e26 : a.tmps[109]? = some v26 := e26
                    obtain rfl : v26 = _ := j26
                    obtain ⟨v28, e28, j28⟩ := hdep 28 (by kernel_rfl)
                    replace e28 : a.tmps[111]? = some v28 := e28
                    obtain rfl : v28 = _ := j28
                    obtain ⟨v23, e23, j23⟩ := hdep 23 (by kernel_rfl)
                    replace e23 : a.tmps[106]? = some v23 := e23
                    obtain rfl : v23 = _ := j23
                    clear hdep
                    go_simp
                    exact hK _ _ rfl (Below.refl _ _)
                  · intro a w' hb hdep K hK
                    obtain ⟨v23, e23, j23⟩ := hdep 23 (by kernel_rfl)
                    replace e23 : a.tmps[106]? = some v23 := e23
                    obtain rfl : v23 = _ := j23
                    obtain ⟨v29, e29, j29⟩ := hdep 29 (by kernel_rfl)
                    replace e29 : a.tmps[112]? = some v29 := e29
                    obtain rfl : v29 = _ := j29
                    clear hdep
                    go_simp
                    exact hK _ _ rfl (Below.refl _ _)
                  · intro a w' hb hdep K hK
                    obtain ⟨v30, e30, j30⟩ := hdep 30 (by kernel_rfl)
                    replace e30 : a.tmps[113]? = some v30 := e30
                    obtain rfl : v30 = _ := j30
                    clear hdep
                    go_simp
                    exact hK _ _ rfl (Below.refl _ _)
                  · intro a w' hb hdep K hK
                    obtain ⟨v31, e31, j31⟩ := hdep 31 (by kernel_rfl)
                    replace e31 : a.tmps[114]? = some v31 := e31
                    obtain rfl : v31 = _ := j31
                    clear hdep
                    go_simp
                    go_at_call 7
                    refine (HWK.out w').mono ?_
                    rintro e w20 ⟨rfl, hb20⟩
                    exact hK _ _ rfl hb20
                  · intro a w' hb hdep K hK
                    obtain ⟨v31, e31, j31⟩ := hdep 31 (by kernel_rfl)
                    replace e31 : a.tmps[114]? = some v31 := e31
                    obtain rfl : v31 = _ := j31
                    obtain ⟨v32, e32, j32⟩ := hdep 32 (by kernel_rfl)
                    replace e32 : a.tmps[115]? = some v32 := e32
                    obtain rfl : v32 = _ := j32
                    clear hdep
                    go_simp
                    exact hK _ _ rfl (Below.refl _ _)
                  · intro a w' hb hdep K hK
                    obtain ⟨v33, e33, j33⟩ := hdep 33 (by kernel_rfl)
                    replace e33 : a.tmps[116]? = some v33 := e33
                    obtain rfl : v33 = _ := j33
                    clear hdep
                    go_simp
                    exact hK _ _ rfl (Below.refl _ _)
                · intro a wz hb hall
                  obtain ⟨v, h6, hv⟩ := hall 34 (by decide)
                  obtain rfl : v = .bool true := hv
                  have HBB := Lib.hid (HB10.out.trans (hb.bel.mono HB10.out.size))
                  have hd := hb.defers
                  clear hall hb
                  go_wp2
                  replace h6 : a.tmps[6]? = some (.bool true) := h6
                  exact bodyPost_ret (v := .bool true) (by simp [results, Try.results6, go_sem, h6]) hd ⟨rfl, HBB.out⟩
            | false =>
              obtain rfl : E1 = 2 := by rw [e5, (spR_no hc1).2]
              have hb2 : (E2 != E2) = false := by simp
              clear e5 e6 hsplit hc1
              cases V with
              | true =>
                go_upto_region 14 with fail
                refine wp_region_inv (J := Js [eqv (.int .i64 2), eqv (.bool true), eqv (.bool true), eqv undef, eqv undef, eqv undef, eqv undef, eqv undef, eqv undef, eqv undef, eqv undef, eqv undef, eqv undef, eqv undef, eqv undef, eqv undef, eqv undef, eqv undef, eqv undef, eqv undef, eqv undef, eqv undef, eqv (.bool true), eqv (.bool true), eqv (.agg (lg l)), eqv (.bool true), eqv (.bool true), eqv undef, eqv undef, eqv (.bool true), eqv (.bool true), eqv (.bool true), eqv (.bool true), eqv (.bool true), eqv (.bool true)]) (ds := [83, 84, 85, 86, 87, 88, 89, 90, 91, 92, 93, 94, 95, 96, 97, 98, 99, 100, 101, 102, 103, 104, 105, 106, 107, 108, 109, 110, 111, 112, 113, 114, 115, 116, 6]) (N := 117)
                  (B := [(3, .pointer (some ⟨w.heap.size, 0, none⟩)), (7, .slice a2 nb c2), (8, .int .i64 X), (9, .int .i64 2), (10, .int .i64 Y), (12, .int .i64 Z), (14, .pointer (some ⟨p, 0, none⟩))]) (by kernel_rfl) (by kernel_rfl) (Js_mono ⟨eqv_mono _, eqv_mono _, eqv_mono _, eqv_mono _, eqv_mono _, eqv_mono _, eqv_mono _, eqv_mono _, eqv_mono _, eqv_mono _, eqv_mono _, eqv_mono _, eqv_mono _, eqv_mono _, eqv_mono _, eqv_mono _, eqv_mono _, eqv_mono _, eqv_mono _, eqv_mono _, eqv_mono _, eqv_mono _, eqv_mono _, eqv_mono _, eqv_mono _, eqv_mono _, eqv_mono _, eqv_mono _, eqv_mono _, eqv_mono _, eqv_mono _, eqv_mono _, eqv_mono _, eqv_mono _, eqv_mono _, trivial⟩) rfl rfl (by simp) ?_ ?_
                · refine ⟨?_, ?_, ?_, ?_, ?_, ?_, ?_, ?_, ?_, ?_, ?_, ?_, ?_, ?_, ?_, ?_, ?_, ?_, ?_, ?_, ?_, ?_, ?_, ?_, ?_, ?_, ?_, ?_, ?_, ?_, ?_, ?_, ?_, ?_, ?_, trivial⟩
                  · intro a w' hb hdep K hK
                    have c9 := hb.at 3 9 _ rfl
                    clear hdep
                    go_simp
                    exact hK _ _ rfl (Below.refl _ _)
                  · intro a w' hb hdep K hK
                    obtain ⟨v0, e0, j0⟩ := hdep 0 (by kernel_rfl)
                    replace e0 : a.tmps[83]? = some v0 := e0
                    obtain rfl : v0 = _ := j0
                    clear hdep
                    go_simp
                    exact hK _ _ rfl (Below.refl _ _)
                  · intro a w' hb hdep K hK
                    obtain ⟨v1, e1, j1⟩ := hdep 1 (by kernel_rfl)
                    replace e1 : a.tmps[84]? = some v1 := e1
                    obtain rfl : v1 = _ := j1
                    clear hdep
                    go_simp
                    exact hK _ _ rfl (Below.refl _ _)
                  · intro a w' hb hdep K hK
                    have c8 := hb.at 2 8 _ rfl
                    obtain ⟨v2, e2, j2⟩ := hdep 2 (by kernel_rfl)
                    replace e2 : a.tmps[85]? = some v2 := e2
                    obtain rfl : v2 = _ := j2
                    clear hdep
                    go_simp
                    exact hK _ _ rfl (Below.refl _ _)
                  · intro a w' hb hdep K hK
                    have c10 := hb.at 4 10 _ rfl
                    obtain ⟨v2, e2, j2⟩ := hdep 2 (by kernel_rfl)
                    replace e2 : a.tmps[85]? = some v2 := e2
                    obtain rfl : v2 = _ := j2
                    clear hdep
                    go_simp
                    exact hK _ _ rfl (Below.refl _ _)
                  · intro a w' hb hdep K hK
                    have c12 := hb.at 5 12 _ rfl
                    obtain ⟨v2, e2, j2⟩ := hdep 2 (by kernel_rfl)
                    replace e2 : a.tmps[85]? = some v2 := e2
                    obtain rfl : v2 = _ := j2
                    clear hdep
                    go_simp
                    exact hK _ _ rfl (Below.refl _ _)
                  · intro a w' hb hdep K hK
                    obtain ⟨v4, e4, j4⟩ := hdep 4 (by kernel_rfl)
                    replace e4 : a.tmps[87]? = some v4 := e4
                    obtain rfl : v4 = _ := j4
                    obtain ⟨v5, e5, j5⟩ := hdep 5 (by kernel_rfl)
                    replace e5 : a.tmps[88]? = some v5 := e5
                    obtain rfl : v5 = _ := j5
                    obtain ⟨v2, e2, j2⟩ := hdep 2 (by kernel_rfl)
                    replace e2 : a.tmps[85]? = some v2 := e2
                    obtain rfl : v2 = _ := j2
                    clear hdep
                    go_simp
                    exact hK _ _ rfl (Below.refl _ _)
                  · intro a w' hb hdep K hK
                    obtain ⟨v3, e3, j3⟩ := hdep 3 (by kernel_rfl)
                    replace e3 : a.tmps[86]? = some v3 := e3
                    obtain rfl : v3 = _ := j3
                    obtain ⟨v6, e6, j6⟩ := hdep 6 (by kernel_rfl)
                    replace e6 : a.tmps[89]? = some v6 := e6
                    obtain rfl : v6 = _ := j6
                    obtain ⟨v2, e2, j2⟩ := hdep 2 (by kernel_rfl)
                    replace e2 : a.tmps[85]? = some v2 := e2
                    obtain rfl : v2 = _ := j2
                    clear hdep
                    go_simp
                    exact hK _ _ rfl (Below.refl _ _)
                  · intro a w' hb hdep K hK
                    obtain ⟨v7, e7, j7⟩ := hdep 7 (by kernel_rfl)
                    replace e7 : a.tmps[90]? = some v7 := e7
                    obtain rfl : v7 = _ := j7
                    obtain ⟨v2, e2, j2⟩ := hdep 2 (by kernel_rfl)
                    replace e2 : a.tmps[85]? = some v2 := e2
                    obtain rfl : v2 = _ := j2
                    clear hdep
                    go_simp
                    exact hK _ _ rfl (Below.refl _ _)
                  · intro a w' hb hdep K hK
                    have c14 := hb.at 6 14 _ rfl
                    obtain ⟨v8, e8, j8⟩ := hdep 8 (by kernel_rfl)
                    replace e8 : a.tmps[91]? = some v8 := e8
                    obtain rfl : v8 = _ := j8
                    clear hdep
                    go_simp
                    exact hK _ _ rfl (Below.refl _ _)
                  · intro a w' hb hdep K hK
                    obtain ⟨v9, e9, j9⟩ := hdep 9 (by kernel_rfl)
                    replace e9 : a.tmps[92]? = some v9 := e9
                    obtain rfl : v9 = _ := j9
                    obtain ⟨v8, e8, j8⟩ := hdep 8 (by kernel_rfl)
                    replace e8 : a.tmps[91]? = some v8 := e8
                    obtain rfl : v8 = _ := j8
                    clear hdep
                    go_simp
                    exact hK _ _ rfl (Below.refl _ _)
                  · intro a w' hb hdep K hK
                    have c8 := hb.at 2 8 _ rfl
                    obtain ⟨v8, e8, j8⟩ := hdep 8 (by kernel_rfl)
                    replace e8 : a.tmps[91]? = some v8 := e8
                    obtain rfl : v8 = _ := j8
                    clear hdep
                    go_simp
                    exact hK _ _ rfl (Below.refl _ _)
                  · intro a w' hb hdep K hK
                    obtain ⟨v10, e10, j10⟩ := hdep 10 (by kernel_rfl)
                    replace e10 : a.tmps[93]? = some v10 := e10
                    obtain rfl : v10 = _ := j10
                    obtain ⟨v11, e11, j11⟩ := hdep 11 (by kernel_rfl)
                    replace e11 : a.tmps[94]? = some v11 := e11
                    obtain rfl : v11 = _ := j11
                    obtain ⟨v8, e8, j8⟩ := hdep 8 (by kernel_rfl)
                    replace e8 : a.tmps[91]? = some v8 := e8
                    obtain rfl : v8 = _ := j8
                    clear hdep
                    go_simp
                    exact hK _ _ rfl (Below.refl _ _)
                  · intro a w' hb hdep K hK
                    obtain ⟨v8, e8, j8⟩ := hdep 8 (by kernel_rfl)
                    replace e8 : a.tmps[91]? = some v8 := e8
                    obtain rfl : v8 = _ := j8
                    obtain ⟨v12, e12, j12⟩ := hdep 12 (by kernel_rfl)
                    replace e12 : a.tmps[95]? = some v12 := e12
                    obtain rfl : v12 = _ := j12
                    obtain ⟨v2, e2, j2⟩ := hdep 2 (by kernel_rfl)
                    replace e2 : a.tmps[85]? = some v2 := e2
                    obtain rfl : v2 = _ := j2
                    clear hdep
                    go_simp
                    exact hK _ _ rfl (Below.refl _ _)
                  · intro a w' hb hdep K hK
                    obtain ⟨v13, e13, j13⟩ := hdep 13 (by kernel_rfl)
                    replace e13 : a.tmps[96]? = some v13 := e13
                    obtain rfl : v13 = _ := j13
                    obtain ⟨v2, e2, j2⟩ := hdep 2 (by kernel_rfl)
                    replace e2 : a.tmps[85]? = some v2 := e2
                    obtain rfl : v2 = _ := j2
                    clear hdep
                    go_simp
                    exact hK _ _ rfl (Below.refl _ _)
                  · intro a w' hb hdep K hK
                    have c14 := hb.at 6 14 _ rfl
                    obtain ⟨v14, e14, j14⟩ := hdep 14 (by kernel_rfl)
                    replace e14 : a.tmps[97]? = some v14 := e14
                    obtain rfl : v14 = _ := j14
                    clear hdep
                    go_simp
                    exact hK _ _ rfl (Below.refl _ _)
                  · intro a w' hb hdep K hK
                    obtain ⟨v15, e15, j15⟩ := hdep 15 (by kernel_rfl)
                    replace e15 : a.tmps[98]? = some v15 := e15
                    obtain rfl : v15 = _ := j15
                    obtain ⟨v14, e14, j14⟩ := hdep 14 (by kernel_rfl)
                    replace e14 : a.tmps[97]? = some v14 := e14
                    obtain rfl : v14 = _ := j14
                    clear hdep
                    go_simp
                    exact hK _ _ rfl (Below.refl _ _)
                  · intro a w' hb hdep K hK
                    obtain ⟨v16, e16, j16⟩ := hdep 16 (by kernel_rfl)
                    replace e16 : a.tmps[99]? = some v16 := e16
                    obtain rfl : v16 = _ := j16
                    obtain ⟨v14, e14, j14⟩ := hdep 14 (by kernel_rfl)
                    replace e14 : a.tmps[97]? = some v14 := e14
                    obtain rfl : v14 = _ := j14
                    clear hdep
                    go_simp
                    exact hK _ _ rfl (Below.refl _ _)
                  · intro a w' hb hdep K hK
                    have c7 := hb.at 1 7 _ rfl
                    obtain ⟨v14, e14, j14⟩ := hdep 14 (by kernel_rfl)
                    replace e14 : a.tmps[97]? = some v14 := e14
                    obtain rfl : v14 = _ := j14
                    clear hdep
                    go_simp
                    exact hK _ _ rfl (Below.refl _ _)
                  · intro a w' hb hdep K hK
                    obtain ⟨v18, e18, j18⟩ := hdep 18 (by kernel_rfl)
                    replace e18 : a.tmps[101]? = some v18 := e18
                    obtain rfl : v18 = _ := j18
                    obtain ⟨v14, e14, j14⟩ := hdep 14 (by kernel_rfl)
                    replace e14 : a.tmps[97]? = some v14 := e14
                    obtain rfl : v14 = _ := j14
                    clear hdep
                    go_simp
                    exact hK _ _ rfl (Below.refl _ _)
                  · intro a w' hb hdep K hK
                    obtain ⟨v17, e17, j17⟩ := hdep 17 (by kernel_rfl)
                    replace e17 : a.tmps[100]? = some v17 := e17
                    obtain rfl : v17 = _ := j17
                    obtain ⟨v19, e19, j19⟩ := hdep 19 (by kernel_rfl)
                    replace e19 : a.tmps[102]? = some v19 := e19
                    obtain rfl : v19 = _ := j19
                    obtain ⟨v14, e14, j14⟩ := hdep 14 (by kernel_rfl)
                    replace e14 : a.tmps[97]? = some v14 := e14
                    obtain rfl : v14 = _ := j14
                    clear hdep
                    go_simp
                    exact hK _ _ rfl (Below.refl _ _)
                  · intro a w' hb hdep K hK
                    obtain ⟨v14, e14, j14⟩ := hdep 14 (by kernel_rfl)
                    replace e14 : a.tmps[97]? = some v14 := e14
                    obtain rfl : v14 = _ := j14
                    obtain ⟨v20, e20, j20⟩ := hdep 20 (by kernel_rfl)
                    replace e20 : a.tmps[103]? = some v20 := e20
                    obtain rfl : v20 = _ := j20
                    obtain ⟨v2, e2, j2⟩ := hdep 2 (by kernel_rfl)
                    replace e2 : a.tmps[85]? = some v2 := e2
                    obtain rfl : v2 = _ := j2
                    clear hdep
                    go_simp
                    exact hK _ _ rfl (Below.refl _ _)
                  · intro a w' hb hdep K hK
                    obtain ⟨v2, e2, j2⟩ := hdep 2 (by kernel_rfl)
                    replace e2 : a.tmps[85]? = some v2 := e2
                    obtain rfl : v2 = _ := j2
                    obtain ⟨v21, e21, j21⟩ := hdep 21 (by kernel_rfl)
                    replace e21 : a.tmps[104]? = some v21 := e21
                    obtain rfl : v21 = _ := j21
                    clear hdep
                    go_simp
                    exact hK _ _ rfl (Below.refl _ _)
                  · intro a w' hb hdep K hK
                    obtain ⟨v22, e22, j22⟩ := hdep 22 (by kernel_rfl)
                    replace e22 : a.tmps[105]? = some v22 := e22
                    obtain rfl : v22 = _ := j22
                    clear hdep
                    go_simp
                    exact hK _ _ rfl (Below.refl _ _)
                  · intro a w' hb hdep K hK
                    have c3 := hb.at 0 3 _ rfl
                    obtain ⟨v23, e23, j23⟩ := hdep 23 (by kernel_rfl)
                    replace e23 : a.tmps[106]? = some v23 := e23
                    obtain rfl : v23 = _ := j23
                    clear hdep
                    refine wanted_row 23 true rfl 106 rfl (by assumption) 23 _ rfl w.heap.size (by simp [Act.eval, c3]) 23 (lg l) (0, 0) _ (heap_on hb.bel HG10.out) Try.underlying23 rfl (lngIk h) ?_
                    exact hK _ _ rfl (Below.refl _ _)
                  · intro a w' hb hdep K hK
                    obtain ⟨v24, e24, j24⟩ := hdep 24 (by kernel_rfl)
                    replace e24 : a.tmps[107]? = some v24 := e24
                    obtain rfl : v24 = _ := j24
                    obtain ⟨v23, e23, j23⟩ := hdep 23 (by kernel_rfl)
                    replace e23 : a.tmps[106]? = some v23 := e23
                    obtain rfl : v23 = _ := j23
                    clear hdep
                    go_simp
                    go_at_call 23
                    refine (HV.out w').mono ?_
                    rintro e w20 ⟨rfl, hb20⟩
                    exact hK _ _ rfl hb20
                  · intro a w' hb hdep K hK
                    obtain ⟨v25, e25, j25⟩ := hdep 25 (by kernel_rfl)
                    replace e25 : a.tmps[108]? = some v25 := e25
                    obtain rfl : v25 = _ := j25
                    obtain ⟨v23, e23, j23⟩ := hdep 23 (by kernel_rfl)
                    replace e23 : a.tmps[106]? = some v23 := e23
                    obtain rfl : v23 = _ := j23
                    clear hdep
                    go_simp
                    exact hK _ _ rfl (Below.refl _ _)
                  · intro a w' hb hdep K hK
                    have c9 := hb.at 3 9 _ rfl
                    obtain ⟨v26, e26, j26⟩ := hdep 26 (by kernel_rfl)
                    replace e26 : a.tmps[109]? = some v26 := e26
                    obtain rfl : v26 = _ := j26
                    clear hdep
                    go_simp
                    exact hK _ _ rfl (Below.refl _ _)
                  · intro a w' hb hdep K hK
                    obtain ⟨v27, e27, j27⟩ := hdep 27 (by kernel_rfl)
                    replace e27 : a.tmps[110]? = some v27 := e27
                    obtain rfl : v27 = _ := j27
                    obtain ⟨v26, e26, j26⟩ := hdep 26 (by kernel_rfl)
                    replace e26 : a.tmps[109]? = some v26 := e26
                    obtain rfl : v26 = _ := j26
                    clear hdep
                    go_simp
                    exact hK _ _ rfl (Below.refl _ _)
                  · intro a w' hb hdep K hK
                    obtain ⟨v26, e26, j26⟩ := hdep 26 (by kernel_rfl)
                    replace e26 : a.tmps[109]? = some v26 := e26
                    obtain rfl : v26 = _ := j26
                    obtain ⟨v28, e28, j28⟩ := hdep 28 (by kernel_rfl)
                    replace e28 : a.tmps[111]? = some v28 := e28
                    obtain rfl : v28 = _ := j28
                    obtain ⟨v23, e23, j23⟩ := hdep 23 (by kernel_rfl)
                    replace e23 : a.tmps[106]? = some v23 := e23
                    obtain rfl : v23 = _ := j23
                    clear hdep
                    go_simp
                    exact hK _ _ rfl (Below.refl _ _)
                  · intro a w' hb hdep K hK
                    obtain ⟨v23, e23, j23⟩ := hdep 23 (by kernel_rfl)
                    replace e23 : a.tmps[106]? = some v23 := e23
                    obtain rfl : v23 = _ := j23
                    obtain ⟨v29, e29, j29⟩ := hdep 29 (by kernel_rfl)
                    replace e29 : a.tmps[112]? = some v29 := e29
                    obtain rfl : v29 = _ := j29
                    clear hdep
                    go_simp
                    exact hK _ _ rfl (Below.refl _ _)
                  · intro a w' hb hdep K hK
                    obtain ⟨v30, e30, j30⟩ := hdep 30 (by kernel_rfl)
                    replace e30 : a.tmps[113]? = some v30 := e30
                    obtain rfl : v30 = _ := j30
                    clear hdep
                    go_simp
                    exact hK _ _ rfl (Below.refl _ _)
                  · intro a w' hb hdep K hK
                    obtain ⟨v31, e31, j31⟩ := hdep 31 (by kernel_rfl)
                    replace e31 : a.tmps[114]? = some v31 := e31
                    obtain rfl : v31 = _ := j31
                    clear hdep
                    go_simp
                    go_at_call 7
                    refine (HWK.out w').mono ?_
                    rintro e w20 ⟨rfl, hb20⟩
                    exact hK _ _ rfl hb20
                  · intro a w' hb hdep K hK
                    obtain ⟨v31, e31, j31⟩ := hdep 31 (by kernel_rfl)
                    replace e31 : a.tmps[114]? = some v31 := e31
                    obtain rfl : v31 = _ := j31
                    obtain ⟨v32, e32, j32⟩ := hdep 32 (by kernel_rfl)
                    replace e32 : a.tmps[115]? = some v32 := e32
                    obtain rfl : v32 = _ := j32
                    clear hdep
                    go_simp
                    exact hK _ _ rfl (Below.refl _ _)
                  · intro a w' hb hdep K hK
                    obtain ⟨v33, e33, j33⟩ := hdep 33 (by kernel_rfl)
                    replace e33 : a.tmps[116]? = some v33 := e33
                    obtain rfl : v33 = _ := j33
                    clear hdep
                    go_simp
                    exact hK _ _ rfl (Below.refl _ _)
                · intro a wz hb hall
                  obtain ⟨v, h6, hv⟩ := hall 34 (by decide)
                  obtain rfl : v = .bool true := hv
                  have HBB := Lib.hid (HB10.out.trans (hb.bel.mono HB10.out.size))
                  have hd := hb.defers
                  clear hall hb
                  go_wp2
                  replace h6 : a.tmps[6]? = some (.bool true) := h6
                  exact bodyPost_ret (v := .bool true) (by simp [results, Try.results6, go_sem, h6]) hd ⟨rfl, HBB.out⟩
              | false =>
                go_upto_region 14 with fail
                refine wp_region_inv (J := Js [eqv (.int .i64 2), eqv (.bool true), eqv (.bool true), eqv undef, eqv undef, eqv undef, eqv undef, eqv undef, eqv undef, eqv undef, eqv undef, eqv undef, eqv undef, eqv undef, eqv undef, eqv undef, eqv undef, eqv undef, eqv undef, eqv undef, eqv undef, eqv undef, eqv (.bool true), eqv (.bool true), eqv (.agg (lg l)), eqv (.bool false), eqv (.bool false), eqv (.int .i64 2), eqv (.bool true), eqv (.bool true), eqv (.bool true), eqv (.bool true), eqv (.bool true), eqv (.bool true), eqv (.bool true)]) (ds := [83, 84, 85, 86, 87, 88, 89, 90, 91, 92, 93, 94, 95, 96, 97, 98, 99, 100, 101, 102, 103, 104, 105, 106, 107, 108, 109, 110, 111, 112, 113, 114, 115, 116, 6]) (N := 117)
                  (B := [(3, .pointer (some ⟨w.heap.size, 0, none⟩)), (7, .slice a2 nb c2), (8, .int .i64 X), (9, .int .i64 2), (10, .int .i64 Y), (12, .int .i64 Z), (14, .pointer (some ⟨p, 0, none⟩))]) (by kernel_rfl) (by kernel_rfl) (Js_mono ⟨eqv_mono _, eqv_mono _, eqv_mono _, eqv_mono _, eqv_mono _, eqv_mono _, eqv_mono _, eqv_mono _, eqv_mono _, eqv_mono _, eqv_mono _, eqv_mono _, eqv_mono _, eqv_mono _, eqv_mono _, eqv_mono _, eqv_mono _, eqv_mono _, eqv_mono _, eqv_mono _, eqv_mono _, eqv_mono _, eqv_mono _, eqv_mono _, eqv_mono _, eqv_mono _, eqv_mono _, eqv_mono _, eqv_mono _, eqv_mono _, eqv_mono _, eqv_mono _, eqv_mono _, eqv_mono _, eqv_mono _, trivial⟩) rfl rfl (by simp) ?_ ?_
                · refine ⟨?_, ?_, ?_, ?_, ?_, ?_, ?_, ?_, ?_, ?_, ?_, ?_, ?_, ?_, ?_, ?_, ?_, ?_, ?_, ?_, ?_, ?_, ?_, ?_, ?_, ?_, ?_, ?_, ?_, ?_, ?_, ?_, ?_, ?_, ?_, trivial⟩
                  · intro a w' hb hdep K hK
                    have c9 := hb.at 3 9 _ rfl
                    clear hdep
                    go_simp
                    exact hK _ _ rfl (Below.refl _ _)
                  · intro a w' hb hdep K hK
                    obtain ⟨v0, e0, j0⟩ := hdep 0 (by kernel_rfl)
                    replace e0 : a.tmps[83]? = some v0 := e0
                    obtain rfl : v0 = _ := j0
                    clear hdep
                    go_simp
                    exact hK _ _ rfl (Below.refl _ _)
                  · intro a w' hb hdep K hK
                    obtain ⟨v1, e1, j1⟩ := hdep 1 (by kernel_rfl)
                    replace e1 : a.tmps[84]? = some v1 := e1
                    obtain rfl : v1 = _ := j1
                    clear hdep
                    go_simp
                    exact hK _ _ rfl (Below.refl _ _)
                  · intro a w' hb hdep K hK
                    have c8 := hb.at 2 8 _ rfl
                    obtain ⟨v2, e2, j2⟩ := hdep 2 (by kernel_rfl)
                    replace e2 : a.tmps[85]? = some v2 := e2
                    obtain rfl : v2 = _ := j2
                    clear hdep
                    go_simp
                    exact hK _ _ rfl (Below.refl _ _)
                  · intro a w' hb hdep K hK
                    have c10 := hb.at 4 10 _ rfl
                    obtain ⟨v2, e2, j2⟩ := hdep 2 (by kernel_rfl)
                    replace e2 : a.tmps[85]? = some v2 := e2
                    obtain rfl : v2 = _ := j2
                    clear hdep
                    go_simp
                    exact hK _ _ rfl (Below.refl _ _)
                  · intro a w' hb hdep K hK
                    have c12 := hb.at 5 12 _ rfl
                    obtain ⟨v2, e2, j2⟩ := hdep 2 (by kernel_rfl)
                    replace e2 : a.tmps[85]? = some v2 := e2
                    obtain rfl : v2 = _ := j2
                    clear hdep
                    go_simp
                    exact hK _ _ rfl (Below.refl _ _)
                  · intro a w' hb hdep K hK
                    obtain ⟨v4, e4, j4⟩ := hdep 4 (by kernel_rfl)
                    replace e4 : a.tmps[87]? = some v4 := e4
                    obtain rfl : v4 = _ := j4
                    obtain ⟨v5, e5, j5⟩ := hdep 5 (by kernel_rfl)
                    replace e5 : a.tmps[88]? = some v5 := e5
                    obtain rfl : v5 = _ := j5
                    obtain ⟨v2, e2, j2⟩ := hdep 2 (by kernel_rfl)
                    replace e2 : a.tmps[85]? = some v2 := e2
                    obtain rfl : v2 = _ := j2
                    clear hdep
                    go_simp
                    exact hK _ _ rfl (Below.refl _ _)
                  · intro a w' hb hdep K hK
                    obtain ⟨v3, e3, j3⟩ := hdep 3 (by kernel_rfl)
                    replace e3 : a.tmps[86]? = some v3 := e3
                    obtain rfl : v3 = _ := j3
                    obtain ⟨v6, e6, j6⟩ := hdep 6 (by kernel_rfl)
                    replace e6 : a.tmps[89]? = some v6 := e6
                    obtain rfl : v6 = _ := j6
                    obtain ⟨v2, e2, j2⟩ := hdep 2 (by kernel_rfl)
                    replace e2 : a.tmps[85]? = some v2 := e2
                    obtain rfl : v2 = _ := j2
                    clear hdep
                    go_simp
                    exact hK _ _ rfl (Below.refl _ _)
                  · intro a w' hb hdep K hK
                    obtain ⟨v7, e7, j7⟩ := hdep 7 (by kernel_rfl)
                    replace e7 : a.tmps[90]? = some v7 := e7
                    obtain rfl : v7 = _ := j7
                    obtain ⟨v2, e2, j2⟩ := hdep 2 (by kernel_rfl)
                    replace e2 : a.tmps[85]? = some v2 := e2
                    obtain rfl : v2 = _ := j2
                    clear hdep
                    go_simp
                    exact hK _ _ rfl (Below.refl _ _)
                  · intro a w' hb hdep K hK
                    have c14 := hb.at 6 14 _ rfl
                    obtain ⟨v8, e8, j8⟩ := hdep 8 (by kernel_rfl)
                    replace e8 : a.tmps[91]? = some v8 := e8
                    obtain rfl : v8 = _ := j8
                    clear hdep
                    go_simp
                    exact hK _ _ rfl (Below.refl _ _)
                  · intro a w' hb hdep K hK
                    obtain ⟨v9, e9, j9⟩ := hdep 9 (by kernel_rfl)
                    replace e9 : a.tmps[92]? = some v9 := e9
                    obtain rfl : v9 = _ := j9
                    obtain ⟨v8, e8, j8⟩ := hdep 8 (by kernel_rfl)
                    replace e8 : a.tmps[91]? = some v8 := e8
                    obtain rfl : v8 = _ := j8
                    clear hdep
                    go_simp
                    exact hK _ _ rfl (Below.refl _ _)
                  · intro a w' hb hdep K hK
                    have c8 := hb.at 2 8 _ rfl
                    obtain ⟨v8, e8, j8⟩ := hdep 8 (by kernel_rfl)
                    replace e8 : a.tmps[91]? = some v8 := e8
                    obtain rfl : v8 = _ := j8
                    clear hdep
                    go_simp
                    exact hK _ _ rfl (Below.refl _ _)
                  · intro a w' hb hdep K hK
                    obtain ⟨v10, e10, j10⟩ := hdep 10 (by kernel_rfl)
                    replace e10 : a.tmps[93]? = some v10 := e10
                    obtain rfl : v10 = _ := j10
                    obtain ⟨v11, e11, j11⟩ := hdep 11 (by kernel_rfl)
                    replace e11 : a.tmps[94]? = some v11 := e11
                    obtain rfl : v11 = _ := j11
                    obtain ⟨v8, e8, j8⟩ := hdep 8 (by kernel_rfl)
                    replace e8 : a.tmps[91]? = some v8 := e8
                    obtain rfl : v8 = _ := j8
                    clear hdep
                    go_simp
                    exact hK _ _ rfl (Below.refl _ _)
                  · intro a w' hb hdep K hK
                    obtain ⟨v8, e8, j8⟩ := hdep 8 (by kernel_rfl)
                    replace e8 : a.tmps[91]? = some v8 := e8
                    obtain rfl : v8 = _ := j8
                    obtain ⟨v12, e12, j12⟩ := hdep 12 (by kernel_rfl)
                    replace e12 : a.tmps[95]? = some v12 := e12
                    obtain rfl : v12 = _ := j12
                    obtain ⟨v2, e2, j2⟩ := hdep 2 (by kernel_rfl)
                    replace e2 : a.tmps[85]? = some v2 := e2
                    obtain rfl : v2 = _ := j2
                    clear hdep
                    go_simp
                    exact hK _ _ rfl (Below.refl _ _)
                  · intro a w' hb hdep K hK
                    obtain ⟨v13, e13, j13⟩ := hdep 13 (by kernel_rfl)
                    replace e13 : a.tmps[96]? = some v13 := e13
                    obtain rfl : v13 = _ := j13
                    obtain ⟨v2, e2, j2⟩ := hdep 2 (by kernel_rfl)
                    replace e2 : a.tmps[85]? = some v2 := e2
                    obtain rfl : v2 = _ := j2
                    clear hdep
                    go_simp
                    exact hK _ _ rfl (Below.refl _ _)
                  · intro a w' hb hdep K hK
                    have c14 := hb.at 6 14 _ rfl
                    obtain ⟨v14, e14, j14⟩ := hdep 14 (by kernel_rfl)
                    replace e14 : a.tmps[97]? = some v14 := e14
                    obtain rfl : v14 = _ := j14
                    clear hdep
                    go_simp
                    exact hK _ _ rfl (Below.refl _ _)
                  · intro a w' hb hdep K hK
                    obtain ⟨v15, e15, j15⟩ := hdep 15 (by kernel_rfl)
                    replace e15 : a.tmps[98]? = some v15 := e15
                    obtain rfl : v15 = _ := j15
                    obtain ⟨v14, e14, j14⟩ := hdep 14 (by kernel_rfl)
                    replace e14 : a.tmps[97]? = some v14 := e14
                    obtain rfl : v14 = _ := j14
                    clear hdep
                    go_simp
                    exact hK _ _ rfl (Below.refl _ _)
                  · intro a w' hb hdep K hK
                    obtain ⟨v16, e16, j16⟩ := hdep 16 (by kernel_rfl)
                    replace e16 : a.tmps[99]? = some v16 := e16
                    obtain rfl : v16 = _ := j16
                    obtain ⟨v14, e14, j14⟩ := hdep 14 (by kernel_rfl)
                    replace e14 : a.tmps[97]? = some v14 := e14
                    obtain rfl : v14 = _ := j14
                    clear hdep
                    go_simp
                    exact hK _ _ rfl (Below.refl _ _)
                  · intro a w' hb hdep K hK
                    have c7 := hb.at 1 7 _ rfl
                    obtain ⟨v14, e14, j14⟩ := hdep 14 (by kernel_rfl)
                    replace e14 : a.tmps[97]? = some v14 := e14
                    obtain rfl : v14 = _ := j14
                    clear hdep
                    go_simp
                    exact hK _ _ rfl (Below.refl _ _)
                  · intro a w' hb hdep K hK
                    obtain ⟨v18, e18, j18⟩ := hdep 18 (by kernel_rfl)
                    replace e18 : a.tmps[101]? = some v18 := e18
                    obtain rfl : v18 = _ := j18
                    obtain ⟨v14, e14, j14⟩ := hdep 14 (by kernel_rfl)
                    replace e14 : a.tmps[97]? = some v14 := e14
                    obtain rfl : v14 = _ := j14
                    clear hdep
                    go_simp
                    exact hK _ _ rfl (Below.refl _ _)
                  · intro a w' hb hdep K hK
                    obtain ⟨v17, e17, j17⟩ := hdep 17 (by kernel_rfl)
                    replace e17 : a.tmps[100]? = some v17 := e17
                    obtain rfl : v17 = _ := j17
                    obtain ⟨v19, e19, j19⟩ := hdep 19 (by kernel_rfl)
                    replace e19 : a.tmps[102]? = some v19 := e19
                    obtain rfl : v19 = _ := j19
                    obtain ⟨v14, e14, j14⟩ := hdep 14 (by kernel_rfl)
                    replace e14 : a.tmps[97]? = some v14 := e14
                    obtain rfl : v14 = _ := j14
                    clear hdep
                    go_simp
                    exact hK _ _ rfl (Below.refl _ _)
                  · intro a w' hb hdep K hK
                    obtain ⟨v14, e14, j14⟩ := hdep 14 (by kernel_rfl)
                    replace e14 : a.tmps[97]? = some v14 := e14
                    obtain rfl : v14 = _ := j14
                    obtain ⟨v20, e20, j20⟩ := hdep 20 (by kernel_rfl)
                    replace e20 : a.tmps[103]? = some v20 := e20
                    obtain rfl : v20 = _ := j20
                    obtain ⟨v2, e2, j2⟩ := hdep 2 (by kernel_rfl)
                    replace e2 : a.tmps[85]? = some v2 := e2
                    obtain rfl : v2 = _ := j2
                    clear hdep
                    go_simp
                    exact hK _ _ rfl (Below.refl _ _)
                  · intro a w' hb hdep K hK
                    obtain ⟨v2, e2, j2⟩ := hdep 2 (by kernel_rfl)
                    replace e2 : a.tmps[85]? = some v2 := e2
                    obtain rfl : v2 = _ := j2
                    obtain ⟨v21, e21, j21⟩ := hdep 21 (by kernel_rfl)
                    replace e21 : a.tmps[104]? = some v21 := e21
                    obtain rfl : v21 = _ := j21
                    clear hdep
                    go_simp
                    exact hK _ _ rfl (Below.refl _ _)
                  · intro a w' hb hdep K hK
                    obtain ⟨v22, e22, j22⟩ := hdep 22 (by kernel_rfl)
                    replace e22 : a.tmps[105]? = some v22 := e22
                    obtain rfl : v22 = _ := j22
                    clear hdep
                    go_simp
                    exact hK _ _ rfl (Below.refl _ _)
                  · intro a w' hb hdep K hK
                    have c3 := hb.at 0 3 _ rfl
                    obtain ⟨v23, e23, j23⟩ := hdep 23 (by kernel_rfl)
                    replace e23 : a.tmps[106]? = some v23 := e23
                    obtain rfl : v23 = _ := j23
                    clear hdep
                    refine wanted_row 23 true rfl 106 rfl (by assumption) 23 _ rfl w.heap.size (by simp [Act.eval, c3]) 23 (lg l) (0, 0) _ (heap_on hb.bel HG10.out) Try.underlying23 rfl (lngIk h) ?_
                    exact hK _ _ rfl (Below.refl _ _)
                  · intro a w' hb hdep K hK
                    obtain ⟨v24, e24, j24⟩ := hdep 24 (by kernel_rfl)
                    replace e24 : a.tmps[107]? = some v24 := e24
                    obtain rfl : v24 = _ := j24
                    obtain ⟨v23, e23, j23⟩ := hdep 23 (by kernel_rfl)
                    replace e23 : a.tmps[106]? = some v23 := e23
                    obtain rfl : v23 = _ := j23
                    clear hdep
                    go_simp
                    go_at_call 23
                    refine (HV.out w').mono ?_
                    rintro e w20 ⟨rfl, hb20⟩
                    exact hK _ _ rfl hb20
                  · intro a w' hb hdep K hK
                    obtain ⟨v25, e25, j25⟩ := hdep 25 (by kernel_rfl)
                    replace e25 : a.tmps[108]? = some v25 := e25
                    obtain rfl : v25 = _ := j25
                    obtain ⟨v23, e23, j23⟩ := hdep 23 (by kernel_rfl)
                    replace e23 : a.tmps[106]? = some v23 := e23
                    obtain rfl : v23 = _ := j23
                    clear hdep
                    go_simp
                    exact hK _ _ rfl (Below.refl _ _)
                  · intro a w' hb hdep K hK
                    have c9 := hb.at 3 9 _ rfl
                    obtain ⟨v26, e26, j26⟩ := hdep 26 (by kernel_rfl)
                    replace e26 : a.tmps[109]? = some v26 := e26
                    obtain rfl : v26 = _ := j26
                    clear hdep
                    go_simp
                    exact hK _ _ rfl (Below.refl _ _)
                  · intro a w' hb hdep K hK
                    obtain ⟨v27, e27, j27⟩ := hdep 27 (by kernel_rfl)
                    replace e27 : a.tmps[110]? = some v27 := e27
                    obtain rfl : v27 = _ := j27
                    obtain ⟨v26, e26, j26⟩ := hdep 26 (by kernel_rfl)
                    replace e26 : a.tmps[109]? = some v26 := e26
                    obtain rfl : v26 = _ := j26
                    clear hdep
                    go_simp
                    exact hK _ _ rfl (Below.refl _ _)
                  · intro a w' hb hdep K hK
                    obtain ⟨v26, e26, j26⟩ := hdep 26 (by kernel_rfl)
                    replace e26 : a.tmps[109]? = some v26 := e26
                    obtain rfl : v26 = _ := j26
                    obtain ⟨v28, e28, j28⟩ := hdep 28 (by kernel_rfl)
                    replace e28 : a.tmps[111]? = some v28 := e28
                    obtain rfl : v28 = _ := j28
                    obtain ⟨v23, e23, j23⟩ := hdep 23 (by kernel_rfl)
                    replace e23 : a.tmps[106]? = some v23 := e23
                    obtain rfl : v23 = _ := j23
                    clear hdep
                    go_simp
                    exact hK _ _ rfl (Below.refl _ _)
                  · intro a w' hb hdep K hK
                    obtain ⟨v23, e23, j23⟩ := hdep 23 (by kernel_rfl)
                    replace e23 : a.tmps[106]? = some v23 := e23
                    obtain rfl : v23 = _ := j23
                    obtain ⟨v29, e29, j29⟩ := hdep 29 (by kernel_rfl)
                    replace e29 : a.tmps[112]? = some v29 := e29
                    obtain rfl : v29 = _ := j29
                    clear hdep
                    go_simp
                    exact hK _ _ rfl (Below.refl _ _)
                  · intro a w' hb hdep K hK
                    obtain ⟨v30, e30, j30⟩ := hdep 30 (by kernel_rfl)
                    replace e30 : a.tmps[113]? = some v30 := e30
                    obtain rfl : v30 = _ := j30
                    clear hdep
                    go_simp
                    exact hK _ _ rfl (Below.refl _ _)
                  · intro a w' hb hdep K hK
                    obtain ⟨v31, e31, j31⟩ := hdep 31 (by kernel_rfl)
                    replace e31 : a.tmps[114]? = some v31 := e31
                    obtain rfl : v31 = _ := j31
                    clear hdep
                    go_simp
                    go_at_call 7
                    refine (HWK.out w').mono ?_
                    rintro e w20 ⟨rfl, hb20⟩
                    exact hK _ _ rfl hb20
                  · intro a w' hb hdep K hK
                    obtain ⟨v31, e31, j31⟩ := hdep 31 (by kernel_rfl)
                    replace e31 : a.tmps[114]? = some v31 := e31
                    obtain rfl : v31 = _ := j31
                    obtain ⟨v32, e32, j32⟩ := hdep 32 (by kernel_rfl)
                    replace e32 : a.tmps[115]? = some v32 := e32
                    obtain rfl : v32 = _ := j32
                    clear hdep
                    go_simp
                    exact hK _ _ rfl (Below.refl _ _)
                  · intro a w' hb hdep K hK
                    obtain ⟨v33, e33, j33⟩ := hdep 33 (by kernel_rfl)
                    replace e33 : a.tmps[116]? = some v33 := e33
                    obtain rfl : v33 = _ := j33
                    clear hdep
                    go_simp
                    exact hK _ _ rfl (Below.refl _ _)
                · intro a wz hb hall
                  obtain ⟨v, h6, hv⟩ := hall 34 (by decide)
                  obtain rfl : v = .bool true := hv
                  have HBB := Lib.hid (HB10.out.trans (hb.bel.mono HB10.out.size))
                  have hd := hb.defers
                  clear hall hb
                  go_wp2
                  replace h6 : a.tmps[6]? = some (.bool true) := h6
                  exact bodyPost_ret (v := .bool true) (by simp [results, Try.results6, go_sem, h6]) hd ⟨rfl, HBB.out⟩
theorem parts_law (CS : SpellC) (CZ : SizeC) (CP : PutC) (CW : WakesC) (l : List Int) (h : Lng l) (sp : Option Addr) (n cap : Nat) (q : List Int) (part : Int) (hp : -9223372036854775808 ≤ part ∧ part ≤ 9223372036854775807) (w : World) (hr : IsRow .i64 w sp n cap q) :
    Calls Try.prog 6 #[.agg (lg l), .slice sp n cap, .int .i64 part] w fun e w' => e = .returned (.bool true) ∧ Below w.heap.size w w' := by
  obtain ⟨hl, hs, hwf, h63, hcap⟩ := hr.src
  by_cases hn : 100 < n
  · exact parts_long CW l part sp n cap h63 hn w
  · exact parts_short CS CZ CP CW l h part hp sp n cap _ hl (by omega) (by omega) w hs
end Go.Proofs.Ytnpohkaicfcidaa
