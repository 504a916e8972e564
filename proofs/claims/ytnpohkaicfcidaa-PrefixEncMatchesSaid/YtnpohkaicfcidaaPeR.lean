/- Law PrefixEncRead out of the contracts (genpr.py). -/
import Derived.Test.YtnpohkaicfcidaaPeL
import Derived.Test.YtnpohkaicfcidaaFrm2
set_option linter.unusedVariables false
set_option linter.unusedSimpArgs false
namespace Go.Proofs.Ytnpohkaicfcidaa
open Go.RowKit

def SizeC : Prop := ∀ (l : List Int) (_ : Lng l) (sp : Option Addr) (n cap : Nat) (q : List Int) (_ : q.length = n) (_ : n ≤ 10000) (w : World) (_ : Src w .i64 sp q),
    Calls Try.prog 10 #[.agg (lg l), .slice sp n cap] w fun e w' => e = .returned (.tuple #[.int .i64 (((spR l q).length : Nat) : Int), .int .i64 (spE l q)]) ∧ Below w.heap.size w w'
theorem canV_take {l q : List Int} (h : canV l q = true) (k : Nat) : canV l (q.take k) = true := by
  rw [canV_iff] at h ⊢
  refine ⟨h.1, ?_⟩
  rw [List.all_eq_true] at h ⊢
  exact fun x hx => h.2 x (List.mem_of_mem_take hx)
theorem spV_pre (l q : List Int) (k : Nat) : (spV l q).take (spV l (q.take k)).length = spV l (q.take k) ∧ (spV l (q.take k)).length ≤ (spV l q).length := by
  have e : spV l q = spV l (q.take k) ++ spV l (q.drop k) := by rw [← spV_app, List.take_append_drop]
  constructor
  · rw [e, List.take_left]
  · rw [e, List.length_append]
    omega
/-- What is read, told whole. -/
structure RdY (l bl : List Int) (M : Nat) (q : List Int) : Prop where
  can : canV l q = true
  most : M ≤ 8 * bl.length
  len : (spV l q).length = M
  bit : ∀ i, i < M → (bitsB (packB (spV l q))).getD i 0 = (bitsB bl).getD i 0
  pre : ∀ k, rdR l bl ((spV l (q.take k)).length : Int) = some (q.take k)
theorem rdR_yes {l bl q : List Int} (h : Lng l) {many : Int} (e : rdR l bl many = some q) : ∃ M : Nat, many = (M : Int) ∧ RdY l bl M q := by
  unfold rdR at e
  split at e
  · rename_i hc
    obtain ⟨h1, h2, h3⟩ := hc
    obtain ⟨M, rfl⟩ : ∃ M : Nat, many = (M : Int) := ⟨many.toNat, by omega⟩
    rw [Int.toNat_natCast] at e
    obtain ⟨h4, h5⟩ := sp_read _ _ (fun x hx => bitsB_bin bl x (List.mem_of_mem_take hx)) e
    have hM : M ≤ 8 * bl.length := by omega
    have hcan : canV l q = true := (canV_iff l q).2 ⟨h1, h4⟩
    have hlen : (spV l q).length = M := by rw [h5, List.length_take, bitsB_length]; omega
    refine ⟨M, rfl, hcan, hM, hlen, fun i hi => ?_, fun k => ?_⟩
    · rw [bitsB_packB (spV_bin l q), h5]
      simp [List.getD_eq_getElem?_getD, List.getElem?_take, hi]
    · obtain ⟨p1, p2⟩ := spV_pre l q k
      unfold rdR
      rw [if_pos ⟨h1, by omega, by omega⟩, Int.toNat_natCast]
      have e2 : (bitsB bl).take (spV l (q.take k)).length = spV l (q.take k) := by
        rw [h5, List.take_take, Nat.min_eq_left (by rw [h5, List.length_take] at p2; omega)] at p1
        exact p1
      rw [e2, rdS_sp ⟨h, h1⟩ (q.take k) [] ((canV_iff l _).1 (canV_take hcan k)).2]
      rfl
  · cases e

set_option maxRecDepth 100000 in
set_option maxHeartbeats 2000000 in
theorem read_long (CW : WakesC) (l : List Int) (many part : Int) (sp : Option Addr) (n cap : Nat) (hn : n ≤ 9223372036854775807) (h : 100 < n) (w : World) :
    Calls Try.prog 5 #[.agg (lg l), .slice sp n cap, .int .i64 many, .int .i64 part] w fun e w' => e = .returned (.bool true) ∧ Below w.heap.size w w' := by
  have hwk := fun W => CW W
  have d0 : decide ((100 : Int) < (n : Int)) = true := decide_eq_true (by omega)
  have HB := Lib.hid ((Below.refl w.heap.size w).alloc (Nat.le_refl _) (.cells (lg l) 23))
  go_enter Try.func5, Try.ntmps5
  go_upto_region 1 with fail
  generalize w.alloc (.cells (lg l) 23) = w1 at HB ⊢
  go_wp2_with (with_reducible refine (hwk _).mono ?_; rintro e z ⟨rfl, hb⟩)
  go_ret
  exact ⟨rfl, HB.out.trans (hb.mono HB.out.size)⟩

set_option maxRecDepth 100000 in
set_option maxHeartbeats 4000000 in
theorem read_none (CR : ReadC) (CW : WakesC) (l : List Int) (h : Lng l) (many part : Int) (hmb : -9223372036854775808 ≤ many ∧ many ≤ 9223372036854775807) (sp : Option Addr) (n cap : Nat) (bl : List Int) (hl : bl.length = n) (hby : Byts bl) (hn : n ≤ 100) (w : World) (hs : Src w .u8 sp bl) (hY : rdR l bl many = none) :
    Calls Try.prog 5 #[.agg (lg l), .slice sp n cap, .int .i64 many, .int .i64 part] w fun e w' => e = .returned (.bool true) ∧ Below w.heap.size w w' := by
  have HWK := Lib.hid (fun W => CW W)
  have hrc := fun W hs => CR l h sp n cap bl hl hby (by omega) many hmb W hs
  rw [hY] at hrc
  have HRC := Lib.hid hrc
  have HS := Lib.hid hs
  have d0 : decide ((100 : Int) < (n : Int)) = false := decide_eq_false (by omega)
  have d0n : decide (100 < n) = false := decide_eq_false (by omega)
  have hg := heap_alloc_last w (.cells (lg l) 23)
  have HB := Lib.hid ((Below.refl w.heap.size w).alloc (Nat.le_refl _) (.cells (lg l) 23))
  clear hrc hs hl
  go_enter Try.func5, Try.ntmps5
  go_upto_region 1 with fail
  generalize w.alloc (.cells (lg l) 23) = w1 at hg HB ⊢
  have hs1 := HS.out.below HB.out
  go_upto_region 4 with (first
    | (refine wpList_load_row rfl 23 _ rfl w.heap.size rfl 23 (lg l) (0, 0) _ hg Try.underlying23 rfl (lngIk h) ?_)
    | (with_reducible refine (HRC.out _ hs1).mono ?_
       rintro e w2 ⟨A, c, rfl, hs2⟩))
  have HB2 := Lib.hid (HB.out.trans (hs2.bel.mono HB.out.size))
  clear hs2 hg hs1
  go_wp2_with (with_reducible refine (HWK.out _).mono ?_; rintro e z ⟨rfl, hb⟩)
  go_ret
  exact ⟨rfl, HB2.out.trans (hb.mono HB2.out.size)⟩

set_option maxRecDepth 100000 in
set_option maxHeartbeats 8000000 in
theorem read_some (CS : SpellC) (CZ : SizeC) (CR : ReadC) (CW : WakesC) (l : List Int) (h : Lng l) (M : Nat) (part : Int) (hpb : -9223372036854775808 ≤ part ∧ part ≤ 9223372036854775807) (sp : Option Addr) (n cap : Nat) (bl : List Int) (hl : bl.length = n) (hby : Byts bl) (hn : n ≤ 100) (w : World) (hs : Src w .u8 sp bl) (q : List Int) (hY : rdR l bl (M : Int) = some q) (hR : RdY l bl M q) :
    Calls Try.prog 5 #[.agg (lg l), .slice sp n cap, .int .i64 M, .int .i64 part] w fun e w' => e = .returned (.bool true) ∧ Below w.heap.size w w' := by
  have HWK := Lib.hid (fun W => CW W)
  have hM : M ≤ 8 * n := by rw [← hl]; exact hR.most
  have hql := rdR_len hY
  obtain ⟨m, hm⟩ : ∃ m, m = q.length := ⟨_, rfl⟩
  have hm8 : m ≤ 800 := by omega
  have HRC := Lib.hid (fun W hs => show Calls Try.prog 12 #[.agg (lg l), .slice sp n cap, .int .i64 M] W fun e w' => ∃ A c, e = .returned (.tuple #[.slice (ad0 A) m c, .int .i64 0]) ∧ NewO W w' A c q from by
    have h1 := CR l h sp n cap bl hl hby (by omega) (M : Int) (by omega) W hs
    rw [hY] at h1
    rw [hm]
    exact h1)
  obtain ⟨nb, hnb⟩ : ∃ nb, nb = (M + 7) / 8 := ⟨_, rfl⟩
  have HSP := Lib.hid (fun (a : Option Addr) (c : Nat) (W : World) (hS : Src W .i64 a q) => show Calls Try.prog 8 #[.agg (lg l), .slice a m c] W fun e w' => ∃ v, e = .returned (.tuple #[v, .int .i64 M, .int .i64 0]) ∧ IsU nb (packB (spV l q)) v w' ∧ Below W.heap.size W w' from by
    have h1 := CS l h a m c q hm.symm (by omega) W hS
    rw [(spR_yes hR.can).1, (spR_yes hR.can).2, hR.len, ← hnb] at h1
    exact h1)
  have hqt : Int.tdiv ((M : Int) + 7) 8 = (nb : Int) := by
    rw [Int.tdiv_eq_ediv_of_nonneg (by omega)]
    omega
  have hPl : (packB (spV l q)).length = nb := by rw [packB_length, hR.len, hnb]
  have hPb : Byts (packB (spV l q)) := packB_bytes (spV_bin l q)
  have HB1 := Lib.hid (fun (i : Nat) (hi : i < M) (W : World) (hS : Src W .u8 sp bl) => bit_call W sp n cap bl hl hS hby i (by omega) (by omega))
  have HB2 := Lib.hid (fun (i : Nat) (hi : i < M) (a : Option Addr) (c : Nat) (W : World) (hS : Src W .u8 a (packB (spV l q))) => show Calls Try.prog 16 #[.slice a nb c, .int .i64 i] W fun x w' => x = .returned (.int .i64 ((bitsB bl).getD i 0)) ∧ W = w' from by
    have h1 := bit_call W a nb c (packB (spV l q)) hPl hS hPb i (by omega) (by omega)
    rw [hR.bit i hi] at h1
    exact h1)
  have hk : ∃ k : Nat, (if (m : Int) < (if part < 0 then 0 else part) then (m : Int) else if part < 0 then 0 else part) = (k : Int) ∧ k ≤ m := by
    refine ⟨(if (m : Int) < (if part < 0 then 0 else part) then (m : Int) else if part < 0 then 0 else part).toNat, ?_, ?_⟩
    · split
      · omega
      · split <;> omega
    · split
      · omega
      · split <;> omega
  obtain ⟨k, hk, hkm⟩ := hk
  have hpre := hR.pre k
  have hcq := canV_take hR.can k
  have hsz := spV_pre l q k
  have hkl : (q.take k).length = k := by rw [List.length_take]; omega
  obtain ⟨K, hK⟩ : ∃ K, K = (spV l (q.take k)).length := ⟨_, rfl⟩
  have hKM : K ≤ M := by have := hsz.2; rw [hR.len] at this; omega
  rw [← hK] at hpre
  have HSZ := Lib.hid (fun (a : Option Addr) (c : Nat) (W : World) (hS : Src W .i64 a (q.take k)) => show Calls Try.prog 10 #[.agg (lg l), .slice a k c] W fun e w' => e = .returned (.tuple #[.int .i64 K, .int .i64 0]) ∧ Below W.heap.size W w' from by
    have h1 := CZ l h a k c (q.take k) hkl (by omega) W hS
    rw [(spR_yes hcq).1, (spR_yes hcq).2, ← hK] at h1
    exact h1)
  have HR2 := Lib.hid (fun W hs => show Calls Try.prog 12 #[.agg (lg l), .slice sp n cap, .int .i64 K] W fun e w' => ∃ A c, e = .returned (.tuple #[.slice (ad0 A) k c, .int .i64 0]) ∧ NewO W w' A c (q.take k) from by
    have h1 := CR l h sp n cap bl hl hby (by omega) (K : Int) (by omega) W hs
    rw [hpre] at h1
    simpa [hkl] using h1)
  have HIN := Lib.hid (fun (a b : Option Addr) (c e : Nat) (W : World) (h1 : Src W .i64 a (q.take k)) (h2 : Src W .i64 b (q.take k)) => show Calls Try.prog 14 #[.slice a k c, .slice b k e] W fun r w' => r = .returned (.bool true) ∧ Below W.heap.size W w' from by
    have h3 := ints_call a b k k c e (q.take k) (q.take k) W hkl hkl h1 h2 (by omega) (by omega)
    rw [decide_eq_true rfl] at h3
    exact h3)
  have HTK := Lib.hid (fun (a : Option Addr) (W : World) (hS : Src W .i64 a q) => show Src W .i64 a (q.take k) from by
    rcases hS with rfl | ⟨g, o, hx, hc⟩
    · left; simp
    · right
      refine ⟨g, o, hx, fun j hj => ?_⟩
      rw [List.length_take] at hj
      rw [hc j (by omega)]
      simp [List.getD_eq_getElem?_getD, List.getElem?_take, show j < k by omega])
  generalize packB (spV l q) = P at HSP HB2 hPl hPb
  have HS := Lib.hid hs
  have HMQ := Lib.hid hm
  have HK := Lib.hid hk
  have hnb8 : nb ≤ 101 := by omega
  have hK8 : K ≤ 800 := by omega
  have d0 : decide ((100 : Int) < (n : Int)) = false := decide_eq_false (by omega)
  have d0n : decide (100 < n) = false := decide_eq_false (by omega)
  have d1 : decide ((M : Int) < 0) = false := decide_eq_false (by omega)
  have d2 : decide (8 * (n : Int) < (M : Int)) = false := decide_eq_false (by omega)
  have d2n : decide (8 * n < M) = false := decide_eq_false (by omega)
  have hg := heap_alloc_last w (.cells (lg l) 23)
  have HB := Lib.hid ((Below.refl w.heap.size w).alloc (Nat.le_refl _) (.cells (lg l) 23))
  clear hs hl hby hR hY hql hm hnb hPl hPb hpre hcq hsz hkl hK hk CS CZ CR
  go_enter Try.func5, Try.ntmps5
  go_upto_region 1 with fail
  generalize w.alloc (.cells (lg l) 23) = w1 at hg HB ⊢
  have hs1 := HS.out.below HB.out
  go_upto_region 6 with (first
    | (refine wpList_load_row rfl 23 _ rfl w.heap.size rfl 23 (lg l) (0, 0) _ hg Try.underlying23 rfl (lngIk h) ?_)
    | (with_reducible refine (HRC.out _ hs1).mono ?_
       rintro e w2 ⟨A, c, rfl, hs2⟩))
  have HQ2 := Lib.hid hs2.own.src
  have hcap := hs2.own.cap
  rw [← HMQ.out] at hcap
  have hkc : (k : Int) ≤ (c : Int) := by omega
  replace HB := Lib.hid (HB.out.trans (hs2.bel.mono HB.out.size))
  have hg2 := heap_on hs2.bel hg
  clear hs2 hg hs1 HRC
  generalize ad0 A = av at HQ2 ⊢
  go_upto_region 9 with (first
    | (refine wpList_load_row rfl 23 _ rfl w.heap.size rfl 23 (lg l) (0, 0) _ hg2 Try.underlying23 rfl (lngIk h) ?_)
    | (with_reducible refine (HSP.out _ _ _ HQ2.out).mono ?_
       rintro e w3 ⟨v, rfl, ⟨a3, c3, rfl, hu⟩, hb3⟩))
  replace HQ2 := Lib.hid (HQ2.out.below hb3)
  replace HB := Lib.hid (HB.out.trans (hb3.mono HB.out.size))
  have hg3 := heap_on hb3 hg2
  have HU := Lib.hid hu
  have HG := Lib.hid hg3
  clear hu hb3 hg2 hg3 HSP hqt d0 d0n d1 d2 d2n
  go_upto_region 10 with fail
  go_loopw [14] (fun v wr => ∃ i : Nat, i ≤ M ∧ v = .int .i64 i ∧ wr = w3) (fun v _ => M - (intOf v).toNat)
  case atStart => exact ⟨0, by omega, rfl, rfl⟩
  case round =>
    obtain ⟨i, hi, rfl, rfl⟩ := hrel
    by_cases hlt : i < M
    · have hb1 := HB1.out i hlt wr (HS.out.below HB.out)
      have hb2 := HB2.out i hlt a3 c3 wr HU.out
      generalize (bitsB bl).getD i 0 = b at hb1 hb2
      go_wp2_with (first
        | (with_reducible refine hb1.mono ?_; rintro e x1 ⟨rfl, rfl⟩)
        | (with_reducible refine hb2.mono ?_; rintro e x2 ⟨rfl, rfl⟩))
      exact ⟨⟨i + 1, by omega, by go_num, by trivial⟩, by simp [intOf]; omega⟩
    · obtain rfl : i = M := by omega
      go_upto_region 15 with fail
      rw [HK.out]
      generalize (if part < 0 then (0 : Int) else part) = mx
      clear HK hpb HB1 HB2 HU
      refine wp_region_frame (J := Js [eqv (.agg (lg l)), eqv (.slice av m c), eqv (.int .i64 k), eqv (.slice av k c), eqv (.tuple #[.int .i64 K, .int .i64 0]), eqv (.tuple #[.int .i64 K, .int .i64 0]), eqv (.int .i64 K), eqv (.int .i64 0), eqv (.int .i64 K), eqv (.int .i64 0)]) (ds := [93, 94, 95, 96, 97, 92, 98, 99, 15, 16]) (N := 123)
        (B := [(3, .int .i64 k), (4, .pointer (some ⟨w.heap.size, 0, none⟩)), (9, .slice av m c)]) (by kernel_rfl) (by kernel_rfl) (Js_mono ⟨eqv_mono _, eqv_mono _, eqv_mono _, eqv_mono _, eqv_mono _, eqv_mono _, eqv_mono _, eqv_mono _, eqv_mono _, eqv_mono _, trivial⟩) rfl rfl (by simp) ?_ ?_
      · refine ⟨?_, ?_, ?_, ?_, ?_, ?_, ?_, ?_, ?_, ?_, trivial⟩
        · intro a w' hb hdep K hK
          have c4 := hb.at 1 4 _ rfl
          clear hdep
          exact wp_load_row 23 _ rfl w.heap.size (by simp [Act.eval, c4]) 23 (lg l) (0, 0) _ (heap_on hb.bel HG.out) Try.underlying23 rfl (lngIk h) (hK _ _ rfl (Below.refl _ _))
        · intro a w' hb hdep K hK
          have c9 := hb.at 2 9 _ rfl
          clear hdep
          go_simp
          exact hK _ _ rfl (Below.refl _ _)
        · intro a w' hb hdep K hK
          have c3 := hb.at 0 3 _ rfl
          clear hdep
          go_simp
          exact hK _ _ rfl (Below.refl _ _)
        · intro a w' hb hdep K hK
          obtain ⟨v1, e1, j1⟩ := hdep 1 (by kernel_rfl)
          replace e1 : a.tmps[94]? = some v1 := e1
          obtain rfl : v1 = _ := j1
          obtain ⟨v2, e2, j2⟩ := hdep 2 (by kernel_rfl)
          replace e2 : a.tmps[95]? = some v2 := e2
          obtain rfl : v2 = _ := j2
          clear hdep
          go_simp
          exact hK _ _ rfl (Below.refl _ _)
        · intro a w' hb hdep K hK
          obtain ⟨v0, e0, j0⟩ := hdep 0 (by kernel_rfl)
          replace e0 : a.tmps[93]? = some v0 := e0
          obtain rfl : v0 = _ := j0
          obtain ⟨v3, e3, j3⟩ := hdep 3 (by kernel_rfl)
          replace e3 : a.tmps[96]? = some v3 := e3
          obtain rfl : v3 = _ := j3
          clear hdep
          go_simp
          go_at_call 10
          refine (HSZ.out av c w' (HTK.out av w' (HQ2.out.below hb.bel))).mono ?_
          rintro e w20 ⟨rfl, hb20⟩
          exact hK _ _ rfl hb20
        · intro a w' hb hdep K hK
          obtain ⟨v4, e4, j4⟩ := hdep 4 (by kernel_rfl)
          replace e4 : a.tmps[97]? = some v4 := e4
          obtain rfl : v4 = _ := j4
          clear hdep
          go_simp
          exact hK _ _ rfl (Below.refl _ _)
        · intro a w' hb hdep K hK
          obtain ⟨v5, e5, j5⟩ := hdep 5 (by kernel_rfl)
          replace e5 : a.tmps[92]? = some v5 := e5
          obtain rfl : v5 = _ := j5
          clear hdep
          go_simp
          exact hK _ _ rfl (Below.refl _ _)
        · intro a w' hb hdep K hK
          obtain ⟨v5, e5, j5⟩ := hdep 5 (by kernel_rfl)
          replace e5 : a.tmps[92]? = some v5 := e5
          obtain rfl : v5 = _ := j5
          clear hdep
          go_simp
          exact hK _ _ rfl (Below.refl _ _)
        · intro a w' hb hdep K hK
          obtain ⟨v6, e6, j6⟩ := hdep 6 (by kernel_rfl)
          replace e6 : a.tmps[98]? = some v6 := e6
          obtain rfl : v6 = _ := j6
          clear hdep
          go_simp
          exact hK _ _ rfl (Below.refl _ _)
        · intro a w' hb hdep K hK
          obtain ⟨v7, e7, j7⟩ := hdep 7 (by kernel_rfl)
          replace e7 : a.tmps[99]? = some v7 := e7
          obtain rfl : v7 = _ := j7
          clear hdep
          go_simp
          exact hK _ _ rfl (Below.refl _ _)
      · intro vs w' hvl hall hb
        match vs, hvl with
        | [v0, v1, v2, v3, v4, v5, v6, v7, v8, v9], _ =>
          obtain rfl : v0 = _ := hall 0 (by decide)
          obtain rfl : v1 = _ := hall 1 (by decide)
          obtain rfl : v2 = _ := hall 2 (by decide)
          obtain rfl : v3 = _ := hall 3 (by decide)
          obtain rfl : v4 = _ := hall 4 (by decide)
          obtain rfl : v5 = _ := hall 5 (by decide)
          obtain rfl : v6 = _ := hall 6 (by decide)
          obtain rfl : v7 = _ := hall 7 (by decide)
          obtain rfl : v8 = _ := hall 8 (by decide)
          obtain rfl : v9 = _ := hall 9 (by decide)
          simp only [putAll, List.setIfInBounds_toArray, List.set_cons_zero, List.set_cons_succ]
          replace HB := Lib.hid (HB.out.trans (hb.mono HB.out.size))
          replace HQ2 := Lib.hid (HQ2.out.below hb)
          have hg5 := heap_on hb HG.out
          have hs5 := HS.out.below HB.out
          clear hb hvl hall HG HSZ
          go_upto_region 17 with (first
            | (refine wpList_load_row rfl 23 _ rfl w.heap.size rfl 23 (lg l) (0, 0) _ hg5 Try.underlying23 rfl (lngIk h) ?_)
            | (with_reducible refine (HR2.out _ hs5).mono ?_
               rintro e w6 ⟨A6, c6, rfl, hs6⟩))
          replace HB := Lib.hid (HB.out.trans (hs6.bel.mono HB.out.size))
          have hq6 := HTK.out av _ (HQ2.out.below hs6.bel)
          have hi6 := HIN.out (ad0 A6) av c6 c w6 hs6.own.src hq6
          have HI6 := Lib.hid hi6
          clear hs6 hg5 hs5 hq6 hi6 HQ2
          go_wp2_with (first
            | (with_reducible refine HI6.out.mono ?_; rintro e w7 ⟨rfl, hb7⟩
               have HB7 := Lib.hid (HB.out.trans (hb7.mono HB.out.size)))
            | (with_reducible refine (HWK.out _).mono ?_; rintro e z ⟨rfl, hbz⟩))
          go_ret
          exact ⟨rfl, HB7.out.trans (hbz.mono HB7.out.size)⟩
theorem read_law (CS : SpellC) (CZ : SizeC) (CR : ReadC) (CW : WakesC) (l : List Int) (h : Lng l) (sp : Option Addr) (n cap : Nat) (bl : List Int) (many : Int) (hm : -9223372036854775808 ≤ many ∧ many ≤ 9223372036854775807) (part : Int) (hp : -9223372036854775808 ≤ part ∧ part ≤ 9223372036854775807) (w : World) (hr : IsRow .u8 w sp n cap bl) :
    Calls Try.prog 5 #[.agg (lg l), .slice sp n cap, .int .i64 many, .int .i64 part] w fun e w' => e = .returned (.bool true) ∧ Below w.heap.size w w' := by
  obtain ⟨hl, hs, hwf, h63, _⟩ := hr.src
  by_cases hn : 100 < n
  · exact read_long CW l many part sp n cap h63 hn w
  · have hby : Byts (bl.take n) := fun x hx => bounds_u8 (hwf x hx)
    cases hY : rdR l (bl.take n) many with
    | none => exact read_none CR CW l h many part hm sp n cap _ hl hby (by omega) w hs hY
    | some q =>
      obtain ⟨M, rfl, hR⟩ := rdR_yes h hY
      exact read_some CS CZ CR CW l h M part hp sp n cap _ hl hby (by omega) w hs q hY hR
end Go.Proofs.Ytnpohkaicfcidaa
