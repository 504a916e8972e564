/- Stage 11's contracts as propositions; the law PrefixEncBack out of them. -/
import Derived.Test.YtnpohkaicfcidaaPeK
set_option linter.unusedVariables false
set_option linter.unusedSimpArgs false
namespace Go.Proofs.Ytnpohkaicfcidaa
open Go.RowKit

def SpellC : Prop := ∀ (l : List Int) (_ : Lng l) (sp : Option Addr) (n cap : Nat) (q : List Int) (_ : q.length = n) (_ : n ≤ 10000) (w : World) (_ : Src w .i64 sp q),
    Calls Try.prog 8 #[.agg (lg l), .slice sp n cap] w fun e w' => ∃ v, e = .returned (.tuple #[v, .int .i64 (((spR l q).length : Nat) : Int), .int .i64 (spE l q)]) ∧ IsU (((spR l q).length + 7) / 8) (packB (spR l q)) v w' ∧ Below w.heap.size w w'
def ReadC : Prop := ∀ (l : List Int) (_ : Lng l) (sp : Option Addr) (n cap : Nat) (bl : List Int) (_ : bl.length = n) (_ : Byts bl) (_ : n ≤ 1000) (M : Int) (_ : -9223372036854775808 ≤ M ∧ M ≤ 9223372036854775807) (w : World) (_ : Src w .u8 sp bl),
    Calls Try.prog 12 #[.agg (lg l), .slice sp n cap, .int .i64 M] w fun e w' => ∃ A c, e = .returned (.tuple #[.slice (ad0 A) ((rdR l bl M).getD []).length c, .int .i64 (if (rdR l bl M).isSome then 0 else 2)]) ∧ NewO w w' A c ((rdR l bl M).getD [])
def WakesC : Prop := ∀ w : World, Calls Try.prog 7 #[] w fun e w' => e = .returned (.bool true) ∧ Below w.heap.size w w'
theorem canV_iff (l q : List Int) : canV l q = true ↔ ks l ≤ 32768 ∧ q.all (okS l) = true := by
  unfold canV
  rw [Bool.and_eq_true, decide_eq_true_iff]
theorem spR_yes {l q : List Int} (h : canV l q = true) : spR l q = spV l q ∧ spE l q = 0 := by
  unfold spR spE
  rw [h]
  exact ⟨rfl, rfl⟩
theorem spR_no {l q : List Int} (h : canV l q = false) : spR l q = [] ∧ spE l q = 2 := by
  unfold spR spE
  rw [h]
  exact ⟨rfl, rfl⟩
/-- Bits as bytes, read again. -/
theorem rdR_pack {l q : List Int} (h : Lng l) (hc : canV l q = true) (m : Nat) (hm : m ≤ (spV l q).length) : rdR l (packB (spV l q)) (m : Int) = rdS l 0 0 [] ((spV l q).take m) := by
  obtain ⟨h1, h2⟩ := (canV_iff l q).1 hc
  unfold rdR
  rw [packB_length, if_pos ⟨h1, by omega, by omega⟩, Int.toNat_natCast, bitsB_packB_eq (spV_bin l q), List.take_append_of_le_length hm]
theorem back_same {l q : List Int} (h : Lng l) (hc : canV l q = true) : rdR l (packB (spV l q)) ((spV l q).length : Int) = some q := by
  obtain ⟨h1, h2⟩ := (canV_iff l q).1 hc
  rw [rdR_pack h hc _ (Nat.le_refl _), List.take_of_length_le (Nat.le_refl _), rdS_sp ⟨h, h1⟩ q [] h2]
  rfl
theorem back_less {l q : List Int} (h : Lng l) (hc : canV l q = true) (h0 : 0 < (spV l q).length) (y : List Int) (e : rdR l (packB (spV l q)) (((spV l q).length : Int) - 1) = some y) : y ≠ q := by
  have e1 : ((spV l q).length : Int) - 1 = (((spV l q).length - 1 : Nat) : Int) := by omega
  rw [e1, rdR_pack h hc _ (by omega)] at e
  obtain ⟨_, h2⟩ := sp_read _ _ (fun x hx => spV_bin l q x (List.mem_of_mem_take hx)) e
  intro hy
  rw [hy] at h2
  have := congrArg List.length h2
  rw [List.length_take] at this
  omega
theorem spV_zero {l q : List Int} (hc : canV l q = true) (h : (spV l q).length = 0) : q = [] := by
  cases q with
  | nil => rfl
  | cons s q =>
    obtain ⟨h1, h2⟩ := (canV_iff l (s :: q)).1 hc
    rw [List.all_cons, Bool.and_eq_true] at h2
    have h3 := h2.1
    unfold okS at h3
    rw [Bool.and_eq_true, decide_eq_true_iff] at h3
    have h4 : (cbV l s.toNat ++ spV l q).length = 0 := h
    rw [List.length_append, cbV_len] at h4
    unfold lnN at h4
    omega

theorem spV_ge {l : List Int} : ∀ q : List Int, q.all (okS l) = true → q.length ≤ (spV l q).length
  | [], _ => by simp [spV]
  | s :: q, h => by
    rw [List.all_cons, Bool.and_eq_true] at h
    have h1 := spV_ge q h.2
    have h3 := h.1
    unfold okS at h3
    rw [Bool.and_eq_true, decide_eq_true_iff] at h3
    show _ ≤ (cbV l s.toNat ++ spV l q).length
    rw [List.length_append, cbV_len, List.length_cons]
    unfold lnN
    omega
theorem rdR_len {l P : List Int} {M : Int} {y : List Int} (h : rdR l P M = some y) : y.length ≤ 8 * P.length := by
  unfold rdR at h
  split at h
  · obtain ⟨h1, h2⟩ := sp_read _ _ (fun x hx => bitsB_bin P x (List.mem_of_mem_take hx)) h
    have h3 := spV_ge y h1
    rw [h2, List.length_take, bitsB_length] at h3
    omega
  · cases h

set_option maxRecDepth 100000 in
set_option maxHeartbeats 2000000 in
theorem back_long (CW : WakesC) (l : List Int) (sp : Option Addr) (n cap : Nat) (hn : n ≤ 9223372036854775807) (h : 100 < n) (w : World) :
    Calls Try.prog 4 #[.agg (lg l), .slice sp n cap] w fun e w' => e = .returned (.bool true) ∧ Below w.heap.size w w' := by
  have hwk := fun W => CW W
  have d0 : decide ((100 : Int) < (n : Int)) = true := decide_eq_true (by omega)
  have HB := Lib.hid ((Below.refl w.heap.size w).alloc (Nat.le_refl _) (.cells (lg l) 23))
  go_enter Try.func4, Try.ntmps4
  go_upto_region 1 with fail
  generalize w.alloc (.cells (lg l) 23) = w1 at HB ⊢
  go_wp2_with (with_reducible refine (hwk _).mono ?_; rintro e z ⟨rfl, hb⟩)
  go_ret
  exact ⟨rfl, HB.out.trans (hb.mono HB.out.size)⟩

set_option maxRecDepth 100000 in
set_option maxHeartbeats 4000000 in
theorem back_short (CS : SpellC) (CR : ReadC) (CW : WakesC) (l : List Int) (h : Lng l) (sp : Option Addr) (n cap : Nat) (q : List Int) (hq : q.length = n) (hn : n ≤ 100) (w : World) (hs : Src w .i64 sp q) :
    Calls Try.prog 4 #[.agg (lg l), .slice sp n cap] w fun e w' => e = .returned (.bool true) ∧ Below w.heap.size w w' := by
  have HWK := Lib.hid (fun W => CW W)
  have HSC := Lib.hid (fun W hs => CS l h sp n cap q hq (by omega) W hs)
  have hlen := spR_len (q := q) h
  have HYES := Lib.hid (fun e : canV l q = true => spR_yes e)
  have HNO := Lib.hid (fun e : canV l q = false => spR_no e)
  have HSAME := Lib.hid (fun e : canV l q = true => back_same h e)
  have HLESS := Lib.hid (fun e : canV l q = true => back_less h e)
  have HZ := Lib.hid (fun e : canV l q = true => spV_zero e)
  have HBIN := Lib.hid (spV_bin l q)
  have HQ := Lib.hid hq
  have HS := Lib.hid hs
  have d0 : decide ((100 : Int) < (n : Int)) = false := decide_eq_false (by omega)
  have d0n : decide (100 < n) = false := decide_eq_false (by omega)
  have hg := heap_alloc_last w (.cells (lg l) 23)
  have HB := Lib.hid ((Below.refl w.heap.size w).alloc (Nat.le_refl _) (.cells (lg l) 23))
  cases hc : canV l q with
  | false =>
    obtain ⟨hR, hE⟩ := HNO.out hc
    rw [hR, hE] at HSC
    clear HYES HNO HSAME HLESS HZ HBIN hR hE hc hlen hq hs
    go_enter Try.func4, Try.ntmps4
    go_upto_region 1 with fail
    generalize w.alloc (.cells (lg l) 23) = w1 at hg HB ⊢
    have hs1 := HS.out.below HB.out
    go_upto_region 4 with (first
      | (refine wpList_load_row rfl 23 _ rfl w.heap.size rfl 23 (lg l) (0, 0) _ hg Try.underlying23 rfl (lngIk h) ?_)
      | (with_reducible refine (HSC.out _ hs1).mono ?_
         rintro e w2 ⟨v, rfl, ⟨a, c, rfl, hu⟩, hb2⟩))
    have HB2 := Lib.hid (HB.out.trans (hb2.mono HB.out.size))
    clear hu hb2 hg hs1
    go_wp2_with (with_reducible refine (HWK.out _).mono ?_; rintro e z ⟨rfl, hb⟩)
    go_ret
    exact ⟨rfl, HB2.out.trans (hb.mono HB2.out.size)⟩
  | true =>
    obtain ⟨hR, hE⟩ := HYES.out hc
    have hsame := HSAME.out hc
    have hless := HLESS.out hc
    have hz := HZ.out hc
    have hbin := HBIN.out
    rw [hR, hE] at HSC
    rw [hR] at hlen
    clear HYES HNO HSAME HLESS HZ HBIN hR hE hc
    generalize spV l q = V at HSC hsame hless hz hbin hlen
    obtain ⟨X, hX⟩ : ∃ X, X = V.length := ⟨_, rfl⟩
    rw [← hX] at HSC hsame hless hz hlen
    have hX15 : X ≤ 1500 := by omega
    have hPl : (packB V).length = (X + 7) / 8 := by rw [packB_length, ← hX]
    have hPb : Byts (packB V) := packB_bytes hbin
    obtain ⟨nb, hnb⟩ : ∃ nb, nb = (X + 7) / 8 := ⟨_, rfl⟩
    rw [← hnb] at HSC hPl
    have hqt : Int.tdiv ((X : Int) + 7) 8 = (nb : Int) := by
      rw [Int.tdiv_eq_ediv_of_nonneg (by omega)]
      omega
    have hnb8 : nb ≤ 200 := by omega
    generalize packB V = P at HSC hsame hless hPl hPb
    have HR1 := Lib.hid (fun (a : Option Addr) (c : Nat) (W : World) (hW : Src W .u8 a P) => show Calls Try.prog 12 #[.agg (lg l), .slice a nb c, .int .i64 X] W fun e w' => ∃ A c, e = .returned (.tuple #[.slice (ad0 A) n c, .int .i64 0]) ∧ NewO W w' A c q from by
      have h1 := CR l h a nb c P hPl hPb (by omega) (X : Int) (by omega) W hW
      rw [hsame] at h1
      simpa [hq] using h1)
    have HR2 := Lib.hid (fun (a : Option Addr) (c : Nat) (W : World) (hW : Src W .u8 a P) => CR l h a nb c P hPl hPb (by omega) ((X : Int) - 1) (by omega) W hW)
    generalize hY : rdR l P ((X : Int) - 1) = Y at hless HR2
    have HIN := Lib.hid (fun (a b : Option Addr) (m c e : Nat) (p : List Int) (W : World) (hp : p.length = m) (hm : m ≤ 1000000) (h1 : Src W .i64 a p) (h2 : Src W .i64 b q) => ints_call a b m n c e p q W hp hq h1 h2 hm (by omega))
    have HLS := Lib.hid hless
    have HZZ := Lib.hid hz
    have HYL := Lib.hid (show ∀ y, Y = some y → y.length ≤ 1600 from fun y e => by
      have := rdR_len (hY.trans e)
      omega)
    clear hsame hless hz hY hPl hPb hbin hlen hq hs CS CR hX hnb
    go_enter Try.func4, Try.ntmps4
    go_upto_region 1 with fail
    generalize w.alloc (.cells (lg l) 23) = w1 at hg HB ⊢
    have hs1 := HS.out.below HB.out
    go_upto_region 4 with (first
      | (refine wpList_load_row rfl 23 _ rfl w.heap.size rfl 23 (lg l) (0, 0) _ hg Try.underlying23 rfl (lngIk h) ?_)
      | (with_reducible refine (HSC.out _ hs1).mono ?_
         rintro e w2 ⟨v, rfl, ⟨a, c, rfl, hu⟩, hb2⟩))
    have HB2 := Lib.hid (HB.out.trans (hb2.mono HB.out.size))
    have HU := Lib.hid hu
    have hg2 := heap_on hb2 hg
    clear hu hb2 hg hs1 HB HSC
    go_upto_region 7 with (first
      | (refine wpList_load_row rfl 23 _ rfl w.heap.size rfl 23 (lg l) (0, 0) _ hg2 Try.underlying23 rfl (lngIk h) ?_)
      | (with_reducible refine (HR1.out _ _ _ HU.out).mono ?_
         rintro e w3 ⟨A3, c3, rfl, hs3⟩))
    have HB3 := Lib.hid (HB2.out.trans (hs3.bel.mono HB2.out.size))
    have HU3 := Lib.hid (HU.out.below hs3.bel)
    have hg3 := heap_on hs3.bel hg2
    have hi3 := HIN.out (ad0 A3) sp n c3 cap q w3 HQ.out (by omega) hs3.own.src (HS.out.below HB3.out)
    rw [decide_eq_true rfl] at hi3
    have HI3 := Lib.hid hi3
    clear hs3 hg2 hi3 HB2 HU
    go_upto_region 9 with (with_reducible refine HI3.out.mono ?_; rintro e w4 ⟨rfl, hb4⟩)
    have HB4 := Lib.hid (HB3.out.trans (hb4.mono HB3.out.size))
    have HU4 := Lib.hid (HU3.out.below hb4)
    have hg4 := heap_on hb4 hg3
    clear hb4 hg3 HB3 HU3 HI3
    by_cases hx0 : X = 0
    · have hq0 := HZZ.out hx0
      have hn0 : n = 0 := by rw [← HQ.out, hq0]; rfl
      subst hx0 hn0
      go_wp2_with (with_reducible refine (HWK.out _).mono ?_; rintro e z ⟨rfl, hb⟩)
      go_ret
      exact ⟨rfl, HB4.out.trans (hb.mono HB4.out.size)⟩
    · have hx1 : ((X : Int) == 0) = false := by rw [beq_eq_false_iff_ne]; omega
      have hw : IntKind.i64.wrap ((X : Int) - 1) = (X : Int) - 1 := by rw [IntKind.wrap_i64]; omega
      have hne := HLS.out (by omega)
      cases Y with
      | none =>
        clear hne
        go_wp2_with (first
          | (refine wpList_load_row rfl 23 _ rfl w.heap.size rfl 23 (lg l) (0, 0) _ hg4 Try.underlying23 rfl (lngIk h) ?_)
          | (with_reducible refine (HR2.out _ _ _ HU4.out).mono ?_
             rintro e w5 ⟨A5, c5, rfl, hs5⟩
             have HB5 := Lib.hid (HB4.out.trans (hs5.bel.mono HB4.out.size))
             clear hs5)
          | (with_reducible refine (HWK.out _).mono ?_; rintro e z ⟨rfl, hb⟩))
        go_ret
        exact ⟨rfl, HB5.out.trans (hb.mono HB5.out.size)⟩
      | some y =>
        have hy := hne y rfl
        have hyl := HYL.out y rfl
        obtain ⟨m, hm⟩ : ∃ m, m = y.length := ⟨_, rfl⟩
        have HR3 := Lib.hid (fun (a : Option Addr) (c : Nat) (W : World) (hW : Src W .u8 a P) => show Calls Try.prog 12 #[.agg (lg l), .slice a nb c, .int .i64 ((X : Int) - 1)] W fun e w' => ∃ A c, e = .returned (.tuple #[.slice (ad0 A) m c, .int .i64 0]) ∧ NewO W w' A c y from by
          rw [hm]
          exact HR2.out a c W hW)
        have HM := Lib.hid hm
        have hm16 : m ≤ 1600 := by omega
        have HY := Lib.hid hy
        clear hne HR2 hm hyl hy
        go_wp2_with (first
          | (refine wpList_load_row rfl 23 _ rfl w.heap.size rfl 23 (lg l) (0, 0) _ hg4 Try.underlying23 rfl (lngIk h) ?_)
          | (with_reducible refine (HR3.out _ _ _ HU4.out).mono ?_
             rintro e w5 ⟨A5, c5, rfl, hs5⟩
             have HB5 := Lib.hid (HB4.out.trans (hs5.bel.mono HB4.out.size))
             have hi5 := HIN.out (ad0 A5) sp m c5 cap y w5 HM.out.symm (by omega) hs5.own.src (HS.out.below HB5.out)
             rw [decide_eq_false HY.out] at hi5
             have HI5 := Lib.hid hi5
             clear hs5 hi5)
          | (with_reducible refine HI5.out.mono ?_; rintro e w6 ⟨rfl, hb6⟩
             have HB6 := Lib.hid (HB5.out.trans (hb6.mono HB5.out.size)))
          | (with_reducible refine (HWK.out _).mono ?_; rintro e z ⟨rfl, hb⟩))
        go_ret
        exact ⟨rfl, HB6.out.trans (hb.mono HB6.out.size)⟩
theorem back_call (CS : SpellC) (CR : ReadC) (CW : WakesC) (l : List Int) (h : Lng l) (sp : Option Addr) (n cap : Nat) (q : List Int) (w : World) (hr : IsRow .i64 w sp n cap q) :
    Calls Try.prog 4 #[.agg (lg l), .slice sp n cap] w fun e w' => e = .returned (.bool true) ∧ Below w.heap.size w w' := by
  obtain ⟨hl, hs, hwf, h63, _⟩ := hr.src
  by_cases hn : 100 < n
  · exact back_long CW l sp n cap h63 hn w
  · exact back_short CS CR CW l h sp n cap _ hl (by omega) w hs
end Go.Proofs.Ytnpohkaicfcidaa
