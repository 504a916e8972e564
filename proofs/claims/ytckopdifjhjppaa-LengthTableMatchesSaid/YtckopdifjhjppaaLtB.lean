/- The reference's Bits, Of. -/
import Derived.Test.YtckopdifjhjppaaLtP
import Derived.Handy
set_option linter.unusedVariables false
set_option linter.unusedSimpArgs false
namespace Go.Proofs.Ytckopdifjhjppaa
open Go.RowKit

theorem OwnS.lit {w : World} {k : IntKind} {E : TypeId} {g : Nat} {l : List Int} (h : w.heap[g]? = some (.cells (icells k l) E (0, 0))) (hm : l.length ≤ 1000000) : OwnS w k E (some g) l.length l :=
  ⟨by rw [List.length_map, Nat.mul_one], .inr ⟨g, l.length, icells k l, rfl, Nat.zero_le _, h, Nat.le_refl _, by unfold maxLen; omega, by rw [icells_size]; omega, by
    rw [Nat.mul_one]
    unfold icells
    rw [List.take_of_length_le (by simp)]⟩⟩
theorem encV_small (f : Int) (hf : 0 ≤ f ∧ f ≤ 15) (l : List Int) (hl : ∀ s, s < 258 → 0 ≤ gl l s ∧ gl l s ≤ 15) (k : Nat) (hk : k ≤ 258) : (encV f l k).length ≤ 8002 := by
  rw [encV_len]
  have := cst_le f hf l k (fun i hi => hl i (by omega))
  omega
theorem pv_bd (f : Int) (hf : 0 ≤ f ∧ f ≤ 15) (l : List Int) (hl : ∀ s, s < 258 → 0 ≤ gl l s ∧ gl l s ≤ 15) (k : Nat) (hk : k ≤ 258) : 0 ≤ pv f l k ∧ pv f l k ≤ 15 := by
  cases k with
  | zero => exact hf
  | succ j => exact hl j (by omega)

set_option maxRecDepth 100000 in
set_option maxHeartbeats 1000000 in
theorem bits_call (l : List Int) (h : Lng l) (hl : ∀ s, s < 258 → 0 ≤ gl l s ∧ gl l s ≤ 15) (f : Int) (hf : 0 ≤ f ∧ f ≤ 15) (w : World) :
    Calls Try.prog 31 #[.agg (lg l), .int .i64 f] w fun e w' => ∃ A c, e = .returned (.slice (ad0 A) (encV f l 258).length c) ∧ NewO w w' A c (encV f l 258) := by
  generalize hV0 : encV f l 258 = V0
  have HV0 : Unit → encV f l 258 = V0 := fun _ => hV0
  clear hV0
  have HSM := Lib.hid (encV_small f hf l hl)
  have HPV := Lib.hid (pv_bd f hf l hl)
  have HN0 := Lib.hid (show encV f l 0 = [f / 8 % 2, f / 4 % 2, f / 2 % 2, f % 2] from rfl)
  have HST := Lib.hid (show ∀ k, encV f l (k + 1) = encV f l k ++ putV (pv f l k) (gl l k) from fun k => rfl)
  go_enter Try.func31, Try.ntmps31
  go_upto_region 1 with fail
  have hg := heap_alloc_last w (.cells (lg l) 23)
  have hb := (Below.refl w.heap.size w).alloc (Nat.le_refl _) (.cells (lg l) 23)
  generalize w.alloc (.cells (lg l) 23) = w1 at hg hb ⊢
  have HB := Lib.hid hb
  clear hb
  go_upto_region 3 with fail
  have hown : NewO w (w1.alloc (.cells #[.int .i64 (f / 8 % 2), .int .i64 (f / 4 % 2), .int .i64 (f / 2 % 2), .int .i64 (f % 2)] 3)) (some w1.heap.size) 4 (encV f l 0) := by
    rw [HN0.out]
    exact ⟨OwnS.lit (l := [f / 8 % 2, f / 4 % 2, f / 2 % 2, f % 2]) (heap_alloc_last w1 _) (by simp), (fun g e => by injection e with e; have := HB.out.size; omega), HB.out.alloc HB.out.size _⟩
  have hg2 := heap_on ((Below.refl _ w1).alloc (Nat.le_refl _) (.cells #[.int .i64 (f / 8 % 2), .int .i64 (f / 4 % 2), .int .i64 (f / 2 % 2), .int .i64 (f % 2)] 3)) hg
  have HNE := Lib.hid (show w.heap.size < w1.heap.size from (Array.getElem?_eq_some_iff.1 hg).1)
  obtain ⟨g1, hg1⟩ : ∃ g1, g1 = w1.heap.size := ⟨_, rfl⟩
  rw [← hg1] at hown HNE ⊢
  clear hg1 hg HB
  generalize w1.alloc (.cells #[.int .i64 (f / 8 % 2), .int .i64 (f / 4 % 2), .int .i64 (f / 2 % 2), .int .i64 (f % 2)] 3) = w2 at hown hg2 ⊢
  have had : ad0 (some g1) = some ⟨g1, 0, none⟩ := rfl
  rw [← had]
  clear had
  have HO := Lib.hid hown
  have HG := Lib.hid hg2
  clear hown hg2
  go_loopw [1, 5, 6] (fun p s i wr => ∃ (k : Nat) (A : Option Nat) (n c : Nat), k ≤ 258 ∧ i = .int .i64 k ∧ p = .int .i64 (pv f l k) ∧ s = .slice (ad0 A) n c ∧ n = (encV f l k).length ∧ NewO w wr A c (encV f l k) ∧ wr.heap[w.heap.size]? = some (.cells (lg l) 23 (0, 0)) ∧ (∀ g, A = some g → g ≠ w.heap.size)) (fun _ _ i _ => 258 - (intOf i).toNat)
  case atStart => exact ⟨0, some g1, 4, 4, by omega, rfl, rfl, rfl, by rw [HN0.out]; rfl, HO.out, HG.out, (fun g e => by injection e with e; have := HNE.out; omega)⟩
  case round =>
    obtain ⟨k, A, n, c, hk, rfl, rfl, rfl, hn, hs, hgr, hne⟩ := hrel
    have HS := Lib.hid hs
    have HNN := Lib.hid hn
    have HNE2 := Lib.hid hne
    have hn8 : n ≤ 8002 := by rw [hn]; exact HSM.out k hk
    clear hs hn hne HNE
    by_cases hlt : k < 258
    · have hcl := lg_cell hgr h k hlt
      have hbl := hl k hlt
      have hpv := HPV.out k hk
      have HEN := Lib.hid (HST.out k)
      have HPN := Lib.hid (show pv f l (k + 1) = gl l k from rfl)
      have hgd : l.getD k 0 = gl l k := rfl
      rw [hgd] at hcl
      have HGL := Lib.hid hgd
      have hpc := fun W => put_call (pv f l k) (gl l k) hpv hbl W
      have hpl := putV_len (pv f l k) (gl l k)
      clear hgd
      generalize pv f l k = p at hpv hpc hpl HEN ⊢
      generalize gl l k = q at hcl hbl hpc hpl HEN HPN HGL
      have hpl31 : (putV p q).length ≤ 31 := by omega
      have HPL := Lib.hid hpl
      clear hpl
      obtain ⟨V, hV⟩ : ∃ V, V = putV p q := ⟨_, rfl⟩
      rw [← hV] at hpc hpl31 HEN HPL
      obtain ⟨m, hm⟩ : ∃ m, m = V.length := ⟨_, rfl⟩
      rw [← hm] at hpc hpl31
      have HMM := Lib.hid hm
      clear hV hm
      obtain ⟨Q, hQ⟩ : ∃ Q, Q = encV f l k := ⟨_, rfl⟩
      rw [← hQ] at HS HNN HEN
      clear hQ
      have HGR := Lib.hid hgr
      clear hgr
      go_wp2_with (first
        | (with_reducible refine (hpc _).mono ?_
           rintro e w3 ⟨A2, c2, rfl, hs2⟩
           have HS2 := Lib.hid hs2
           have HG3 := Lib.hid (heap_on hs2.bel HGR.out)
           have hcl3 := lg_cell HG3.out h k hlt
           rw [HGL.out] at hcl3
           clear hs2 hcl)
        | (refine wpList_appendI rfl _ _ 26 rfl 3 .i64 8 intsT intI A c Q n HNN.out.symm rfl (HS.out.own.below HS2.out.bel) (ad0 A2) m c2 rfl V HMM.out.symm HS2.out.own.src (by unfold maxLen; omega) (by omega) ?_
           intro A' c' w4 h1 h2 h3
           have hb4 : w4.heap[w.heap.size]? = some (.cells (lg l) 23 (0, 0)) := (h2.block _ (Array.getElem?_eq_some_iff.1 HG3.out).1 (fun e => HNE2.out _ e.symm rfl)).trans HG3.out
           have hcl4 := lg_cell hb4 h k hlt
           rw [HGL.out] at hcl4
           have HB4 := Lib.hid hb4
           clear hb4))
      have hN := (HS.out.on HS2.out.bel).app h1 h2 h3
      rw [← HEN.out] at hN
      refine ⟨⟨k + 1, A', n + m, c', by omega, by go_num, by rw [HPN.out], rfl, by rw [HEN.out, List.length_append, ← HNN.out, ← HMM.out], hN, HB4.out, fun g e => ?_⟩, by simp [intOf]; omega⟩
      rcases h3 with h3 | h3
      · exact HNE2.out g (h3 ▸ e)
      · rw [h3] at e
        injection e with e
        have := (Array.getElem?_eq_some_iff.1 HG3.out).1
        omega
    · obtain rfl : k = 258 := by omega
      clear hgr
      rw [HV0 ()] at HS HNN
      go_wp2_with fail
      go_ret
      exact ⟨A, c, by rw [← HNN.out]; rfl, HS.out⟩

/-- What the reference's Of returns. -/
def ofR (l : List Int) : List Int := if tableV l then ofV l else []
def ofE (l : List Int) : Int := if tableV l then 0 else 2
theorem table_small {l : List Int} (h : Lng l) (ht : tableV l = true) : ∀ s, s < 258 → 0 ≤ gl l s ∧ gl l s ≤ 15 := fun s hs => by
  unfold tableV at ht
  rw [Bool.and_eq_true] at ht
  have hk := of_decide_eq_true ht.1
  refine ⟨(h.bd s).1, ?_⟩
  have key : ∀ (q : List Int) (z : Int), z ∈ q → wt z ≤ (q.map wt).sum := by
    intro q
    induction q with
    | nil => intro z hz; simp at hz
    | cons a q ih =>
      intro z hz
      have ha := wt_bd a
      have hp : ∀ q : List Int, 0 ≤ (q.map wt).sum := fun q => by
        induction q with
        | nil => simp
        | cons b q ih2 =>
          have := wt_bd b
          rw [List.map_cons, List.sum_cons]
          omega
      have := hp q
      rw [List.map_cons, List.sum_cons]
      rcases List.mem_cons.1 hz with rfl | hz
      · omega
      · have := ih z hz
        omega
  have hm : gl l s ∈ l := by
    unfold gl
    rw [List.getD_eq_getElem?_getD, List.getElem?_eq_getElem (by rw [h.1]; exact hs)]
    exact List.getElem_mem (by rw [h.1]; exact hs)
  have h1 := key l _ hm
  by_cases h2 : 15 < gl l s
  · have : wt (gl l s) = 32769 := by rw [wt, if_neg (by omega), if_pos h2]
    unfold ks at hk
    omega
  · omega

set_option maxRecDepth 100000 in
set_option maxHeartbeats 1000000 in
theorem rof_call (l : List Int) (h : Lng l) (w : World) :
    Calls Try.prog 11 #[.agg (lg l)] w fun e w' => ∃ A c, e = .returned (.tuple #[.slice (ad0 A) (ofR l).length c, .int .i64 (ofE l)]) ∧ NewO w w' A c (ofR l) := by
  have htc := fun W => rtable_call l h W
  have HR := Lib.hid (show ofR l = if tableV l then ofV l else [] from rfl)
  have HE := Lib.hid (show ofE l = if tableV l then 0 else 2 from rfl)
  have HT := Lib.hid (table_small h)
  have HBC0 : Unit → tableV l = true → ∀ W, Calls Try.prog 31 #[.agg (lg l), .int .i64 (gl l 0)] W fun e w' => ∃ A c, e = .returned (.slice (ad0 A) (ofV l).length c) ∧ NewO W w' A c (ofV l) := fun _ ht W => bits_call l h (table_small h ht) (gl l 0) (table_small h ht 0 (by omega)) W
  go_enter Try.func11, Try.ntmps11
  go_upto_region 1 with fail
  have hg := heap_alloc_last w (.cells (lg l) 23)
  have hb := (Below.refl w.heap.size w).alloc (Nat.le_refl _) (.cells (lg l) 23)
  generalize w.alloc (.cells (lg l) 23) = w1 at hg hb ⊢
  have HB := Lib.hid hb
  clear hb
  by_cases ht : tableV l = true
  · rw [ht] at htc HR HE
    have hsm := HT.out ht
    have HBC := Lib.hid (HBC0 () ht)
    have h00 : l.getD 0 0 = gl l 0 := rfl
    have HGL := Lib.hid h00
    have hf := hsm 0 (by omega)
    clear hsm h00 HT ht HBC0
    generalize gl l 0 = f at HBC HGL hf
    generalize ofV l = Q at HBC HR
    go_upto_region 3 with (first
      | (refine wpList_load_row rfl 23 _ rfl w.heap.size rfl 23 (lg l) (0, 0) _ hg Try.underlying23 rfl (lngIk h) ?_)
      | (with_reducible refine (htc _).mono ?_; rintro e w2 ⟨rfl, hb2⟩))
    have hg2 := heap_on hb2 hg
    have hcl := lg_cell hg2 h 0 (by omega)
    rw [HGL.out] at hcl
    replace HB := Lib.hid (HB.out.trans (hb2.mono HB.out.size))
    clear hb2 hg htc
    go_wp2_with (first
      | (refine wpList_load_row rfl 23 _ rfl w.heap.size rfl 23 (lg l) (0, 0) _ hg2 Try.underlying23 rfl (lngIk h) ?_)
      | (with_reducible refine (HBC.out _).mono ?_
         rintro e w3 ⟨A, c, rfl, hs⟩
         have HS := Lib.hid hs
         clear hs))
    go_returns
    exact ⟨A, c, by rw [HR.out, HE.out]; rfl, by rw [HR.out]; exact ⟨HS.out.own, fun g e => by have := HS.out.new g e; have := HB.out.size; omega, HB.out.trans (HS.out.bel.mono HB.out.size)⟩⟩
  · have ht2 : tableV l = false := by simpa using ht
    rw [ht2] at htc HR HE
    clear ht ht2 HT HBC0
    go_wp2_with (first
      | (refine wpList_load_row rfl 23 _ rfl w.heap.size rfl 23 (lg l) (0, 0) _ hg Try.underlying23 rfl (lngIk h) ?_)
      | (with_reducible refine (htc _).mono ?_; rintro e w2 ⟨rfl, hb2⟩))
    go_returns
    exact ⟨none, 0, by rw [HR.out, HE.out]; rfl, by rw [HR.out]; exact ⟨OwnS.nil _ _ _, (fun g e => by cases e), HB.out.trans (hb2.mono HB.out.size)⟩⟩
end Go.Proofs.Ytckopdifjhjppaa
