/- Package prefixenc: Size. -/
import Derived.Test.YtnpohkaicfcidaaPfA
set_option linter.unusedVariables false
set_option linter.unusedSimpArgs false
namespace Go.Proofs.Ytnpohkaicfcidaa
open Go.RowKit

theorem all_at {l q : List Int} (h : q.all (okS l) = true) {i : Nat} (hi : i < q.length) : ∃ s : Nat, q.getD i 0 = (s : Int) ∧ s < 258 ∧ 0 < l.getD s 0 := by
  have h1 : okS l (q.getD i 0) = true := by
    rw [List.all_eq_true] at h
    apply h
    rw [List.getD_eq_getElem?_getD, List.getElem?_eq_getElem hi]
    exact List.getElem_mem hi
  unfold okS at h1
  rw [Bool.and_eq_true, Bool.and_eq_true, decide_eq_true_iff, decide_eq_true_iff, decide_eq_true_iff] at h1
  obtain ⟨⟨h2, h3⟩, h4⟩ := h1
  exact ⟨(q.getD i 0).toNat, by omega, by omega, h4⟩

set_option maxRecDepth 100000 in
set_option maxHeartbeats 1000000 in
theorem size_yes (l : List Int) (h : Lng l) (sp : Option Addr) (n cap : Nat) (q : List Int) (hq : q.length = n) (hn : n ≤ 10000) (w : World) (hs : Src w .i64 sp q) (hc : canV l q = true) :
    Calls Try.prog 10 #[.agg (lg l), .slice sp n cap] w fun e w' => e = .returned (.tuple #[.int .i64 (((spR l q).length : Nat) : Int), .int .i64 (spE l q)]) ∧ Below w.heap.size w w' := by
  obtain ⟨hks, hall⟩ := (canV_iff l q).1 hc
  rw [(spR_yes hc).1, (spR_yes hc).2]
  have hv := fun W => valid_call l h W
  rw [decide_eq_true hks] at hv
  have hh := fun W hs => have_call l h sp n cap q hq hn W hs
  rw [hall] at hh
  have HH := Lib.hid hh
  have HAT := Lib.hid (fun i => all_at (i := i) hall)
  have HTK := Lib.hid (fun i => spV_take l q i)
  have HEND := Lib.hid (show (spV l (q.take n)).length = (spV l q).length by rw [List.take_of_length_le (by omega)])
  have HSM := Lib.hid (fun i => (show (spV l (q.take i)).length ≤ 15 * n from Nat.le_trans (spV_len (fun s => VL.small ⟨h, hks⟩ s) _) (by rw [List.length_take]; omega)))
  clear hc hall hh
  generalize (spV l q).length = T at HEND ⊢
  have HS := Lib.hid hs
  have HQ := Lib.hid hq
  clear hs hq
  have hg := heap_alloc_last w (.cells (lg l) 23)
  have HB := Lib.hid ((Below.refl w.heap.size w).alloc (Nat.le_refl _) (.cells (lg l) 23))
  go_enter Try.func10, Try.ntmps10
  go_upto_region 1 with fail
  generalize w.alloc (.cells (lg l) 23) = w1 at hg HB ⊢
  go_upto_region 4 with (first
    | (refine wpList_load_row rfl 23 _ rfl w.heap.size rfl 23 (lg l) (0, 0) _ hg Try.underlying23 rfl (lngIk h) ?_)
    | (refine wpList_load_row_g 3 false rfl 12 rfl _ rfl rfl 23 _ rfl w.heap.size rfl 23 (lg l) (0, 0) _ hg Try.underlying23 rfl (lngIk h) ?_)
    | (with_reducible refine (hv _).mono ?_
       rintro e w2 ⟨rfl, hb2⟩
       replace hg := heap_on hb2 hg
       have HB2 := Lib.hid (HB.out.trans (hb2.mono HB.out.size))
       clear hb2)
    | (with_reducible refine (HH.out _ (HS.out.below HB2.out)).mono ?_
       rintro e w3 ⟨rfl, hb3⟩
       replace hg := heap_on hb3 hg
       have HB3 := Lib.hid (HB2.out.trans (hb3.mono HB2.out.size))
       clear hb3))
  have HG := Lib.hid hg
  clear hg hv HH
  go_wp2_with fail
  go_loopw [6, 20] (fun o v wr => ∃ (i : Nat), i ≤ n ∧ v = .int .i64 i ∧ o = .int .i64 (((spV l (q.take i)).length : Nat) : Int) ∧ Below w3.heap.size w3 wr) (fun _ v _ => n - (intOf v).toNat)
  case atStart => exact ⟨0, by omega, rfl, rfl, Below.refl _ _⟩
  case round =>
    obtain ⟨i, hi, rfl, rfl, hb⟩ := hrel
    have HBR := Lib.hid hb
    clear hb
    have hsm := HSM.out i
    by_cases hlt : i < n
    · have hiq : i < q.length := by rw [HQ.out]; exact hlt
      obtain ⟨g, o, rfl, hcb⟩ := ((HS.out.below HB3.out).below HBR.out).get hiq
      obtain ⟨s, e, hs, h0⟩ := HAT.out i hiq
      have hT := congrArg List.length (HTK.out i hiq)
      rw [List.length_append, cbV_len, e, Int.toNat_natCast] at hT
      rw [e] at hcb
      have HT := Lib.hid hT
      have c1 := lg_cell (heap_on HBR.out HG.out) h s hs
      have hbd := h.bd s
      have hln : lnN l s = (l.getD s 0).toNat := rfl
      clear e hT hiq
      generalize (spV l (q.take i)).length = X at HT hsm ⊢
      generalize lnN l s = p at HT hln
      generalize l.getD s 0 = v at c1 hbd h0 hln
      obtain rfl : v = (p : Int) := by omega
      clear hln
      go_wp2_with fail
      exact ⟨⟨i + 1, by omega, by go_num, by rw [HT.out]; go_num, HBR.out⟩, by simp [intOf]; omega⟩
    · obtain rfl : i = n := by omega
      have hE := HEND.out
      rw [hE] at hsm ⊢
      clear hE
      go_wp2_with fail
      go_returns
      exact ⟨rfl, HB3.out.trans (HBR.out.mono HB3.out.size)⟩

set_option maxRecDepth 100000 in
set_option maxHeartbeats 1000000 in
theorem size_no (l : List Int) (h : Lng l) (sp : Option Addr) (n cap : Nat) (q : List Int) (hq : q.length = n) (hn : n ≤ 10000) (w : World) (hs : Src w .i64 sp q) (hc : canV l q = false) :
    Calls Try.prog 10 #[.agg (lg l), .slice sp n cap] w fun e w' => e = .returned (.tuple #[.int .i64 (((spR l q).length : Nat) : Int), .int .i64 (spE l q)]) ∧ Below w.heap.size w w' := by
  rw [(spR_no hc).1, (spR_no hc).2]
  have hv := fun W => valid_call l h W
  have hh := fun W hs => have_call l h sp n cap q hq hn W hs
  have HS := Lib.hid hs
  clear hs
  have hg := heap_alloc_last w (.cells (lg l) 23)
  have HB := Lib.hid ((Below.refl w.heap.size w).alloc (Nat.le_refl _) (.cells (lg l) 23))
  go_enter Try.func10, Try.ntmps10
  go_upto_region 1 with fail
  generalize w.alloc (.cells (lg l) 23) = w1 at hg HB ⊢
  by_cases hks : ks l ≤ 32768
  · have hall : q.all (okS l) = false := by
      unfold canV at hc
      rw [decide_eq_true hks, Bool.true_and] at hc
      exact hc
    rw [decide_eq_true hks] at hv
    rw [hall] at hh
    have HH := Lib.hid hh
    clear hc hall hh hks
    go_wp2_with (first
      | (refine wpList_load_row rfl 23 _ rfl w.heap.size rfl 23 (lg l) (0, 0) _ hg Try.underlying23 rfl (lngIk h) ?_)
      | (refine wpList_load_row_g 3 false rfl 12 rfl _ rfl rfl 23 _ rfl w.heap.size rfl 23 (lg l) (0, 0) _ hg Try.underlying23 rfl (lngIk h) ?_)
      | (with_reducible refine (hv _).mono ?_
         rintro e w2 ⟨rfl, hb2⟩
         replace hg := heap_on hb2 hg
         have HB2 := Lib.hid (HB.out.trans (hb2.mono HB.out.size))
         clear hb2)
      | (with_reducible refine (HH.out _ (HS.out.below HB2.out)).mono ?_
         rintro e w3 ⟨rfl, hb3⟩
         replace hg := heap_on hb3 hg
         have HB3 := Lib.hid (HB2.out.trans (hb3.mono HB2.out.size))
         clear hb3))
    go_returns
    exact ⟨rfl, HB3.out⟩
  · rw [decide_eq_false hks] at hv
    clear hc hh hks
    go_wp2_with (first
      | (refine wpList_load_row rfl 23 _ rfl w.heap.size rfl 23 (lg l) (0, 0) _ hg Try.underlying23 rfl (lngIk h) ?_)
      | (refine wpList_load_row_g 3 false rfl 12 rfl _ rfl rfl 23 _ rfl w.heap.size rfl 23 (lg l) (0, 0) _ hg Try.underlying23 rfl (lngIk h) ?_)
      | (with_reducible refine (hv _).mono ?_
         rintro e w2 ⟨rfl, hb2⟩
         replace hg := heap_on hb2 hg
         have HB2 := Lib.hid (HB.out.trans (hb2.mono HB.out.size))
         clear hb2))
    go_returns
    exact ⟨rfl, HB2.out⟩
theorem size_call : SizeC := by
  intro l h sp n cap q hq hn w hs
  cases hc : canV l q with
  | true => exact size_yes l h sp n cap q hq hn w hs hc
  | false => exact size_no l h sp n cap q hq hn w hs hc
end Go.Proofs.Ytnpohkaicfcidaa
