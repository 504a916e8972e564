/- Package prefixenc: Put whole; Spell. -/
import Derived.Test.YtnpohkaicfcidaaPfE
set_option linter.unusedVariables false
set_option linter.unusedSimpArgs false
namespace Go.Proofs.Ytnpohkaicfcidaa
open Go.RowKit

theorem put_call : PutC := by
  intro l h sp n cap q hq hn w p A c bs hw hbs hS
  cases hc : canV l q with
  | true => exact pput_yes l h sp n cap q hq hn w p A c bs hw hbs hS hc
  | false =>
    rw [(spR_no hc).1, (spR_no hc).2, List.append_nil]
    exact (pput_no l h sp n cap q hq hn w p (hS w (Ch.refl _ _)) hc).mono fun e w' ⟨h1, h2⟩ => ⟨h1, A, c, hw.below h2, Ch.of_below h2, fun g e => .inl e⟩

set_option maxRecDepth 100000 in
set_option maxHeartbeats 1000000 in
theorem spell_yes (l : List Int) (h : Lng l) (sp : Option Addr) (n cap : Nat) (q : List Int) (hq : q.length = n) (hn : n ≤ 10000) (w : World) (hs : Src w .i64 sp q) (hc : canV l q = true) :
    Calls Try.prog 8 #[.agg (lg l), .slice sp n cap] w fun e w' => ∃ v, e = .returned (.tuple #[v, .int .i64 (((spR l q).length : Nat) : Int), .int .i64 (spE l q)]) ∧ IsU (((spR l q).length + 7) / 8) (packB (spR l q)) v w' ∧ Below w.heap.size w w' := by
  have hE := (spR_yes hc).2
  have HPC := Lib.hid (fun W p A c bs hw hb hS => put_call l h sp n cap q hq hn W p A c bs hw hb hS)
  rw [hE] at HPC ⊢
  generalize spR l q = T at HPC ⊢
  have HS := Lib.hid hs
  clear hs hc hE
  have hg := heap_alloc_last w (.cells (lg l) 23)
  have HB := Lib.hid ((Below.refl w.heap.size w).alloc (Nat.le_refl _) (.cells (lg l) 23))
  go_enter Try.func8, Try.ntmps8
  go_upto_region 1 with fail
  generalize w.alloc (.cells (lg l) 23) = w1 at hg HB ⊢
  have HN := Lib.hid (fun _ : Unit => wnew_call w1)
  go_upto_region 2 with (with_reducible refine (HN.out ()).mono ?_; rintro e w2 ⟨rfl, hw2, hb2⟩)
  have hg2 := heap_on hb2 hg
  have HB2 := Lib.hid (HB.out.trans (hb2.mono HB.out.size))
  have hp1 := HB.out.size
  obtain ⟨p, hp⟩ : ∃ p, p = w1.heap.size := ⟨_, rfl⟩
  rw [← hp] at hw2 hp1 ⊢
  have HP1 := Lib.hid hp1
  have HFP := Lib.hid (show ∀ k, Fp p none k → w.heap.size ≤ k from fun k hk => by
    rcases hk with rfl | hk
    · exact HP1.out
    · cases hk)
  have HP := Lib.hid (fun _ : Unit => HPC.out w2 p none 0 [] hw2 (by simp) (fun W hW => HS.out.below (HB2.out.trans (hW.below HB2.out.size HFP.out))))
  rw [List.nil_append] at HP
  clear hp hg HN hw2 hb2 hp1
  go_upto_region 3 with (first
    | (refine wpList_load_row rfl 23 _ rfl w.heap.size rfl 23 (lg l) (0, 0) _ hg2 Try.underlying23 rfl (lngIk h) ?_)
    | (with_reducible refine (HP.out ()).mono ?_
       rintro e w3 ⟨rfl, A3, c3, hw3, hc3, ho3⟩
       have HW3 := Lib.hid hw3
       have HB3 := Lib.hid (HB2.out.trans (hc3.below HB2.out.size HFP.out))
       clear hw3 hc3 ho3))
  clear hg2 HP HPC
  have HWB := Lib.hid (fun _ : Unit => wbytes_call HW3.out)
  have HWL := Lib.hid (fun (W : World) (hb : Below w3.heap.size w3 W) => wlen_call (HW3.out.below hb))
  go_wp2_with (first
    | (with_reducible refine (HWB.out ()).mono ?_
       rintro e w4 ⟨g4, rfl, hg4, h4, hb4⟩
       have HB4 := Lib.hid (HB3.out.trans (hb4.mono HB3.out.size))
       have H4 := Lib.hid h4
       have HL := Lib.hid (fun _ : Unit => HWL.out w4 hb4)
       clear hg4 h4 hb4)
    | (with_reducible refine (HL.out ()).mono ?_
       rintro e w5 ⟨rfl, rfl⟩))
  go_returns
  exact ⟨_, rfl, ⟨_, _, rfl, Src.whole H4.out⟩, HB4.out⟩

set_option maxRecDepth 100000 in
set_option maxHeartbeats 1000000 in
theorem spell_no (l : List Int) (h : Lng l) (sp : Option Addr) (n cap : Nat) (q : List Int) (hq : q.length = n) (hn : n ≤ 10000) (w : World) (hs : Src w .i64 sp q) (hc : canV l q = false) :
    Calls Try.prog 8 #[.agg (lg l), .slice sp n cap] w fun e w' => e = .returned (.tuple #[.slice none 0 0, .int .i64 0, .int .i64 2]) ∧ Below w.heap.size w w' := by
  have HPC := Lib.hid (fun W p hS => pput_no l h sp n cap q hq hn W p hS hc)
  have HS := Lib.hid hs
  clear hs hc
  have hg := heap_alloc_last w (.cells (lg l) 23)
  have HB := Lib.hid ((Below.refl w.heap.size w).alloc (Nat.le_refl _) (.cells (lg l) 23))
  go_enter Try.func8, Try.ntmps8
  go_upto_region 1 with fail
  generalize w.alloc (.cells (lg l) 23) = w1 at hg HB ⊢
  have HN := Lib.hid (fun _ : Unit => wnew_call w1)
  go_upto_region 2 with (with_reducible refine (HN.out ()).mono ?_; rintro e w2 ⟨rfl, hw2, hb2⟩)
  have hg2 := heap_on hb2 hg
  have HB2 := Lib.hid (HB.out.trans (hb2.mono HB.out.size))
  obtain ⟨p, hp⟩ : ∃ p, p = w1.heap.size := ⟨_, rfl⟩
  rw [← hp]
  have HP := Lib.hid (fun _ : Unit => HPC.out w2 p (HS.out.below HB2.out))
  clear hp hg HN hw2 hb2
  go_wp2_with (first
    | (refine wpList_load_row rfl 23 _ rfl w.heap.size rfl 23 (lg l) (0, 0) _ hg2 Try.underlying23 rfl (lngIk h) ?_)
    | (with_reducible refine (HP.out ()).mono ?_
       rintro e w3 ⟨rfl, hb3⟩
       have HB3 := Lib.hid (HB2.out.trans (hb3.mono HB2.out.size))
       clear hb3))
  go_returns
  exact ⟨rfl, HB3.out⟩
theorem spell_call : SpellC := by
  intro l h sp n cap q hq hn w hs
  cases hc : canV l q with
  | true => exact spell_yes l h sp n cap q hq hn w hs hc
  | false =>
    rw [(spR_no hc).1, (spR_no hc).2]
    exact (spell_no l h sp n cap q hq hn w hs hc).mono fun e w' ⟨h1, h2⟩ => ⟨_, h1, ⟨none, 0, rfl, .inl rfl⟩, h2⟩
end Go.Proofs.Ytnpohkaicfcidaa
