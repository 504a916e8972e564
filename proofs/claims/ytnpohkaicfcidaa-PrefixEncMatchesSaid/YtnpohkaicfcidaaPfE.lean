/- Package prefixenc: Put where the symbols can be encoded; Spell. -/
import Derived.Test.YtnpohkaicfcidaaPfD
import Derived.Deep.DeepMust
set_option linter.unusedVariables false
set_option linter.unusedSimpArgs false
namespace Go.Proofs.Ytnpohkaicfcidaa
open Go.RowKit

/-- The loop of Put: the writer holds the codes of the first symbols. -/
structure PutK (p : Nat) (A : Option Nat) (bs : List Int) (w3 wr : World) (A' : Option Nat) (c' : Nat) (bs' : List Int) : Prop where
  st : Wr wr p A' c' bs'
  ch : Ch (Fp p A) w3 wr
  own : ∀ g, A' = some g → A = some g ∨ w3.heap.size ≤ g
theorem PutK.next {p : Nat} {A A' A2 : Option Nat} {bs bs' bs2 : List Int} {w3 wr w2 : World} {c' c2 : Nat} (h : PutK p A bs w3 wr A' c' bs') (h1 : Wr w2 p A2 c2 bs2) (h2 : Ch (Fp p A') wr w2) (h3 : ∀ g, A2 = some g → A' = some g ∨ wr.heap.size ≤ g) : PutK p A bs w3 w2 A2 c2 bs2 :=
  ⟨h1, h.ch.trans h2 (fun i hi hf => by
    rcases hf with hf | hf
    · exact .inl hf
    · rcases h.own i hf with h4 | h4
      · exact .inr h4
      · omega), fun g e => by
    rcases h3 g e with h4 | h4
    · exact h.own g h4
    · exact .inr (Nat.le_trans h.ch.size h4)⟩
theorem PutK.out {p : Nat} {A A' : Option Nat} {bs bs' : List Int} {w3 wr : World} {c' : Nat} (h : PutK p A bs w3 wr A' c' bs') {k : Nat} (hk : k < w3.heap.size) (hn : ¬ Fp p A k) : ¬ Fp p A' k := by
  rintro (rfl | e)
  · exact hn (.inl rfl)
  · rcases h.own k e with h4 | h4
    · exact hn (.inr h4)
    · omega
theorem PutK.drew {p : Nat} {A A' : Option Nat} {bs bs' : List Int} {w3 wr : World} {c' : Nat} (h : PutK p A bs w3 wr A' c' bs') : PutK p A bs w3 wr.drew A' c' bs' := ⟨h.st.drew, h.ch.drew, h.own⟩

set_option maxRecDepth 100000 in
set_option maxHeartbeats 400000 in
theorem pput_yes (l : List Int) (h : Lng l) (sp : Option Addr) (n cap : Nat) (q : List Int) (hq : q.length = n) (hn : n ≤ 10000) (w : World) (p : Nat) (A : Option Nat) (c : Nat) (bs : List Int) (hw : Wr w p A c bs) (hbs : bs.length ≤ 200000) (hS : ∀ W : World, Ch (Fp p A) w W → Src W .i64 sp q) (hc : canV l q = true) :
    Calls Try.prog 18 #[.pointer (some ⟨p, 0, none⟩), .agg (lg l), .slice sp n cap] w fun e w' => e = .returned (.int .i64 (spE l q)) ∧ ∃ A' c', Wr w' p A' c' (bs ++ spR l q) ∧ Ch (Fp p A) w w' ∧ (∀ g, A' = some g → A = some g ∨ w.heap.size ≤ g) := by
  obtain ⟨hks, hall⟩ := (canV_iff l q).1 hc
  have HV : VL l := ⟨h, hks⟩
  rw [(spR_yes hc).1, (spR_yes hc).2]
  have hz := cdsZ
  have hcc := fun W => codes_call l h W
  have hE : codE l = 0 := if_pos hks
  have hR : codR l = codT l 258 := if_pos hks
  rw [hE, hR] at hcc
  have hcd := codT_cds HV 258
  have HGET := Lib.hid (codT_get l)
  have hcs := cl_size hcd
  generalize codT l 258 = D at hcc hcd HGET hcs
  have hh := fun W hs => have_call l h sp n cap q hq hn W hs
  rw [hall] at hh
  have HH := Lib.hid hh
  have HS := Lib.hid hS
  have HAT := Lib.hid (fun i => all_at (i := i) hall)
  have HTK := Lib.hid (fun i => spV_take l q i)
  have HEND := Lib.hid (show spV l (q.take n) = spV l q by rw [List.take_of_length_le (by omega)])
  have HSM := Lib.hid (fun i => (show (spV l (q.take i)).length ≤ 15 * n from Nat.le_trans (spV_len (fun s => VL.small HV s) _) (by rw [List.length_take]; omega)))
  have HQ := Lib.hid hq
  have HW := Lib.hid hw
  clear hh hS hE hR hall hc hq hw hks
  generalize spV l q = T at HEND ⊢
  have hg := heap_alloc_last w (.cells (lg l) 23)
  have HB := Lib.hid ((Below.refl w.heap.size w).alloc (Nat.le_refl _) (.cells (lg l) 23))
  go_enter Try.func18, Try.ntmps18
  go_upto_region 1 with fail
  generalize w.alloc (.cells (lg l) 23) = w1 at hg HB ⊢
  go_upto_region 2 with (first
    | (refine wpList_load_row rfl 23 _ rfl w.heap.size rfl 23 (lg l) (0, 0) _ hg Try.underlying23 rfl (lngIk h) ?_)
    | (with_reducible refine (hcc _).mono ?_; rintro e w2 ⟨rfl, hb2⟩)
    | (refine wpList_store_row rfl 54 _ _ rfl w2.heap.size (cl D) rfl rfl 54 (cl zC) (heap_alloc_last w2 _) (cdsIk hcd) (by rw [cl_size zC_cds, hcs]) (cl_all _) ?_))
  rw [World.setRow_alloc_new]
  try simp only [Act.put]
  have hb3 := hb2.alloc (o := .cells (cl D) 54) hb2.size
  have h6 := heap_alloc_last w2 (.cells (cl D) 54)
  have hg3 := heap_on hb3 hg
  have HB3 := Lib.hid (HB.out.trans (hb3.mono HB.out.size))
  have HLT := Lib.hid (show w.heap.size ≤ w2.heap.size from Nat.le_trans HB.out.size hb2.size)
  obtain ⟨g6, hg6⟩ : ∃ g6, g6 = w2.heap.size := ⟨_, rfl⟩
  rw [← hg6] at h6 HLT ⊢
  clear hg6
  generalize w2.alloc (.cells (cl D) 54) = w3 at h6 hg3 HB3 ⊢
  clear hb2 hb3 hg HB hcc hz hcs
  go_upto_region 4 with (first
    | (refine wpList_load_row_g 6 false rfl 22 rfl _ rfl rfl 23 _ rfl w.heap.size rfl 23 (lg l) (0, 0) _ hg3 Try.underlying23 rfl (lngIk h) ?_)
    | (with_reducible refine (HH.out _ (HS.out _ (Ch.of_below HB3.out))).mono ?_
       rintro e w4 ⟨rfl, hb4⟩
       have HB4 := Lib.hid (HB3.out.trans (hb4.mono HB3.out.size))
       replace hg3 := heap_on hb4 hg3
       replace h6 := heap_on hb4 h6
       clear hb4))
  have HG := Lib.hid hg3
  have H6 := Lib.hid h6
  have HNG := Lib.hid (show ∀ k, w.heap.size ≤ k → ¬ Fp p A k from fun k hk hf => by have := HW.out.fpLt hf; omega)
  clear hg3 h6 HH HB3
  go_wp2_with fail
  go_loopw [30] (fun v wr => ∃ (i : Nat) (A' : Option Nat) (c' : Nat), i ≤ n ∧ v = .int .i64 i ∧ PutK p A bs w4 wr A' c' (bs ++ spV l (q.take i))) (fun v _ => n - (intOf v).toNat)
  case atStart => exact ⟨0, A, c, by omega, rfl, by rw [List.take_zero, show spV l [] = [] from rfl, List.append_nil]; exact ⟨HW.out.below HB4.out, Ch.refl _ _, fun g e => .inl e⟩⟩
  case round =>
    obtain ⟨i, A', c', hi, rfl, hk⟩ := hrel
    have HK := Lib.hid hk
    clear hk
    by_cases hlt : i < n
    · have hiq : i < q.length := by rw [HQ.out]; exact hlt
      have hsrc := HS.out wr ((Ch.of_below HB4.out).trans HK.out.ch (fun i _ e => e))
      obtain ⟨g, o, rfl, hcb⟩ := hsrc.get hiq
      clear hsrc
      obtain ⟨s, e, hs, h0⟩ := HAT.out i hiq
      have hT := HTK.out i hiq
      have hsm := HSM.out i
      rw [e, Int.toNat_natCast] at hT
      rw [e] at hcb
      have hT2 : (bs ++ spV l (q.take i)) ++ bitsV (cdL l s) (lnN l s) = bs ++ spV l (q.take (i + 1)) := by rw [hT, List.append_assoc]; rfl
      have HT := Lib.hid hT2
      have c1 := lg_cell (HK.out.ch.heap HG.out (HNG.out _ (Nat.le_refl _))) h s hs
      have c2 := cl_cell (HK.out.ch.heap H6.out (HNG.out _ HLT.out)) hcd s hs
      rw [HGET.out s hs h0, cdL_nat HV hs h0] at c2
      rw [cdL_nat HV hs h0] at HT
      have hbd := h.bd s
      have hcl := codeV_lt HV hs h0
      have hcm := codeV_small HV s hs
      have h15 := HV.small s
      have hln : lnN l s = (l.getD s 0).toNat := rfl
      clear e hT hT2 hiq
      have hbl : (bs ++ spV l (q.take i)).length ≤ 900000 := by rw [List.length_append]; omega
      generalize bs ++ spV l (q.take i) = X at HT HK hbl
      generalize codeV l s = C at c2 HT hcl hcm
      generalize lnN l s = k at HT hln hcl
      generalize l.getD s 0 = v at c1 hbd h0 hln h15
      obtain rfl : v = (k : Int) := by omega
      have hk15 : k ≤ 15 := by omega
      have HPC := Lib.hid (fun _ : Unit => put_yes HK.out.drew.st (C : Int) (by omega) (by omega) k (by omega) (by exact_mod_cast hcl) (by omega))
      have hn1 := HK.out.out (Array.getElem?_eq_some_iff.1 HG.out).1 (HNG.out _ (Nat.le_refl _))
      have hn2 := HK.out.out (Array.getElem?_eq_some_iff.1 H6.out).1 (HNG.out _ HLT.out)
      have HKC := Lib.hid (show ∀ W, Ch (Fp p A') wr.drew W → W.cell? ⟨g6, s, none⟩ = some (.int .u32 C) ∧ W.cell? ⟨w.heap.size, s, none⟩ = some (.int .u8 k) from fun W hW => ⟨hW.cell c2 hn2, hW.cell c1 hn1⟩)
      clear hln hcl h15 hsm hn1 hn2
      have hsI : (s : Int) < 258 := by omega
      go_upto_region 7 with fail
      have hwk : IntKind.i64.wrap (k : Int) = (k : Int) := IntWalk.i64_in _ (by omega)
      have hS0 : wr.drew.cell? ⟨g6, s, none⟩ = some (.int .u32 C) ∧ wr.drew.cell? ⟨w.heap.size, s, none⟩ = some (.int .u8 k) := ⟨c2, c1⟩
      go_region_held3 (fun W => W.cell? ⟨g6, s, none⟩ = some (.int .u32 C) ∧ W.cell? ⟨w.heap.size, s, none⟩ = some (.int .u8 k)) (first | exact hS0 | exact hS5) ((go_at_call 17; go_must ((with_reducible refine (HPC.out ()).mono ?_); rintro e w5 ⟨rfl, A5, c5, h51, h52, h53⟩; have hS5 := HKC.out w5 h52)))
      have hkk := HK.out.drew.next h51 h52 h53
      rw [HT.out] at hkk
      have HKK := Lib.hid hkk
      clear hkk h51 h52 h53 hS5 hS0
      go_wp2_with fail
      exact ⟨⟨i + 1, A5, c5, by omega, by go_num, HKK.out⟩, by simp [intOf]; omega⟩
    · obtain rfl : i = n := by omega
      have hkk := HK.out
      rw [HEND.out] at hkk
      have HKK := Lib.hid hkk
      clear hkk
      go_wp2_with fail
      go_returns
      exact ⟨rfl, A', c', HKK.out.st, (Ch.of_below HB4.out).trans HKK.out.ch (fun i _ e => e), fun g e => by
        rcases HKK.out.own g e with h1 | h1
        · exact .inl h1
        · exact .inr (Nat.le_trans HB4.out.size h1)⟩
end Go.Proofs.Ytnpohkaicfcidaa
