/- Law PrefixEncMatches (genpm11.py). -/
import Derived.Test.YtnpohkaicfcidaaPfC
import Derived.Test.YtnpohkaicfcidaaPeT
set_option linter.unusedVariables false
set_option linter.unusedSimpArgs false
namespace Go.Proofs.Ytnpohkaicfcidaa
open Go.RowKit

theorem bitsV_one (x : Int) (h : x = 0 ∨ x = 1) : bitsV x 1 = [x] := by rcases h with rfl | rfl <;> rfl
/-- The writer (its bits q) and the list of bits r beside it. -/
structure MtK (wb : World) (p : Nat) (B : Option Nat) (cB : Nat) (q : List Int) (A : Option Nat) (c : Nat) (r : List Int) (W : World) : Prop where
  st : Wr W p B cB q
  all : OwnS W .i64 3 A c r
  fp : ∀ k, Fp p B k → wb.heap.size ≤ k
  new : ∀ g, A = some g → wb.heap.size ≤ g
  bel : Below wb.heap.size wb W
section
variable {wb W W' : World} {p cB c : Nat} {A B : Option Nat} {q r : List Int}
theorem MtK.sep (h : MtK wb p B cB q A c r W) {g : Nat} (e : A = some g) : ¬ Fp p B g := by
  subst e
  obtain ⟨cur, h1, _⟩ := h.all.row
  rintro (rfl | rfl)
  · have h2 := h.st.hp
    rw [h1] at h2
    injection h2 with h2
    injection h2 with _ h2 _
    revert h2
    decide
  · obtain ⟨cur2, h2, _⟩ := h.st.row.row
    rw [h1] at h2
    injection h2 with h2
    injection h2 with _ h2 _
    revert h2
    decide
theorem MtK.put {B' : Option Nat} {cB' : Nat} {q2 : List Int} (h : MtK wb p B cB q A c r W) (h1 : Wr W' p B' cB' q2) (h2 : Ch (Fp p B) W W') (h3 : ∀ g, B' = some g → B = some g ∨ W.heap.size ≤ g) : MtK wb p B' cB' q2 A c r W' :=
  ⟨h1, h.all.ch h2 (fun g e => h.sep e), fun k hk => by
    rcases hk with hk | hk
    · exact h.fp k (.inl hk)
    · rcases h3 k hk with h4 | h4
      · exact h.fp k (.inr h4)
      · exact Nat.le_trans h.bel.size h4, h.new, h.bel.trans (h2.below h.bel.size h.fp)⟩
theorem MtK.app {A' : Option Nat} {c' : Nat} {r2 : List Int} (h : MtK wb p B cB q A c r W) (h1 : OwnS W' .i64 3 A' c' r2) (h2 : W.grownBy W' A) (h3 : A' = A ∨ A' = some W.heap.size) : MtK wb p B cB q A' c' r2 W' :=
  ⟨h.st.ch (Ch.of_grown (S := fun k => A = some k) h2 (fun k e => e)) (fun k hk e => h.sep e hk), h1, h.fp, fun g e => by
    rcases h3 with h3 | h3
    · exact h.new g (h3 ▸ e)
    · rw [h3] at e
      injection e with e
      have := h.bel.size
      omega, h.bel.grown h2 h.bel.size (fun g e => h.new g e)⟩
theorem MtK.on (h : MtK wb p B cB q A c r W) (hb : Below W.heap.size W W') : MtK wb p B cB q A c r W' := ⟨h.st.below hb, h.all.below hb, h.fp, h.new, h.bel.trans (hb.mono h.bel.size)⟩
theorem MtK.alloc (h : MtK wb p B cB q A c r W) (ob : Obj) : MtK wb p B cB q A c r (W.alloc ob) := h.on ((Below.refl _ _).alloc (Nat.le_refl _) _)
end
theorem rpack_at (W : World) (sp : Option Addr) (N c n : Nat) (bs P : List Int) (hl : bs.length = N) (hS : Src W .i64 sp bs) (hb : Bin bs) (hN : N ≤ 200000) (hn : (bs.length + 7) / 8 = n) (hp : packB bs = P) :
    Calls Try.prog 22 #[.slice sp N c] W fun e w' => ∃ v, e = .returned v ∧ IsU n P v w' ∧ Below W.heap.size W w' := by
  subst hn
  subst hp
  subst hl
  exact (rpack_call sp _ c bs rfl hb hN W hS).mono fun e w' ⟨g, h1, _, h3, h4⟩ => ⟨_, h1, ⟨_, _, rfl, Src.whole h3⟩, h4⟩

set_option maxRecDepth 100000 in
set_option maxHeartbeats 4000000 in
theorem matches_long (l : List Int) (sp : Option Addr) (n cap : Nat) (hn : n ≤ 9223372036854775807) (bp : Option Addr) (nb cb : Nat) (hnb : nb ≤ 9223372036854775807) (M : Int) (ap : Option Addr) (na ca : Nat) (hna : na ≤ 9223372036854775807) (F : Int)
    (h : 100 < n ∨ 100 < nb ∨ 20 < na ∨ F < 0 ∨ 8 * (na : Int) < F) (w : World) :
    Calls Try.prog 3 #[.agg (lg l), .slice sp n cap, .slice bp nb cb, .int .i64 M, .slice ap na ca, .int .i64 F] w fun e w' => e = .returned (.bool true) ∧ Below w.heap.size w w' := by
  have hwk := fun W => wakes_call W
  have HB := Lib.hid ((Below.refl w.heap.size w).alloc (Nat.le_refl _) (.cells (lg l) 23))
  go_enter Try.func3, Try.ntmps3
  go_upto_region 1 with fail
  generalize w.alloc (.cells (lg l) 23) = w1 at HB ⊢
  by_cases h1 : 100 < n
  · have d1 : decide ((100 : Int) < (n : Int)) = true := decide_eq_true (by omega)
    clear h
    go_wp2_with (with_reducible refine (hwk _).mono ?_; rintro e z ⟨rfl, hb⟩)
    go_ret
    exact ⟨rfl, HB.out.trans (hb.mono HB.out.size)⟩
  have d1 : decide ((100 : Int) < (n : Int)) = false := decide_eq_false (by omega)
  by_cases h2 : 100 < nb
  · have d2 : decide ((100 : Int) < (nb : Int)) = true := decide_eq_true (by omega)
    clear h
    go_wp2_with (with_reducible refine (hwk _).mono ?_; rintro e z ⟨rfl, hb⟩)
    go_ret
    exact ⟨rfl, HB.out.trans (hb.mono HB.out.size)⟩
  have d2 : decide ((100 : Int) < (nb : Int)) = false := decide_eq_false (by omega)
  by_cases h3 : 20 < na
  · have d3 : decide ((20 : Int) < (na : Int)) = true := decide_eq_true (by omega)
    clear h
    go_wp2_with (with_reducible refine (hwk _).mono ?_; rintro e z ⟨rfl, hb⟩)
    go_ret
    exact ⟨rfl, HB.out.trans (hb.mono HB.out.size)⟩
  have d3 : decide ((20 : Int) < (na : Int)) = false := decide_eq_false (by omega)
  by_cases h4 : F < 0
  · have d4 : decide (F < 0) = true := decide_eq_true (by omega)
    clear h
    go_wp2_with (with_reducible refine (hwk _).mono ?_; rintro e z ⟨rfl, hb⟩)
    go_ret
    exact ⟨rfl, HB.out.trans (hb.mono HB.out.size)⟩
  have d4 : decide (F < 0) = false := decide_eq_false (by omega)
  have d5 : decide (8 * (na : Int) < F) = true := decide_eq_true (by omega)
  clear h
  go_wp2_with (with_reducible refine (hwk _).mono ?_; rintro e z ⟨rfl, hb⟩)
  go_ret
  exact ⟨rfl, HB.out.trans (hb.mono HB.out.size)⟩

set_option maxRecDepth 100000 in
set_option maxHeartbeats 8000000 in
theorem matches_short (l : List Int) (h : Lng l) (sp : Option Addr) (n cap : Nat) (q : List Int) (hq : q.length = n) (hn : n ≤ 100) (bp : Option Addr) (nb cb : Nat) (bl : List Int) (hbl : bl.length = nb) (hby : Byts bl) (hnb : nb ≤ 100) (M : Int) (hM : -9223372036854775808 ≤ M ∧ M ≤ 9223372036854775807)
    (ap : Option Addr) (na ca : Nat) (al : List Int) (hal : al.length = na) (hay : Byts al) (hna : na ≤ 20) (f : Nat) (hf : f ≤ 8 * na) (w : World) (hs : Src w .i64 sp q) (hbs : Src w .u8 bp bl) (has : Src w .u8 ap al) :
    Calls Try.prog 3 #[.agg (lg l), .slice sp n cap, .slice bp nb cb, .int .i64 M, .slice ap na ca, .int .i64 (f : Int)] w fun e w' => e = .returned (.bool true) ∧ Below w.heap.size w w' := by
  obtain ⟨X, hX⟩ : ∃ X, X = (spR l q).length := ⟨_, rfl⟩
  obtain ⟨E, hE⟩ : ∃ E, E = spE l q := ⟨_, rfl⟩
  obtain ⟨n1, hn1⟩ : ∃ n1, n1 = (X + 7) / 8 := ⟨_, rfl⟩
  have HSP := Lib.hid (fun (W : World) (hS : Src W .i64 sp q) => show Calls Try.prog 8 #[.agg (lg l), .slice sp n cap] W fun e w' => ∃ v, e = .returned (.tuple #[v, .int .i64 X, .int .i64 E]) ∧ IsU n1 (packB (spR l q)) v w' ∧ Below W.heap.size W w' from by
    rw [hn1, hX, hE]
    exact spell_call l h sp n cap q hq (by omega) W hS)
  have HRS := Lib.hid (fun (W : World) (hS : Src W .i64 sp q) => show Calls Try.prog 9 #[.agg (lg l), .slice sp n cap] W fun e w' => ∃ v, e = .returned (.tuple #[v, .int .i64 X, .int .i64 E]) ∧ IsU n1 (packB (spR l q)) v w' ∧ Below W.heap.size W w' from by
    rw [hn1, hX, hE]
    exact rspell_call l h sp n cap q hq (by omega) W hS)
  have HSZ := Lib.hid (fun (W : World) (hS : Src W .i64 sp q) => show Calls Try.prog 10 #[.agg (lg l), .slice sp n cap] W fun e w' => e = .returned (.tuple #[.int .i64 X, .int .i64 E]) ∧ Below W.heap.size W w' from by
    rw [hX, hE]
    exact size_call l h sp n cap q hq (by omega) W hS)
  have HRZ := Lib.hid (fun (W : World) (hS : Src W .i64 sp q) => show Calls Try.prog 11 #[.agg (lg l), .slice sp n cap] W fun e w' => e = .returned (.tuple #[.int .i64 X, .int .i64 E]) ∧ Below W.heap.size W w' from by
    rw [hX, hE]
    exact rsize_call l h sp n cap q hq (by omega) W hS)
  have HRB := Lib.hid (fun (W : World) (hS : Src W .i64 sp q) => show Calls Try.prog 19 #[.agg (lg l), .slice sp n cap] W fun e w' => ∃ A c, e = .returned (.tuple #[.slice (ad0 A) X c, .bool (canV l q)]) ∧ NewO W w' A c (spR l q) from by
    rw [hX]
    exact rbits_call l h sp n cap q hq (by omega) W hS)
  have HPU := Lib.hid (fun (W : World) (p : Nat) (B : Option Nat) (c : Nat) (bs : List Int) (hw : Wr W p B c bs) (hb : bs.length ≤ 200000) (hS : ∀ W' : World, Ch (Fp p B) W W' → Src W' .i64 sp q) => show Calls Try.prog 18 #[.pointer (some ⟨p, 0, none⟩), .agg (lg l), .slice sp n cap] W fun e w' => e = .returned (.int .i64 E) ∧ ∃ A' c', Wr w' p A' c' (bs ++ spR l q) ∧ Ch (Fp p B) W w' ∧ (∀ g, A' = some g → B = some g ∨ W.heap.size ≤ g) from by
    rw [hE]
    exact put_call l h sp n cap q hq (by omega) W p B c bs hw hb hS)
  have hX15 : X ≤ 1500 := by rw [hX]; have := spR_len (q := q) h; omega
  have HXB := Lib.hid (spR_bin l q)
  have HXL := Lib.hid hX.symm
  have HPL := Lib.hid (show (packB (spR l q)).length = n1 by rw [packB_length, ← hX, hn1])
  clear hX hE hn1
  generalize canV l q = V at HRB
  generalize spR l q = x at HSP HRS HRB HPU HXB HXL HPL
  generalize packB x = PX at HSP HRS HPL
  obtain ⟨T, hT⟩ : ∃ T, T = (rdR l bl M).getD [] := ⟨_, rfl⟩
  obtain ⟨Z, hZ⟩ : ∃ Z : Int, Z = if (rdR l bl M).isSome then 0 else 2 := ⟨_, rfl⟩
  obtain ⟨m, hm⟩ : ∃ m, m = T.length := ⟨_, rfl⟩
  have hm8 : m ≤ 8 * nb := by
    rw [hm, hT, ← hbl]
    cases e : rdR l bl M with
    | none => simp
    | some y => exact rdR_len e
  have HRD := Lib.hid (fun (W : World) (hS : Src W .u8 bp bl) => show Calls Try.prog 12 #[.agg (lg l), .slice bp nb cb, .int .i64 M] W fun e w' => ∃ A c, e = .returned (.tuple #[.slice (ad0 A) m c, .int .i64 Z]) ∧ NewO W w' A c T from by
    rw [hm, hZ, hT]
    exact read_call l h bp nb cb bl hbl hby (by omega) M hM W hS)
  have HRR := Lib.hid (fun (W : World) (hS : Src W .u8 bp bl) => show Calls Try.prog 13 #[.agg (lg l), .slice bp nb cb, .int .i64 M] W fun e w' => ∃ A c, e = .returned (.tuple #[.slice (ad0 A) m c, .int .i64 Z]) ∧ NewO W w' A c T from by
    rw [hm, hZ, hT]
    exact rread_call l h bp nb cb bl hbl hby (by omega) M W hS)
  have HIN := Lib.hid (fun (a1 a2 : Option Addr) (c1 c2 : Nat) (W : World) (h1 : Src W .i64 a1 T) (h2 : Src W .i64 a2 T) => show Calls Try.prog 14 #[.slice a1 m c1, .slice a2 m c2] W fun r w' => r = .returned (.bool true) ∧ Below W.heap.size W w' from by
    have := ints_call a1 a2 m m c1 c2 T T W hm.symm hm.symm h1 h2 (by omega) (by omega)
    rw [decide_eq_true rfl] at this
    exact this)
  clear hT hZ hm hbl hby hM
  obtain ⟨y, hy⟩ : ∃ y, y = (bitsB al).take f := ⟨_, rfl⟩
  have HBI := Lib.hid (fun (i : Nat) (hi : i < f) (W : World) (hS : Src W .u8 ap al) => show Calls Try.prog 16 #[.slice ap na ca, .int .i64 i] W fun x w' => x = .returned (.int .i64 (y.getD i 0)) ∧ W = w' from by
    have h1 := bit_call W ap na ca al hal hS hay i (by omega) (by omega)
    have h2 : y.getD i 0 = (bitsB al).getD i 0 := by
      rw [hy]
      simp [List.getD_eq_getElem?_getD, List.getElem?_take, hi]
    rw [h2]
    exact h1)
  have HYL := Lib.hid (show y.length = f by rw [hy, List.length_take, bitsB_length, hal]; omega)
  have HYB := Lib.hid (show Bin y by rw [hy]; exact fun x hx => bitsB_bin al x (List.mem_of_mem_take hx))
  have hf160 : f ≤ 160 := by omega
  clear hy hay
  have HWK := Lib.hid (fun W => wakes_call W)
  have HS := Lib.hid hs
  have HBS := Lib.hid hbs
  have HAS := Lib.hid has
  have d1 : decide ((100 : Int) < (n : Int)) = false := decide_eq_false (by omega)
  have d1n : decide (100 < n) = false := decide_eq_false (by omega)
  have d2 : decide ((100 : Int) < (nb : Int)) = false := decide_eq_false (by omega)
  have d2n : decide (100 < nb) = false := decide_eq_false (by omega)
  have d3 : decide ((20 : Int) < (na : Int)) = false := decide_eq_false (by omega)
  have d3n : decide (20 < na) = false := decide_eq_false (by omega)
  have d4 : decide ((f : Int) < 0) = false := decide_eq_false (by omega)
  have d5 : decide (8 * (na : Int) < (f : Int)) = false := decide_eq_false (by omega)
  have d5n : decide (8 * na < f) = false := decide_eq_false (by omega)
  clear hs hbs has hq hal
  have HG := Lib.hid (heap_alloc_last w (.cells (lg l) 23))
  have HB := Lib.hid ((Below.refl w.heap.size w).alloc (Nat.le_refl _) (.cells (lg l) 23))
  go_enter Try.func3, Try.ntmps3
  go_upto_region 1 with fail
  generalize w.alloc (.cells (lg l) 23) = w1 at HG HB ⊢
  go_upto_region 3 with fail
  clear d1 d1n d2 d2n d3 d3n d4 d5 d5n
  go_upto_region 4 with (first
    | (refine wpList_load_row rfl 23 _ rfl w.heap.size rfl 23 (lg l) (0, 0) _ HG.out Try.underlying23 rfl (lngIk h) ?_)
    | ((with_reducible refine (HSP.out _ (HS.out.below HB.out)).mono ?_); rintro e x3 ⟨v3, rfl, ⟨a3, c3, rfl, hs3⟩, hbx⟩))
  replace HG := Lib.hid (heap_on hbx HG.out)
  have H3 := Lib.hid hs3
  clear hs3
  replace HB := Lib.hid (HB.out.trans (hbx.mono HB.out.size))
  clear hbx
  go_upto_region 5 with (first
    | (refine wpList_load_row rfl 23 _ rfl w.heap.size rfl 23 (lg l) (0, 0) _ HG.out Try.underlying23 rfl (lngIk h) ?_)
    | ((with_reducible refine (HRS.out _ (HS.out.below HB.out)).mono ?_); rintro e x4 ⟨v4, rfl, ⟨a4, c4, rfl, hs4⟩, hbx⟩))
  replace HG := Lib.hid (heap_on hbx HG.out)
  replace H3 := Lib.hid (H3.out.below hbx)
  have H4 := Lib.hid hs4
  clear hs4
  replace HB := Lib.hid (HB.out.trans (hbx.mono HB.out.size))
  clear hbx
  go_upto_region 6 with (first
    | (refine wpList_load_row rfl 23 _ rfl w.heap.size rfl 23 (lg l) (0, 0) _ HG.out Try.underlying23 rfl (lngIk h) ?_)
    | ((with_reducible refine (HSZ.out _ (HS.out.below HB.out)).mono ?_); rintro e x5 ⟨rfl, hbx⟩))
  replace HG := Lib.hid (heap_on hbx HG.out)
  replace H3 := Lib.hid (H3.out.below hbx)
  replace H4 := Lib.hid (H4.out.below hbx)
  replace HB := Lib.hid (HB.out.trans (hbx.mono HB.out.size))
  clear hbx
  go_upto_region 7 with (first
    | (refine wpList_load_row rfl 23 _ rfl w.heap.size rfl 23 (lg l) (0, 0) _ HG.out Try.underlying23 rfl (lngIk h) ?_)
    | ((with_reducible refine (HRZ.out _ (HS.out.below HB.out)).mono ?_); rintro e x6 ⟨rfl, hbx⟩))
  replace HG := Lib.hid (heap_on hbx HG.out)
  replace H3 := Lib.hid (H3.out.below hbx)
  replace H4 := Lib.hid (H4.out.below hbx)
  replace HB := Lib.hid (HB.out.trans (hbx.mono HB.out.size))
  clear hbx
  clear HSP HRS HSZ HRZ
  go_upto_region 8 with (first
    | (refine wpList_load_row rfl 23 _ rfl w.heap.size rfl 23 (lg l) (0, 0) _ HG.out Try.underlying23 rfl (lngIk h) ?_)
    | ((with_reducible refine (HRD.out _ (HBS.out.below HB.out)).mono ?_); rintro e x7 ⟨A7, c7, rfl, hs7⟩))
  replace HG := Lib.hid (heap_on hs7.bel HG.out)
  replace H3 := Lib.hid (H3.out.below hs7.bel)
  replace H4 := Lib.hid (H4.out.below hs7.bel)
  have H7 := Lib.hid hs7.own.src
  replace HB := Lib.hid (HB.out.trans (hs7.bel.mono HB.out.size))
  clear hs7
  go_upto_region 9 with (first
    | (refine wpList_load_row rfl 23 _ rfl w.heap.size rfl 23 (lg l) (0, 0) _ HG.out Try.underlying23 rfl (lngIk h) ?_)
    | ((with_reducible refine (HRR.out _ (HBS.out.below HB.out)).mono ?_); rintro e x8 ⟨A8, c8, rfl, hs8⟩))
  replace HG := Lib.hid (heap_on hs8.bel HG.out)
  replace H3 := Lib.hid (H3.out.below hs8.bel)
  replace H4 := Lib.hid (H4.out.below hs8.bel)
  replace H7 := Lib.hid (H7.out.below hs8.bel)
  have H8 := Lib.hid hs8.own.src
  replace HB := Lib.hid (HB.out.trans (hs8.bel.mono HB.out.size))
  clear hs8
  clear HRD HRR HBS
  have hcv3 := run_bstr (P := Try.prog) sliceT byteT strT x8 a3 n1 c3 PX HPL.out H3.out
  have hcv4 := run_bstr (P := Try.prog) sliceT byteT strT x8 a4 n1 c4 PX HPL.out H4.out
  have hE : (E != E) = false := by simp
  have hZ : (Z != Z) = false := by simp
  have hi8 := HIN.out (ad0 A7) (ad0 A8) c7 c8 x8 H7.out H8.out
  have HI8 := Lib.hid (fun _ : Unit => hi8)
  clear hi8
  go_upto_region 11 with (with_reducible refine (HI8.out ()).mono ?_; rintro e x9 ⟨rfl, hbx⟩)
  replace HG := Lib.hid (heap_on hbx HG.out)
  replace HB := Lib.hid (HB.out.trans (hbx.mono HB.out.size))
  clear hbx H3 H4 H7 H8 hcv3 hcv4 hE hZ HI8 HIN HPL
  go_upto_region 12 with (with_reducible refine (wnew_call x9).mono ?_; rintro e x11 ⟨rfl, hw11, hbx⟩)
  obtain ⟨p, hp⟩ : ∃ p, p = x9.heap.size := ⟨_, rfl⟩
  rw [← hp] at hw11 ⊢
  have HK := Lib.hid (show MtK x9 p none 0 [] none 0 [] x11 from ⟨hw11, OwnS.nil _ _ _, fun k hk => by (rcases hk with rfl | hk); (exact Nat.le_of_eq hp.symm); (cases hk), (fun g e => by cases e), hbx⟩)
  clear hp hw11 hbx
  go_wp2_with fail
  go_loopw [28, 29] (fun o v wr => ∃ (k : Nat) (B : Option Nat) (cB : Nat) (A : Option Nat) (c : Nat), k ≤ f ∧ v = .int .i64 k ∧ o = .slice (ad0 A) k c ∧ MtK x9 p B cB (y.take k) A c (y.take k) wr) (fun _ v _ => f - (intOf v).toNat)
  case atStart => exact ⟨0, none, 0, none, 0, by omega, rfl, rfl, by rw [List.take_zero]; exact HK.out⟩
  case round =>
    obtain ⟨k, B, cB, A, c, hk, rfl, rfl, hkk⟩ := hrel
    replace HK := Lib.hid hkk
    clear hkk
    by_cases hlt : k < f
    · have hky : k < y.length := by rw [HYL.out]; exact hlt
      have hbc := HBI.out k hlt wr ((HAS.out.below HB.out).below (HK.out.bel.mono (Nat.le_refl _)))
      have HBC := Lib.hid (fun _ : Unit => hbc)
      have hb01 := HYB.out.getD k
      have HTK := Lib.hid (take_succD y k hky)
      clear hbc
      generalize y.getD k 0 = b at HBC hb01 HTK
      have hwb : IntKind.u32.wrap b = b := IntWalk.u32_in _ (by omega)
      have hyl : (y.take k).length = k := by rw [List.length_take]; omega
      have HYK := Lib.hid hyl
      have HPC := Lib.hid (fun _ : Unit => show Calls Try.prog 17 #[.pointer (some ⟨p, 0, none⟩), .int .u32 b, .int .i64 1] wr fun e w' => e = .returned (.bool true) ∧ ∃ A' c', Wr w' p A' c' (y.take (k + 1)) ∧ Ch (Fp p B) wr w' ∧ (∀ g, A' = some g → B = some g ∨ wr.heap.size ≤ g) from by
        have h1 := put_yes HK.out.st b (by omega) (by omega) 1 (by decide) (by omega) (by omega)
        rw [bitsV_one b hb01, ← HTK.out] at h1
        exact h1)
      clear hky hyl
      go_wp2_with (first
        | (with_reducible refine (HBC.out ()).mono ?_; rintro e z ⟨rfl, rfl⟩)
        | (with_reducible refine (HPC.out ()).mono ?_; rintro e z ⟨rfl, B2, cB2, hw2, hc2, ho2⟩
           have HK2 := Lib.hid (HK.out.put hw2 hc2 ho2)
           clear hw2 hc2 ho2)
        | (refine wpList_appendI rfl _ _ 24 rfl 3 .i64 8 intsT intI A c (y.take k) k HYK.out rfl (HK2.out.all.alloc _) (some ⟨z.heap.size, 0, none⟩) 1 1 rfl [b] rfl (Src.whole (l := [b]) (heap_alloc_last z _)) (by unfold maxLen; omega) (by omega) ?_
           intro A' c' z2 h1 h2 h3
           have hk3 := (HK2.out.alloc _).app h1 h2 h3
           rw [← HTK.out] at hk3
           have HK3 := Lib.hid hk3
           clear hk3))
      exact ⟨⟨k + 1, B2, cB2, A', c', by omega, by go_num, rfl, HK3.out⟩, by simp [intOf]; omega⟩
    · obtain rfl : k = f := by omega
      have hkk := HK.out
      rw [List.take_of_length_le (by rw [HYL.out]; exact Nat.le_refl _)] at hkk
      replace HK := Lib.hid hkk
      clear hkk HBI HAS
      have HPQ := Lib.hid (fun _ : Unit => HPU.out wr p B cB y HK.out.st (by rw [HYL.out]; omega) (fun W hW => (HS.out.below HB.out).below (HK.out.bel.trans (hW.below HK.out.bel.size HK.out.fp))))
      have hg21 := heap_on HK.out.bel HG.out
      go_upto_region 22 with (first
        | (refine wpList_load_row rfl 23 _ rfl w.heap.size rfl 23 (lg l) (0, 0) _ hg21 Try.underlying23 rfl (lngIk h) ?_)
        | (with_reducible refine (HPQ.out ()).mono ?_; rintro e z21 ⟨rfl, B2, cB2, hw2, hc2, ho2⟩
           have HK2 := Lib.hid (HK.out.put hw2 hc2 ho2)
           clear hw2 hc2 ho2))
      have hg22 := heap_on HK2.out.bel HG.out
      clear hg21 HPQ HPU
      go_upto_region 23 with (first
        | (refine wpList_load_row rfl 23 _ rfl w.heap.size rfl 23 (lg l) (0, 0) _ hg22 Try.underlying23 rfl (lngIk h) ?_)
        | (with_reducible refine (HRB.out _ ((HS.out.below HB.out).below HK2.out.bel)).mono ?_; rintro e z22 ⟨A22, c22, rfl, hs22⟩))
      have HK3 := Lib.hid (HK2.out.on hs22.bel)
      have H22 := Lib.hid hs22.own.src
      clear hg22 hs22 HRB
      go_upto_region 24 with (refine wpList_appendI rfl _ _ 24 rfl 3 .i64 8 intsT intI A c y k HYL.out rfl HK3.out.all (ad0 A22) X c22 rfl x HXL.out H22.out (by unfold maxLen; omega) (by omega) ?_
                              intro A' c' z23 h1 h2 h3)
      have HK4 := Lib.hid (HK3.out.app h1 h2 h3)
      have HB4 := Lib.hid (HB.out.trans (HK4.out.bel.mono HB.out.size))
      obtain ⟨N, hN⟩ : ∃ N, N = k + X := ⟨_, rfl⟩
      have HN := Lib.hid (show (y ++ x).length = N by rw [List.length_append, HYL.out, HXL.out, hN])
      have HNB := Lib.hid (show Bin (y ++ x) from HYB.out.append HXB.out)
      have hN2 : N ≤ 2000 := by omega
      rw [← hN]
      obtain ⟨n2, hn2⟩ : ∃ n2, ((y ++ x).length + 7) / 8 = n2 := ⟨_, rfl⟩
      obtain ⟨PB, hPB⟩ : ∃ PB, packB (y ++ x) = PB := ⟨_, rfl⟩
      have HN2 := Lib.hid hn2
      have HPB := Lib.hid hPB
      have HPL := Lib.hid (show PB.length = n2 by rw [← hPB, packB_length, hn2])
      clear hn2 hPB h1 h2 h3 HB HS HG HK HK2 HK3 H22 hN HXL HYL HXB HYB
      generalize y ++ x = yx at HK4 HN HNB HN2 HPB

      refine wp_region_inv (J := Js [eqv (.int .i64 E), eqv (.int .i64 E), eqv (.bool true), eqv (.bool true), eqv (.pointer (some ⟨p, 0, none⟩)), eqv (.int .i64 N), eqv (.slice (ad0 A') N c'), eqv (.int .i64 N), eqv (.bool true), eqv (.bool true), eqv (.bool true), eqv (.pointer (some ⟨p, 0, none⟩)), IsU n2 PB, eqv (.string (bstr PB)), eqv (.slice (ad0 A') N c'), IsU n2 PB, eqv (.string (bstr PB)), eqv (.bool true), eqv (.bool true), eqv (.bool true), eqv (.bool true), eqv (.bool true), eqv (.bool true)]) (ds := [167, 168, 169, 170, 171, 172, 173, 174, 175, 176, 177, 178, 179, 180, 181, 182, 183, 184, 185, 186, 187, 188, 12]) (N := 189)
        (B := [(31, .int .i64 E), (15, .int .i64 E), (27, .pointer (some ⟨p, 0, none⟩)), (28, .slice (ad0 A') N c')]) (by kernel_rfl) (by kernel_rfl) (Js_mono ⟨eqv_mono _, eqv_mono _, eqv_mono _, eqv_mono _, eqv_mono _, eqv_mono _, eqv_mono _, eqv_mono _, eqv_mono _, eqv_mono _, eqv_mono _, eqv_mono _, IsU_mono _ _, eqv_mono _, eqv_mono _, IsU_mono _ _, eqv_mono _, eqv_mono _, eqv_mono _, eqv_mono _, eqv_mono _, eqv_mono _, eqv_mono _, trivial⟩) rfl rfl (by simp) ?_ ?_
      · refine ⟨?_, ?_, ?_, ?_, ?_, ?_, ?_, ?_, ?_, ?_, ?_, ?_, ?_, ?_, ?_, ?_, ?_, ?_, ?_, ?_, ?_, ?_, ?_, trivial⟩
        · intro a w' hb hdep K hK
          have c31 := hb.at 0 31 _ rfl
          clear hdep
          go_simp
          exact hK _ _ rfl (Below.refl _ _)
        · intro a w' hb hdep K hK
          have c15 := hb.at 1 15 _ rfl
          clear hdep
          go_simp
          exact hK _ _ rfl (Below.refl _ _)
        · intro a w' hb hdep K hK
          obtain ⟨v0, e0, j0⟩ := hdep 0 (by kernel_rfl)
          replace e0 : a.tmps[167]? = some v0 := e0
          obtain rfl : v0 = _ := j0
          obtain ⟨v1, e1, j1⟩ := hdep 1 (by kernel_rfl)
          replace e1 : a.tmps[168]? = some v1 := e1
          obtain rfl : v1 = _ := j1
          clear hdep
          go_simp
          exact hK _ _ rfl (Below.refl _ _)
        · intro a w' hb hdep K hK
          obtain ⟨v2, e2, j2⟩ := hdep 2 (by kernel_rfl)
          replace e2 : a.tmps[169]? = some v2 := e2
          obtain rfl : v2 = _ := j2
          clear hdep
          go_simp
          exact hK _ _ rfl (Below.refl _ _)
        · intro a w' hb hdep K hK
          have c27 := hb.at 2 27 _ rfl
          obtain ⟨v3, e3, j3⟩ := hdep 3 (by kernel_rfl)
          replace e3 : a.tmps[170]? = some v3 := e3
          obtain rfl : v3 = _ := j3
          clear hdep
          go_simp
          exact hK _ _ rfl (Below.refl _ _)
        · intro a w' hb hdep K hK
          obtain ⟨v4, e4, j4⟩ := hdep 4 (by kernel_rfl)
          replace e4 : a.tmps[171]? = some v4 := e4
          obtain rfl : v4 = _ := j4
          obtain ⟨v3, e3, j3⟩ := hdep 3 (by kernel_rfl)
          replace e3 : a.tmps[170]? = some v3 := e3
          obtain rfl : v3 = _ := j3
          clear hdep
          go_simp
          go_at_call 20
          refine (wlen_at (HK4.out.st.below hb.bel) HN.out).mono ?_
          rintro e w20 ⟨rfl, rfl⟩
          exact hK _ _ rfl (Below.refl _ _)
        · intro a w' hb hdep K hK
          have c28 := hb.at 3 28 _ rfl
          obtain ⟨v3, e3, j3⟩ := hdep 3 (by kernel_rfl)
          replace e3 : a.tmps[170]? = some v3 := e3
          obtain rfl : v3 = _ := j3
          clear hdep
          go_simp
          exact hK _ _ rfl (Below.refl _ _)
        · intro a w' hb hdep K hK
          obtain ⟨v6, e6, j6⟩ := hdep 6 (by kernel_rfl)
          replace e6 : a.tmps[173]? = some v6 := e6
          obtain rfl : v6 = _ := j6
          obtain ⟨v3, e3, j3⟩ := hdep 3 (by kernel_rfl)
          replace e3 : a.tmps[170]? = some v3 := e3
          obtain rfl : v3 = _ := j3
          clear hdep
          go_simp
          exact hK _ _ rfl (Below.refl _ _)
        · intro a w' hb hdep K hK
          obtain ⟨v5, e5, j5⟩ := hdep 5 (by kernel_rfl)
          replace e5 : a.tmps[172]? = some v5 := e5
          obtain rfl : v5 = _ := j5
          obtain ⟨v7, e7, j7⟩ := hdep 7 (by kernel_rfl)
          replace e7 : a.tmps[174]? = some v7 := e7
          obtain rfl : v7 = _ := j7
          obtain ⟨v3, e3, j3⟩ := hdep 3 (by kernel_rfl)
          replace e3 : a.tmps[170]? = some v3 := e3
          obtain rfl : v3 = _ := j3
          clear hdep
          go_simp
          exact hK _ _ rfl (Below.refl _ _)
        · intro a w' hb hdep K hK
          obtain ⟨v3, e3, j3⟩ := hdep 3 (by kernel_rfl)
          replace e3 : a.tmps[170]? = some v3 := e3
          obtain rfl : v3 = _ := j3
          obtain ⟨v8, e8, j8⟩ := hdep 8 (by kernel_rfl)
          replace e8 : a.tmps[175]? = some v8 := e8
          obtain rfl : v8 = _ := j8
          clear hdep
          go_simp
          exact hK _ _ rfl (Below.refl _ _)
        · intro a w' hb hdep K hK
          obtain ⟨v9, e9, j9⟩ := hdep 9 (by kernel_rfl)
          replace e9 : a.tmps[176]? = some v9 := e9
          obtain rfl : v9 = _ := j9
          clear hdep
          go_simp
          exact hK _ _ rfl (Below.refl _ _)
        · intro a w' hb hdep K hK
          have c27 := hb.at 2 27 _ rfl
          obtain ⟨v10, e10, j10⟩ := hdep 10 (by kernel_rfl)
          replace e10 : a.tmps[177]? = some v10 := e10
          obtain rfl : v10 = _ := j10
          clear hdep
          go_simp
          exact hK _ _ rfl (Below.refl _ _)
        · intro a w' hb hdep K hK
          obtain ⟨v11, e11, j11⟩ := hdep 11 (by kernel_rfl)
          replace e11 : a.tmps[178]? = some v11 := e11
          obtain rfl : v11 = _ := j11
          obtain ⟨v10, e10, j10⟩ := hdep 10 (by kernel_rfl)
          replace e10 : a.tmps[177]? = some v10 := e10
          obtain rfl : v10 = _ := j10
          clear hdep
          go_simp
          go_at_call 21
          refine (wbytes_at (n := n2) (P := PB) (HK4.out.st.below hb.bel) HN2.out HPB.out).mono ?_
          rintro e w20 ⟨v20, rfl, hv20, hb20⟩
          exact hK _ _ hv20 hb20
        · intro a w' hb hdep K hK
          obtain ⟨v12, e12, j12⟩ := hdep 12 (by kernel_rfl)
          replace e12 : a.tmps[179]? = some v12 := e12
          obtain ⟨v10, e10, j10⟩ := hdep 10 (by kernel_rfl)
          replace e10 : a.tmps[177]? = some v10 := e10
          obtain rfl : v10 = _ := j10
          clear hdep
          obtain ⟨a20, c20, rfl, hs20⟩ := j12
          have hcv := run_bstr (P := Try.prog) sliceT byteT strT w' a20 n2 c20 PB HPL.out hs20
          clear hs20
          go_simp
          exact hK _ _ rfl (Below.refl _ _)
        · intro a w' hb hdep K hK
          have c28 := hb.at 3 28 _ rfl
          obtain ⟨v10, e10, j10⟩ := hdep 10 (by kernel_rfl)
          replace e10 : a.tmps[177]? = some v10 := e10
          obtain rfl : v10 = _ := j10
          clear hdep
          go_simp
          exact hK _ _ rfl (Below.refl _ _)
        · intro a w' hb hdep K hK
          obtain ⟨v14, e14, j14⟩ := hdep 14 (by kernel_rfl)
          replace e14 : a.tmps[181]? = some v14 := e14
          obtain rfl : v14 = _ := j14
          obtain ⟨v10, e10, j10⟩ := hdep 10 (by kernel_rfl)
          replace e10 : a.tmps[177]? = some v10 := e10
          obtain rfl : v10 = _ := j10
          clear hdep
          go_simp
          go_at_call 22
          refine (rpack_at w' (ad0 A') N c' n2 yx PB HN.out (HK4.out.all.src.below hb.bel) HNB.out (by omega) HN2.out HPB.out).mono ?_
          rintro e w20 ⟨v20, rfl, hv20, hb20⟩
          exact hK _ _ hv20 hb20
        · intro a w' hb hdep K hK
          obtain ⟨v15, e15, j15⟩ := hdep 15 (by kernel_rfl)
          replace e15 : a.tmps[182]? = some v15 := e15
          obtain ⟨v10, e10, j10⟩ := hdep 10 (by kernel_rfl)
          replace e10 : a.tmps[177]? = some v10 := e10
          obtain rfl : v10 = _ := j10
          clear hdep
          obtain ⟨a20, c20, rfl, hs20⟩ := j15
          have hcv := run_bstr (P := Try.prog) sliceT byteT strT w' a20 n2 c20 PB HPL.out hs20
          clear hs20
          go_simp
          exact hK _ _ rfl (Below.refl _ _)
        · intro a w' hb hdep K hK
          obtain ⟨v13, e13, j13⟩ := hdep 13 (by kernel_rfl)
          replace e13 : a.tmps[180]? = some v13 := e13
          obtain rfl : v13 = _ := j13
          obtain ⟨v16, e16, j16⟩ := hdep 16 (by kernel_rfl)
          replace e16 : a.tmps[183]? = some v16 := e16
          obtain rfl : v16 = _ := j16
          obtain ⟨v10, e10, j10⟩ := hdep 10 (by kernel_rfl)
          replace e10 : a.tmps[177]? = some v10 := e10
          obtain rfl : v10 = _ := j10
          clear hdep
          go_simp
          exact hK _ _ rfl (Below.refl _ _)
        · intro a w' hb hdep K hK
          obtain ⟨v10, e10, j10⟩ := hdep 10 (by kernel_rfl)
          replace e10 : a.tmps[177]? = some v10 := e10
          obtain rfl : v10 = _ := j10
          obtain ⟨v17, e17, j17⟩ := hdep 17 (by kernel_rfl)
          replace e17 : a.tmps[184]? = some v17 := e17
          obtain rfl : v17 = _ := j17
          clear hdep
          go_simp
          exact hK _ _ rfl (Below.refl _ _)
        · intro a w' hb hdep K hK
          obtain ⟨v18, e18, j18⟩ := hdep 18 (by kernel_rfl)
          replace e18 : a.tmps[185]? = some v18 := e18
          obtain rfl : v18 = _ := j18
          clear hdep
          go_simp
          exact hK _ _ rfl (Below.refl _ _)
        · intro a w' hb hdep K hK
          obtain ⟨v19, e19, j19⟩ := hdep 19 (by kernel_rfl)
          replace e19 : a.tmps[186]? = some v19 := e19
          obtain rfl : v19 = _ := j19
          clear hdep
          go_simp
          go_at_call 7
          refine (HWK.out w').mono ?_
          rintro e w20 ⟨rfl, hb20⟩
          exact hK _ _ rfl hb20
        · intro a w' hb hdep K hK
          obtain ⟨v19, e19, j19⟩ := hdep 19 (by kernel_rfl)
          replace e19 : a.tmps[186]? = some v19 := e19
          obtain rfl : v19 = _ := j19
          obtain ⟨v20, e20, j20⟩ := hdep 20 (by kernel_rfl)
          replace e20 : a.tmps[187]? = some v20 := e20
          obtain rfl : v20 = _ := j20
          clear hdep
          go_simp
          exact hK _ _ rfl (Below.refl _ _)
        · intro a w' hb hdep K hK
          obtain ⟨v21, e21, j21⟩ := hdep 21 (by kernel_rfl)
          replace e21 : a.tmps[188]? = some v21 := e21
          obtain rfl : v21 = _ := j21
          clear hdep
          go_simp
          exact hK _ _ rfl (Below.refl _ _)

      · intro a wz hb hall
        obtain ⟨v, h12, hv⟩ := hall 22 (by decide)
        obtain rfl : v = .bool true := hv
        have HBB := Lib.hid (HB4.out.trans (hb.bel.mono HB4.out.size))
        have hd := hb.defers
        clear hall hb
        go_wp2
        replace h12 : a.tmps[12]? = some (.bool true) := h12
        exact bodyPost_ret (v := .bool true) (by simp [results, Try.results3, go_sem, h12]) hd ⟨rfl, HBB.out⟩


theorem matches_law (l : List Int) (h : Lng l) (sp : Option Addr) (n cap : Nat) (q : List Int) (bp : Option Addr) (nb cb : Nat) (bl : List Int) (M : Int) (hM : -9223372036854775808 ≤ M ∧ M ≤ 9223372036854775807) (ap : Option Addr) (na ca : Nat) (al : List Int) (F : Int) (w : World) (hr : IsRow .i64 w sp n cap q) (hbr : IsRow .u8 w bp nb cb bl) (har : IsRow .u8 w ap na ca al) :
    Calls Try.prog 3 #[.agg (lg l), .slice sp n cap, .slice bp nb cb, .int .i64 M, .slice ap na ca, .int .i64 F] w fun e w' => e = .returned (.bool true) ∧ Below w.heap.size w w' := by
  obtain ⟨hl, hs, hwf, h63, _⟩ := hr.src
  obtain ⟨hbl, hbs, hbwf, hb63, _⟩ := hbr.src
  obtain ⟨hal, has, hawf, ha63, _⟩ := har.src
  by_cases hn : 100 < n ∨ 100 < nb ∨ 20 < na ∨ F < 0 ∨ 8 * (na : Int) < F
  · exact matches_long l sp n cap h63 bp nb cb hb63 M ap na ca ha63 F hn w
  · obtain ⟨f, rfl⟩ : ∃ f : Nat, F = (f : Int) := ⟨F.toNat, by omega⟩
    have hy1 : Byts _ := fun x hx => bounds_u8 (hbwf x hx)
    have hy2 : Byts _ := fun x hx => bounds_u8 (hawf x hx)
    exact matches_short l h sp n cap _ hl (by omega) bp nb cb _ hbl hy1 (by omega) M hM ap na ca _ hal hy2 (by omega) f (by omega) w hs hbs has
end Go.Proofs.Ytnpohkaicfcidaa
