/- leavesOf: the leaves of a valid tally, in order; Order. -/
import Derived.Test.YtemjlmeakkknbaaLf
import Derived.Test.YtemjlmeakkknbaaPs
set_option linter.unusedVariables false
set_option linter.unusedSimpArgs false
namespace Go.Proofs.Ytemjlmeakkknbaa
open Go.RowKit Go.Sort

/-- Items made by the call. -/
structure NewI (w w' : World) (A : Option Nat) (c : Nat) (q : List (Int × Int)) : Prop where
  own : OwnI w' A c q
  new : ∀ g, A = some g → w.heap.size ≤ g
  bel : Below w.heap.size w w'
theorem NewI.on {w w' w'' : World} {A : Option Nat} {c : Nat} {q : List (Int × Int)} (h : NewI w w' A c q) (hb : Below w'.heap.size w' w'') : NewI w w'' A c q :=
  ⟨h.own.on hb, h.new, h.bel.trans (hb.mono h.bel.size)⟩
theorem NewI.later {w0 w w' : World} {A : Option Nat} {c : Nat} {q : List (Int × Int)} (h : NewI w w' A c q) (hb : Below w0.heap.size w0 w) : NewI w0 w' A c q :=
  ⟨h.own, fun g e => Nat.le_trans hb.size (h.new g e), hb.trans (h.bel.mono hb.size)⟩

/-- While the leaves are gathered: the variable's cell, the slice. -/
structure Gth (w : World) (A : Option Nat) (c : Nat) (q : List (Int × Int)) (wr : World) : Prop where
  var : wr.heap[w.heap.size + 1]? = some (.cells #[.slice (ad0 A) q.length c] 44 (0, 0))
  own : OwnI wr A c q
  new : ∀ g, A = some g → w.heap.size + 1 < g
  bel : Below w.heap.size w wr
theorem Gth.alloc {w wr : World} {A : Option Nat} {c : Nat} {q : List (Int × Int)} (h : Gth w A c q wr) (o : Obj) : Gth w A c q (wr.alloc o) :=
  ⟨heap_on ((Below.refl _ _).alloc (Nat.le_refl _) _) h.var, h.own.on ((Below.refl _ _).alloc (Nat.le_refl _) _), h.new, h.bel.alloc h.bel.size _⟩
theorem Gth.kept {w wr w2 : World} {A : Option Nat} {c : Nat} {q : List (Int × Int)} (h : Gth w A c q wr) (h2 : wr.grownBy w2 A) : w2.heap[w.heap.size + 1]? = some (.cells #[.slice (ad0 A) q.length c] 44 (0, 0)) := by
  rw [h2.block _ (Array.getElem?_eq_some_iff.1 h.var).1 (fun e => by have := h.new _ e.symm; omega)]
  exact h.var
theorem Gth.app {w wr w2 : World} {A A' : Option Nat} {c c' : Nat} {q q' : List (Int × Int)} (h : Gth w A c q wr) (h1 : OwnI w2 A' c' q') (h2 : wr.grownBy w2 A) (h3 : A' = A ∨ A' = some wr.heap.size) :
    Gth w A' c' q' (w2.setCell ⟨w.heap.size + 1, 0, none⟩ (.slice (ad0 A') q'.length c')) := by
  have hsz : w.heap.size + 1 < wr.heap.size := (Array.getElem?_eq_some_iff.1 h.var).1
  have hnew : ∀ g, A' = some g → w.heap.size + 1 < g := fun g e => by
    rcases h3 with h3 | h3
    · exact h.new g (h3 ▸ e)
    · rw [h3] at e
      injection e with e
      omega
  have hv : w2.heap[w.heap.size + 1]? = some (.cells #[.slice (ad0 A) q.length c] 44 (0, 0)) := by
    rw [h2.block _ hsz (fun e => by have := h.new _ e.symm; omega)]
    exact h.var
  have hb : Below w.heap.size w w2 := h.bel.grown h2 h.bel.size (fun g e => by have := h.new g e; omega)
  refine ⟨?_, ?_, hnew, hb.setCell (by simp) _⟩
  · rw [heap_setCell_same _ _ _ _ _ _ hv]
    rfl
  · exact h1.ch ((Ch.refl (fun k => k = w.heap.size + 1) w2).setCell _ _ (.inl rfl)) (fun g e => by have := hnew g e; omega)

set_option maxRecDepth 100000 in
set_option maxHeartbeats 1000000 in
theorem leaves_call (l : List Int) (h : Tal l) (hv : VT l) (w : World) :
    Calls Try.prog 20 #[.agg (tl l)] w fun e w' => ∃ A c, e = .returned (.slice (ad0 A) (lvT l).length c) ∧ NewI w w' A c (lvT l) := by
  have zS : ∀ w, (zeroValue 44).run Try.prog w = .ok (.slice none 0 0) w := (zero_of_info (show (Try.prog.info? 44).map (fun i => (i.zero, i.size)) = some (some (.slice none 0 0), 1) by kernel_rfl)).1
  go_enter Try.func20, Try.ntmps20
  go_upto_region 2 with fail
  have hg := heap_alloc2_old w (.cells (tl l) 23) (.cells #[.slice none 0 0] 44)
  have hg2 := heap_alloc2_new w (.cells (tl l) 23) (.cells #[.slice none 0 0] 44)
  have hb : Below w.heap.size w ((w.alloc (.cells (tl l) 23)).alloc (.cells #[.slice none 0 0] 44)) := ((Below.refl _ _).alloc (Nat.le_refl _) _).alloc (by simp) _
  generalize (w.alloc (.cells (tl l) 23)).alloc (.cells #[.slice none 0 0] 44) = w1 at hg hg2 hb ⊢
  have HB := Lib.hid hb
  have HG2 := Lib.hid hg2
  clear hb hg2
  go_wp2_with (refine wpList_load_row rfl 23 _ rfl w.heap.size rfl 23 (tl l) (0, 0) _ hg Try.underlying23 rfl (talIk h) ?_)
  go_loopw [7] (fun i wr => ∃ (k : Nat) (A : Option Nat) (c : Nat), k ≤ 258 ∧ i = .int .i64 k ∧ Gth w A c (prK l k) wr) (fun i _ => 258 - (intOf i).toNat)
  case atStart => exact ⟨0, none, 0, by omega, rfl, HG2.out, OwnI.nil _, (fun g e => by cases e), HB.out⟩
  case round =>
    obtain ⟨k, A, c, hk, rfl, hG⟩ := hrel
    have HGt := Lib.hid hG
    have hcell : wr.cell? ⟨w.heap.size + 1, 0, none⟩ = some (.slice (ad0 A) (prK l k).length c) := by rw [cell_of_row _ _ _ _ _ _ hG.var]; rfl
    clear hG
    by_cases hlt : k < 258
    · have hix := fun w => run_index_tal w h k hlt
      have hbd := hv.get k
      have hle := prK_le l k
      have HY := Lib.hid (prK_yes l k)
      have HN := Lib.hid (prK_no l k)
      generalize l.getD k 0 = V at hix hbd HY HN
      by_cases hV : 0 < V
      · have hy := HY.out hV
        have hwr : IntKind.u64.wrap V = V := by unfold IntKind.wrap; simp [IntKind.bits, IntKind.signed]; omega
        obtain ⟨n, hn⟩ : ∃ n, n = (prK l k).length := ⟨_, rfl⟩
        rw [← hn] at hcell hle
        have HN2 := Lib.hid hn
        have hown : OwnC wr 52 2 A c n (itsC (prK l k)) := by rw [hn]; exact HGt.out.own
        have HOWN := Lib.hid hown
        clear hn hown
        go_wp2_with (
          refine wpList_appendC rfl _ _ 44 rfl 52 _ 2 16 itmT itmI rfl (by decide) A c n (itsC (prK l k)) rfl (HOWN.out.alloc _) (some ⟨wr.heap.size, 0, none⟩) 1 1 rfl (itsC [((k : Int), V)]) rfl (CS.lit (heap_alloc_new wr _)) (itsC_cell _) (by unfold maxLen; omega) (by omega) ?_
          intro A' c' w2 h1 h2 h3
          have hkp := (HGt.out.alloc _).kept h2
          have hf2 := frozen_of_row w2 _ 0 _ _ hkp
          have hc2 : w2.cell? ⟨w.heap.size + 1, 0, none⟩ = some (.slice (ad0 A) (prK l k).length c) := by rw [cell_of_row _ _ _ _ _ _ hkp]; rfl)
        have e : (prK l (k + 1)).length = n + 1 := by rw [hy, List.length_append, ← HN2.out]; rfl
        have ho : OwnI w2 A' c' (prK l (k + 1)) := by
          unfold OwnI
          rw [e, hy, itsC_append]
          exact h1
        have hN := (HGt.out.alloc _).app ho h2 h3
        rw [e] at hN
        exact ⟨⟨k + 1, A', c', by omega, by go_num, hN⟩, by simp [intOf]; omega⟩
      · have hy := HN.out hV
        go_wp2_with fail
        exact ⟨⟨k + 1, A, c, by omega, by go_num, by rw [hy]; exact HGt.out⟩, by simp [intOf]; omega⟩
    · obtain rfl : k = 258 := by omega
      have e : lvT l = sortR (prK l 258) := by rw [lvT, h.1]
      have HE := Lib.hid e
      have hR : RI A c (prK l 258).length (w.heap.size + 1) (prK l 258).toArray wr := ⟨by simp, by simpa using HGt.out.own, hcell, fun g e => by have := HGt.out.new g e; omega⟩
      have hsl := slice_call A c _ _ _ wr hR (Nat.le_trans (prK_le l 258) (by omega))
      have HR := Lib.hid hR
      clear e hR
      obtain ⟨q, hq⟩ : ∃ q, q = prK l 258 := ⟨_, rfl⟩
      rw [← hq] at hsl hcell HE HR HGt
      have HQ := Lib.hid hq
      clear hq
      obtain ⟨n, hn⟩ : ∃ n, n = q.length := ⟨_, rfl⟩
      rw [← hn] at hsl hcell
      have HN := Lib.hid hn
      clear hn
      go_wp2_with (
        refine hsl.mono ?_
        rintro e w2 ⟨rfl, d', hon, hRI, hp, hs⟩
        have hc2 := hRI.2.2.1
        have HRI := Lib.hid hRI
        have HON := Lib.hid hon
        have HSI := Lib.hid (sorted_is (by rw [HN.out]; simp) hp hs)
        clear hRI hon hp hs)
      go_ret
      have e1 : d'.toList = lvT l := by rw [HSI.out, HE.out]
      have e2 : n = (lvT l).length := by rw [← e1, Array.length_toList, HRI.out.1]
      refine ⟨A, c, by rw [← e2]; rfl, ?_, fun g e => by have := HGt.out.new g e; omega, HGt.out.bel.trans (HON.out.below HGt.out.bel.size (fun k e => ?_))⟩
      · rw [← e1]
        exact HRI.out.2.1
      · subst e
        unfold rb
        cases hA : A with
        | none => show w.heap.size ≤ w.heap.size + 1; omega
        | some g => show w.heap.size ≤ g; have := HGt.out.new g hA; omega
end Go.Proofs.Ytemjlmeakkknbaa
