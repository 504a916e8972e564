/- What law PackageMergeTurned needs (mathematics over tallies). -/
import Derived.Test.YtemjlmeakkknbaaLc
import Derived.Test.YtemjlmeakkknbaaOp
set_option linter.unusedVariables false
set_option linter.unusedSimpArgs false
namespace Go.Proofs.Ytemjlmeakkknbaa
open Go.RowKit

theorem getD_set (l : List Int) (i s : Nat) (v : Int) (hi : i < l.length) : (l.set i v).getD s 0 = if s = i then v else l.getD s 0 := by
  rw [List.getD_eq_getElem?_getD, List.getElem?_set]
  by_cases e : i = s
  · subst e
    rw [if_pos rfl, if_pos hi, if_pos rfl]
    rfl
  · rw [if_neg e, ← List.getD_eq_getElem?_getD, if_neg (fun e2 : s = i => e e2.symm)]
/-- Two counts exchanged. -/
def trn (t : List Int) (i k : Nat) : List Int := (t.set i (t.getD k 0)).set k (t.getD i 0)
theorem trn_get {t : List Int} (ht : Tal t) {i k : Nat} (hi : i < 258) (hk : k < 258) (s : Nat) : (trn t i k).getD s 0 = t.getD (swp2 i k s) 0 := by
  unfold trn
  rw [getD_set _ _ _ _ (by rw [List.length_set, ht.1]; exact hk), getD_set _ _ _ _ (by rw [ht.1]; exact hi)]
  unfold swp2
  by_cases h1 : s = k
  · subst h1
    rw [if_pos rfl]
    by_cases h2 : s = i
    · rw [if_pos h2, h2]
    · rw [if_neg h2, if_pos rfl]
  · rw [if_neg h1]
    by_cases h2 : s = i
    · rw [if_pos h2, if_pos h2]
    · rw [if_neg h2, if_neg h2, if_neg h1]
theorem trn_tal {t : List Int} (ht : Tal t) (i k : Nat) : Tal (trn t i k) := (ht.set i _ (ht.get k)).set k _ (ht.get i)
theorem vt_get {t : List Int} (ht : Tal t) (h : ∀ s : Nat, 0 ≤ t.getD s 0 ∧ t.getD s 0 ≤ 2147483647) : VT t := (vt_at t ht.1).2 fun i _ => h i
theorem turned_tot {t : List Int} (ht : Tal t) {i k : Nat} (hi : i < 258) (hk : k < 258) {L : Int} (h : LOk t L) : LOk (trn t i k) L ∧ totV (trn t i k) (lenQ (trn t i k) L) = totV t (lenQ t L) := by
  have hm := trn_get ht hi hk
  have hto := trn_tal ht i k
  have hvo : VT (trn t i k) := vt_get hto fun s => by rw [hm s]; exact h.1.get _
  have hl : (trn t i k).length = t.length := by rw [hto.1, ht.1]
  have hi' : i < t.length := by rw [ht.1]; exact hi
  have hk' : k < t.length := by rw [ht.1]; exact hk
  have hok : LOk (trn t i k) L := ⟨hvo, h.2.1, h.2.2.1, by rw [lvT_swap_len hl hi' hk' hm]; exact h.2.2.2⟩
  refine ⟨hok, ?_⟩
  obtain ⟨h1, h2, h3⟩ := lok_lim h
  rw [tot_len hto hok, tot_len ht h, hl]
  exact total_swap hl hi' hk' hm h.1 hvo h1 h3
/-- One symbol more. -/
def mor (t : List Int) (i : Nat) (c : Int) : List Int := if t.getD i 0 = 0 then t.set i c else t
theorem mor_tal {t : List Int} (ht : Tal t) (i : Nat) {c : Int} (h0 : 1 ≤ c) (h1 : c ≤ 2147483647) : Tal (mor t i c) := by
  unfold mor
  split
  · exact ht.set i c (WalkArith.wf_i64 ⟨by omega, by omega⟩)
  · exact ht
theorem mor_tot {t : List Int} (ht : Tal t) {i : Nat} (hi : i < 258) {c : Int} (h0 : 1 ≤ c) (h1 : c ≤ 2147483647) {L : Int} (h : LOk t L) (hm : LOk (mor t i c) L) : totV t (lenQ t L) ≤ totV (mor t i c) (lenQ (mor t i c) L) := by
  have hto := mor_tal ht i h0 h1
  have hl : (mor t i c).length = t.length := by rw [hto.1, ht.1]
  obtain ⟨g1, g2, g3⟩ := lok_lim h
  rw [tot_len hto hm, tot_len ht h, hl]
  refine total_more hl (fun s => ?_) h.1 hm.1 g1 g3 hm.2.2.2
  unfold mor
  split
  · rename_i hz
    rw [getD_set _ _ _ _ (by rw [ht.1]; exact hi)]
    by_cases e : s = i
    · exact .inr (by rw [e]; exact hz)
    · exact .inl (if_neg e)
  · exact .inl rfl
theorem trn_heap {w y : World} {g0 g1 g2 : Nat} {t q O : List Int} {i k : Nat} {X Y : Int} (h0 : y.heap[g0]? = some (.cells (tl t) 23 (0, 0))) (h1 : y.heap[g1]? = some (.cells (lg q) 25 (0, 0))) (h2 : y.heap[g2]? = some (.cells (tl t) 23 (0, 0)))
    (n0 : ¬ g2 = g0) (n1 : ¬ g1 = g2) (hO : O = (t.set i Y).set k X) (hb : Below w.heap.size w y) (hw : w.heap.size ≤ g2) :
    let z := ((y.setCell ⟨g2, i, none⟩ (.int .i64 Y)).setCell ⟨g2, k, none⟩ (.int .i64 X)).drew
    z.heap[g0]? = some (.cells (tl t) 23 (0, 0)) ∧ z.heap[g1]? = some (.cells (lg q) 25 (0, 0)) ∧ z.heap[g2]? = some (.cells (tl O) 23 (0, 0)) ∧ Below w.heap.size w z := by
  intro z
  have hc : Ch (fun y => y = g2) y z := (((Ch.refl (fun y => y = g2) y).setCell ⟨g2, i, none⟩ (.int .i64 Y) (.inl rfl)).setCell ⟨g2, k, none⟩ (.int .i64 X) (.inl rfl)).drew
  refine ⟨hc.heap h0 (fun e => n0 e.symm), hc.heap h1 n1, ?_, hb.trans (hc.below hb.size (fun y e => by subst e; exact hw))⟩
  show ((y.setCell ⟨g2, i, none⟩ (.int .i64 Y)).setCell ⟨g2, k, none⟩ (.int .i64 X)).heap[g2]? = _
  have e1 : (y.setCell ⟨g2, i, none⟩ (.int .i64 Y)).heap[g2]? = some (.cells (tl (t.set i Y)) 23 (0, 0)) := by rw [heap_setCell_same _ _ _ _ _ _ h2, tl_set]
  rw [heap_setCell_same _ _ _ _ _ _ e1, tl_set, hO]
theorem lenE_is {t : List Int} {L : Int} (h : lenE t L = 0) : LOk t L := by
  by_cases hk : LOk t L
  · exact hk
  · rw [(lenQ_no hk).2] at h
    omega
end Go.Proofs.Ytemjlmeakkknbaa
