/- Package kraft and its reference: weights, Sum. -/
import Derived.Test.YtcekjibkifdchaaLng
import Derived.Test.YtcekjibkifdchaaHg
set_option linter.unusedVariables false
set_option linter.unusedSimpArgs false
namespace Go.Proofs.Ytcekjibkifdchaa
open Go.RowKit

theorem _root_.Go.RowKit.Below.drewN {B : Nat} {w w' : World} (h : Below B w w') (n : Nat) : Below B w (w'.drewN n) := ⟨h.os, h.tape, h.output, h.size, h.block⟩
/-- A length's weight. -/
def wt (z : Int) : Int := if z ≤ 0 then 0 else if 15 < z then 32769 else 2 ^ (15 - z).toNat
theorem mid_cases {z : Int} (h1 : ¬ z ≤ 0) (h2 : ¬ 15 < z) : z = 1 ∨ z = 2 ∨ z = 3 ∨ z = 4 ∨ z = 5 ∨ z = 6 ∨ z = 7 ∨ z = 8 ∨ z = 9 ∨ z = 10 ∨ z = 11 ∨ z = 12 ∨ z = 13 ∨ z = 14 ∨ z = 15 := by omega
theorem wt_bd (z : Int) : 0 ≤ wt z ∧ wt z ≤ 32769 := by
  unfold wt
  split
  · omega
  · rename_i h1
    split
    · omega
    · rename_i h2
      rcases mid_cases h1 h2 with rfl | rfl | rfl | rfl | rfl | rfl | rfl | rfl | rfl | rfl | rfl | rfl | rfl | rfl | rfl <;> decide
/-- The sum of the weights of the first k symbols. -/
def ksT (l : List Int) (k : Nat) : Int := ((l.take k).map wt).sum
def ks (l : List Int) : Int := (l.map wt).sum
theorem ksT_zero (l : List Int) : ksT l 0 = 0 := by simp [ksT]
theorem ksT_all (l : List Int) (k : Nat) (h : l.length ≤ k) : ksT l k = ks l := by rw [ksT, List.take_of_length_le h]; rfl
theorem ksT_step (l : List Int) (k : Nat) (hk : k < l.length) : ksT l k + wt (l.getD k 0) = ksT l (k + 1) := by
  have e : l.getD k 0 = l[k] := by simp [List.getD_eq_getElem?_getD, hk]
  unfold ksT
  rw [e, List.take_add_one, List.getElem?_eq_getElem hk, List.map_append, List.sum_append]
  simp only [Option.toList_some, List.map_cons, List.map_nil, List.sum_cons, List.sum_nil, Int.add_zero]
theorem ksT_bd (l : List Int) (k : Nat) : 0 ≤ ksT l k ∧ ksT l k ≤ 32769 * k := by
  induction k with
  | zero => simp [ksT]
  | succ k ih =>
    by_cases hk : k < l.length
    · rw [← ksT_step l k hk]
      have := wt_bd (l.getD k 0)
      omega
    · have e1 := ksT_all l k (by omega)
      have e2 := ksT_all l (k + 1) (by omega)
      rw [e2, ← e1]
      omega
theorem ks_bd {l : List Int} (h : Lng l) : 0 ≤ ks l ∧ ks l ≤ 8454402 := by
  have := ksT_bd l 258
  rw [ksT_all l 258 (by rw [h.1]; exact Nat.le_refl _)] at this
  omega
theorem lg_cell {w : World} {g : Nat} {t : TypeId} {fr : Nat × Nat} {l : List Int} (hg : w.heap[g]? = some (.cells (lg l) t fr)) (h : Lng l) (i : Nat) (hi : i < 258) : w.cell? ⟨g, i, none⟩ = some (.int .u8 (l.getD i 0)) := by
  rw [cell_of_row w g i _ t fr hg, lg_get h i hi]

set_option maxRecDepth 100000 in
set_option maxHeartbeats 1000000 in
theorem weight_call (z : Int) (h : (Lit.int .u8 z).wf = true) (w : World) :
    Calls Try.prog 21 #[.int .u8 z] w fun e w' => e = .returned (.int .i64 (wt z)) ∧ Below w.heap.size w w' := by
  have hb := bounds_u8 h
  by_cases h0 : z ≤ 0
  · have hw : wt z = 0 := if_pos h0
    have HW := Lib.hid hw
    obtain rfl : z = 0 := by omega
    clear hw
    go_enter Try.func21, Try.ntmps21
    go_wp2_with fail
    go_ret
    exact ⟨by rw [HW.out]; rfl, Below.refl _ _⟩
  · by_cases h1 : 15 < z
    · have hw : wt z = 32769 := by rw [wt, if_neg h0, if_pos h1]
      have HW := Lib.hid hw
      have h2 : z ≠ 0 := by omega
      clear hw
      go_enter Try.func21, Try.ntmps21
      go_wp2_with fail
      go_ret
      exact ⟨by rw [HW.out]; rfl, Below.refl _ _⟩
    · rcases mid_cases h0 h1 with rfl | rfl | rfl | rfl | rfl | rfl | rfl | rfl | rfl | rfl | rfl | rfl | rfl | rfl | rfl <;>
      · clear h0 h1 hb
        go_enter Try.func21, Try.ntmps21
        go_wp2_with fail
        go_ret
        exact ⟨rfl, Below.refl _ _⟩

set_option maxRecDepth 100000 in
set_option maxHeartbeats 1000000 in
theorem sum_call (l : List Int) (h : Lng l) (w : World) :
    Calls Try.prog 9 #[.agg (lg l)] w fun e w' => e = .returned (.int .i64 (ks l)) ∧ Below w.heap.size w w' := by
  go_enter Try.func9, Try.ntmps9
  go_upto_region 1 with fail
  have hg := heap_alloc_last w (.cells (lg l) 23)
  have hb := (Below.refl w.heap.size w).alloc (Nat.le_refl _) (.cells (lg l) 23)
  generalize w.alloc (.cells (lg l) 23) = w1 at hg hb ⊢
  have HB := Lib.hid hb
  clear hb
  go_wp2_with (refine wpList_load_row rfl 23 _ rfl w.heap.size rfl 23 (lg l) (0, 0) _ hg Try.underlying23 rfl (lngIk h) ?_)
  go_loopw [3, 7] (fun s i wr => ∃ k : Nat, k ≤ 258 ∧ i = .int .i64 k ∧ Below w.heap.size w wr ∧ s = .int .i64 (ksT l k)) (fun _ i _ => 258 - (intOf i).toNat)
  case atStart => exact ⟨0, by omega, rfl, HB.out, rfl⟩
  case round =>
    obtain ⟨k, hk, rfl, hb, rfl⟩ := hrel
    have HBr := Lib.hid hb
    clear hb
    by_cases hlt : k < 258
    · have hix := fun w => run_index_lng w h k hlt
      have hc := fun w => weight_call (l.getD k 0) (h.get k) w
      have hs := ksT_bd l k
      have HS := Lib.hid (ksT_step l k (by rw [h.1]; exact hlt))
      have hwb := wt_bd (l.getD k 0)
      generalize l.getD k 0 = V at hix hc HS hwb
      generalize wt V = X at hc HS hwb
      generalize ksT l k = S at hs HS ⊢
      go_wp2_with (refine (hc _).mono ?_; rintro e w2 ⟨rfl, hb2⟩)
      exact ⟨⟨k + 1, by omega, by go_num, HBr.out.trans (hb2.mono HBr.out.size), by rw [← HS.out]⟩, by simp [intOf]; omega⟩
    · obtain rfl : k = 258 := by omega
      have HT := Lib.hid (ksT_all l 258 (by rw [h.1]; exact Nat.le_refl _))
      generalize ksT l 258 = S at HT ⊢
      go_wp2_with fail
      go_ret
      exact ⟨by rw [← HT.out]; rfl, HBr.out⟩
end Go.Proofs.Ytcekjibkifdchaa
