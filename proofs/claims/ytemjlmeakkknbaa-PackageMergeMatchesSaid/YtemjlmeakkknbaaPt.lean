/- put of the reference. -/
import Derived.Test.YtemjlmeakkknbaaTh
import Derived.Test.YtemjlmeakkknbaaPs
set_option linter.unusedVariables false
set_option linter.unusedSimpArgs false
namespace Go.Proofs.Ytemjlmeakkknbaa
open Go.RowKit

theorem getD_map_fst (R : List Th) (j : Nat) (hj : j < R.length) : (R.map (·.1)).getD j (0, 0) = R[j].1 := by
  rw [List.getD_eq_getElem?_getD, List.getElem?_map, List.getElem?_eq_getElem hj]
  rfl
/-- A row with a thing put in behind all that are not heavier. -/
def PutT (R : List Th) (X : Th) (q : List Th) : Prop := ∃ j, (∀ a ∈ (R.map (·.1)).take j, a.2 ≤ X.1.2) ∧ (∀ b ∈ (R.map (·.1)).drop j, X.1.2 < b.2) ∧ q = R.take j ++ X :: R.drop j
/-- row[k:], its address in one word. -/
theorem run_rest (g o n c k : Nat) (hk : (k : Int) ≤ (n : Int)) (hc : (n : Int) ≤ (c : Int)) (ad : Option Addr) (had : ad = if c = k then some ⟨g, o, none⟩ else some ⟨g, o + k * 4, none⟩) (w : World) :
    (Instr.sliceAt 57 (.slice (some ⟨g, o, none⟩) n c) (some (.int .i64 k)) none none).run Try.prog w = .ok (.slice ad (n - k) (c - k)) w ∧
    (Instr.slice 57 (.slice (some ⟨g, o, none⟩) n c) (some (.int .i64 k)) none none).run Try.prog w = .ok (.slice ad (n - k) (c - k)) w := by
  subst had
  constructor <;> (go_simp; done)
/-- What put answers. -/
def PutR (n : Nat) (R : List Th) (X : Th) (w : World) (e : Ending) (w' : World) : Prop := ∃ A c' q, e = .returned (.slice (ad0 A) (n + 1) c') ∧ PutT R X q ∧ NewT w w' A c' q

set_option maxRecDepth 100000 in
set_option maxHeartbeats 2000000 in
theorem put_call (g o n c : Nat) (R : List Th) (X : Th) (hn : n = R.length) (hc : n ≤ c) (hn6 : n ≤ 100000) (hcm : c ≤ maxLen) (hso : Srt (R.map (·.1))) (w : World) (hs : SrcT w (some ⟨g, o, none⟩) R) :
    Calls Try.prog 27 #[.slice (some ⟨g, o, none⟩) n c, .agg #[.int .i64 X.1.2, .int .i64 X.1.1, .int .i64 X.2.1, .int .i64 X.2.2]] w (PutR n R X w) := by
  have HN := Lib.hid hn
  have HSO := Lib.hid hso
  have HS := Lib.hid hs
  clear hn hso hs
  unfold maxLen at hcm
  go_enter Try.func27, Try.ntmps27
  go_wp2_with fail
  have hg := heap_alloc_last w (.cells #[.int .i64 X.1.2, .int .i64 X.1.1, .int .i64 X.2.1, .int .i64 X.2.2] 59)
  have hb : Below w.heap.size w (w.alloc (.cells #[.int .i64 X.1.2, .int .i64 X.1.1, .int .i64 X.2.1, .int .i64 X.2.2] 59)) := (Below.refl _ _).alloc (Nat.le_refl _) _
  obtain ⟨⟨Xs, Xw⟩, X1, X2⟩ := X
  simp only at hg hb ⊢
  generalize w.alloc (.cells #[.int .i64 Xw, .int .i64 Xs, .int .i64 X1, .int .i64 X2] 59) = w1 at hg hb ⊢
  go_loopw [5] (fun s5 wr => ∃ k : Nat, k ≤ n ∧ s5 = .int .i64 k ∧ (∀ b ∈ (R.map (·.1)).drop k, Xw < b.2) ∧ wr.heap[w.heap.size]? = some (.cells #[.int .i64 Xw, .int .i64 Xs, .int .i64 X1, .int .i64 X2] 59 (0, 0)) ∧ Below w.heap.size w wr) (fun s5 _ => (intOf s5).toNat)
  case atStart => exact ⟨n, Nat.le_refl _, rfl, (fun b hb => by rw [List.drop_of_length_le (by rw [List.length_map, HN.out]; exact Nat.le_refl _)] at hb; cases hb), hg, hb⟩
  case round =>
    clear hg hb
    obtain ⟨k, hk, rfl, hd, hg, hb⟩ := hrel
    have HD := Lib.hid hd
    have HB := Lib.hid hb
    clear hd hb
    have x0 : wr.cell? ⟨w.heap.size, 0, none⟩ = some (.int .i64 Xw) := by rw [cell_of_row _ _ _ _ _ _ hg]; rfl
    have hsr := HS.out.on HB.out
    have HFIN : RowKit.Hid (∀ (hstop : k = 0 ∨ ((R.map (·.1)).getD (k - 1) (0, 0)).2 ≤ Xw), PutT R ((Xs, Xw), X1, X2) (R.take k ++ ((Xs, Xw), X1, X2) :: R.drop k)) := Lib.hid (fun hstop => ⟨k, stop_at HSO.out (by rw [List.length_map, ← HN.out]; exact hk) HD.out hstop, HD.out, rfl⟩)
    by_cases hk0 : 0 < k
    · obtain ⟨r0, _, _, _⟩ := hsr.get (j := k - 1) (by rw [← HN.out]; omega)
      have hgd := getD_map_fst R (k - 1) (by rw [← HN.out]; omega)
      have HST : RowKit.Hid (Xw < ((R.map (·.1)).getD (k - 1) (0, 0)).2 → ∀ b ∈ (R.map (·.1)).drop (k - 1), Xw < b.2) := Lib.hid (fun h => drop_step (by rw [List.length_map, ← HN.out]; omega) (by rw [Nat.sub_add_cancel hk0]; exact HD.out) h)
      rw [hgd] at HST HFIN
      generalize (R[k - 1]'(by rw [← HN.out]; omega)).1.2 = Y at r0 HST HFIN
      clear hgd
      have w1' : IntKind.i64.wrap ((k : Int) - 1) = (k : Int) - 1 := by rw [IntKind.wrap_i64]; omega
      have w2' : ((k : Int) - 1).toNat = k - 1 := by omega
      have w3' : (0 : Int) ≤ (k : Int) - 1 := by omega
      have w4' : (k : Int) - 1 < (n : Int) := by omega
      by_cases hY : Xw < Y
      · have d1 : decide (Xw < Y) = true := decide_eq_true hY
        go_upto_region 2 with fail
        go_quiet (fail)
        go_wp2_with fail
        exact ⟨⟨k - 1, by omega, by congr 1; omega, HST.out hY, hg, HB.out.drewN _⟩, by simp [intOf]; omega⟩
      · have d1 : decide (Xw < Y) = false := decide_eq_false hY
        have hfin := HFIN.out (.inr (by omega))
        go_upto_region 2 with fail
        go_quiet (fail)
        have h1len : (thsC (R.take k)).length = k * 4 := by rw [thsC_len, List.length_take, ← HN.out, Nat.min_eq_left hk]
        have h2len : (thsC (R.drop k)).length = (n - k) * 4 := by rw [thsC_len, List.length_drop, ← HN.out]
        have hkc : (k : Int) ≤ (c : Int) := by omega
        have hkn : (k : Int) ≤ (n : Int) := by omega
        have hnc : (n : Int) ≤ (c : Int) := by omega
        obtain ⟨ad, had⟩ : ∃ ad : Option Addr, ad = if c = k then some ⟨g, o, none⟩ else some ⟨g, o + k * 4, none⟩ := ⟨_, rfl⟩
        have hr1 := fun w => (run_rest g o n c k hkn hnc ad had w).1
        have hr2 := fun w => (run_rest g o n c k hkn hnc ad had w).2
        have HRS : RowKit.Hid (∀ w' : World, Below w.heap.size w w' → SrcT w' ad (R.drop k)) := Lib.hid (fun w' hb => by rw [had]; exact SrcT.rest (HS.out.on hb) k (by rw [← HN.out]; exact hc))
        clear had
        have hfn := hg
        go_wp2_with (first
          | (refine wpList_appendC rfl _ _ 57 rfl 59 _ 4 32 thT thI rfl (by decide) none 0 0 [] rfl (OwnC.nil _ _ _) (some ⟨g, o, none⟩) k c rfl (thsC (R.take k)) h1len ((HS.out.take k).on (HB.out.drewN _)) (thsC_cell _) (by unfold maxLen; omega) (by omega) ?_
             intro A1 c1 w2 a1 a2 a3
             have hb2 : Below w.heap.size w w2 := (HB.out.drewN _).grown a2 (by have := HB.out.size; simpa using this) (fun g e => by cases e)
             have hn2 : ∀ y, A1 = some y → w.heap.size ≤ y := fresh_app (A := none) (fun y e => by cases e) (by have := HB.out.size; simpa using this) a3
             have hg2 : w2.heap[w.heap.size]? = some (.cells #[.int .i64 Xw, .int .i64 Xs, .int .i64 X1, .int .i64 X2] 59 (0, 0)) := (a2.block _ (by have := (Array.getElem?_eq_some_iff.1 hg).1; simpa using this) (by simp)).trans hfn
             have y0 : w2.cell? ⟨w.heap.size, 0, none⟩ = some (.int .i64 Xw) := by rw [cell_of_row _ _ _ _ _ _ hg2]; rfl
             have y1 : w2.cell? ⟨w.heap.size, 1, none⟩ = some (.int .i64 Xs) := by rw [cell_of_row _ _ _ _ _ _ hg2]; rfl
             have y2 : w2.cell? ⟨w.heap.size, 2, none⟩ = some (.int .i64 X1) := by rw [cell_of_row _ _ _ _ _ _ hg2]; rfl
             have y3 : w2.cell? ⟨w.heap.size, 3, none⟩ = some (.int .i64 X2) := by rw [cell_of_row _ _ _ _ _ _ hg2]; rfl
             rw [Nat.zero_add, List.nil_append] at a1
             clear hfn a2 a3)
          | (refine wpList_appendC rfl _ _ 57 rfl 59 _ 4 32 thT thI rfl (by decide) A1 c1 k (thsC (R.take k)) rfl (a1.alloc _) (some ⟨w2.heap.size, 0, none⟩) 1 1 rfl (thsC [((Xs, Xw), X1, X2)]) rfl (CS.lit (heap_alloc_new w2 _)) (thsC_cell _) (by unfold maxLen; omega) (by omega) ?_
             intro A2 c2 w3 b1 b2 b3
             have hb3 : Below w.heap.size w w3 := (hb2.alloc hb2.size _).grown b2 (by have := hb2.size; simp; omega) (fun y e => hn2 y e)
             have hn3 : ∀ y, A2 = some y → w.heap.size ≤ y := fresh_app hn2 (by have := hb2.size; simp; omega) b3)
          | (refine wpList_appendC rfl _ _ 57 rfl 59 _ 4 32 thT thI rfl (by decide) A2 c2 (k + 1) (thsC (R.take k) ++ thsC [((Xs, Xw), X1, X2)]) rfl b1 ad (n - k) (c - k) rfl (thsC (R.drop k)) h2len (HRS.out w3 hb3) (thsC_cell _) (by unfold maxLen; omega) (by omega) ?_
             intro A3 c3 w4 d1 d2 d3))
        go_ret
        have hq : R.take k ++ ((Xs, Xw), X1, X2) :: R.drop k = (R.take k ++ [((Xs, Xw), X1, X2)]) ++ R.drop k := by simp
        refine ⟨A3, c3, _, by rw [show n + 1 = k + 1 + (n - k) by omega]; rfl, hfin, ?_, fresh_app hn3 hb3.size d3, hb3.grown d2 hb3.size (fun y e => hn3 y e)⟩
        rw [hq]
        refine OwnT.app (n := k + 1) (m := n - k) ?_ (by simp; rw [← HN.out]; omega) (by rw [List.length_drop, ← HN.out])
        rw [thsC_append]
        exact d1
    · have hfin := HFIN.out (.inl (by omega))
      go_upto_region 2 with fail
      go_quiet (fail)
      have h1len : (thsC (R.take k)).length = k * 4 := by rw [thsC_len, List.length_take, ← HN.out, Nat.min_eq_left hk]
      have h2len : (thsC (R.drop k)).length = (n - k) * 4 := by rw [thsC_len, List.length_drop, ← HN.out]
      have hkc : (k : Int) ≤ (c : Int) := by omega
      have hkn : (k : Int) ≤ (n : Int) := by omega
      have hnc : (n : Int) ≤ (c : Int) := by omega
      obtain ⟨ad, had⟩ : ∃ ad : Option Addr, ad = if c = k then some ⟨g, o, none⟩ else some ⟨g, o + k * 4, none⟩ := ⟨_, rfl⟩
      have hr1 := fun w => (run_rest g o n c k hkn hnc ad had w).1
      have hr2 := fun w => (run_rest g o n c k hkn hnc ad had w).2
      have HRS : RowKit.Hid (∀ w' : World, Below w.heap.size w w' → SrcT w' ad (R.drop k)) := Lib.hid (fun w' hb => by rw [had]; exact SrcT.rest (HS.out.on hb) k (by rw [← HN.out]; exact hc))
      clear had
      have hfn := hg
      go_wp2_with (first
        | (refine wpList_appendC rfl _ _ 57 rfl 59 _ 4 32 thT thI rfl (by decide) none 0 0 [] rfl (OwnC.nil _ _ _) (some ⟨g, o, none⟩) k c rfl (thsC (R.take k)) h1len ((HS.out.take k).on (HB.out.drewN _)) (thsC_cell _) (by unfold maxLen; omega) (by omega) ?_
           intro A1 c1 w2 a1 a2 a3
           have hb2 : Below w.heap.size w w2 := (HB.out.drewN _).grown a2 (by have := HB.out.size; simpa using this) (fun g e => by cases e)
           have hn2 : ∀ y, A1 = some y → w.heap.size ≤ y := fresh_app (A := none) (fun y e => by cases e) (by have := HB.out.size; simpa using this) a3
           have hg2 : w2.heap[w.heap.size]? = some (.cells #[.int .i64 Xw, .int .i64 Xs, .int .i64 X1, .int .i64 X2] 59 (0, 0)) := (a2.block _ (by have := (Array.getElem?_eq_some_iff.1 hg).1; simpa using this) (by simp)).trans hfn
           have y0 : w2.cell? ⟨w.heap.size, 0, none⟩ = some (.int .i64 Xw) := by rw [cell_of_row _ _ _ _ _ _ hg2]; rfl
           have y1 : w2.cell? ⟨w.heap.size, 1, none⟩ = some (.int .i64 Xs) := by rw [cell_of_row _ _ _ _ _ _ hg2]; rfl
           have y2 : w2.cell? ⟨w.heap.size, 2, none⟩ = some (.int .i64 X1) := by rw [cell_of_row _ _ _ _ _ _ hg2]; rfl
           have y3 : w2.cell? ⟨w.heap.size, 3, none⟩ = some (.int .i64 X2) := by rw [cell_of_row _ _ _ _ _ _ hg2]; rfl
           rw [Nat.zero_add, List.nil_append] at a1
           clear hfn a2 a3)
        | (refine wpList_appendC rfl _ _ 57 rfl 59 _ 4 32 thT thI rfl (by decide) A1 c1 k (thsC (R.take k)) rfl (a1.alloc _) (some ⟨w2.heap.size, 0, none⟩) 1 1 rfl (thsC [((Xs, Xw), X1, X2)]) rfl (CS.lit (heap_alloc_new w2 _)) (thsC_cell _) (by unfold maxLen; omega) (by omega) ?_
           intro A2 c2 w3 b1 b2 b3
           have hb3 : Below w.heap.size w w3 := (hb2.alloc hb2.size _).grown b2 (by have := hb2.size; simp; omega) (fun y e => hn2 y e)
           have hn3 : ∀ y, A2 = some y → w.heap.size ≤ y := fresh_app hn2 (by have := hb2.size; simp; omega) b3)
        | (refine wpList_appendC rfl _ _ 57 rfl 59 _ 4 32 thT thI rfl (by decide) A2 c2 (k + 1) (thsC (R.take k) ++ thsC [((Xs, Xw), X1, X2)]) rfl b1 ad (n - k) (c - k) rfl (thsC (R.drop k)) h2len (HRS.out w3 hb3) (thsC_cell _) (by unfold maxLen; omega) (by omega) ?_
           intro A3 c3 w4 d1 d2 d3))
      go_ret
      have hq : R.take k ++ ((Xs, Xw), X1, X2) :: R.drop k = (R.take k ++ [((Xs, Xw), X1, X2)]) ++ R.drop k := by simp
      refine ⟨A3, c3, _, by rw [show n + 1 = k + 1 + (n - k) by omega]; rfl, hfin, ?_, fresh_app hn3 hb3.size d3, hb3.grown d2 hb3.size (fun y e => hn3 y e)⟩
      rw [hq]
      refine OwnT.app (n := k + 1) (m := n - k) ?_ (by simp; rw [← HN.out]; omega) (by rw [List.length_drop, ← HN.out])
      rw [thsC_append]
      exact d1
end Go.Proofs.Ytemjlmeakkknbaa
