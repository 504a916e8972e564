/- packagesOf. -/
import Derived.Test.YtemjlmeakkknbaaOd
set_option linter.unusedVariables false
set_option linter.unusedSimpArgs false
namespace Go.Proofs.Ytemjlmeakkknbaa
open Go.RowKit Go.Sort

theorem pkR_get : ∀ (q : List (Int × Int)) (k : Nat), k < q.length / 2 → (pkR q)[k]? = some (-1, (q.getD (2 * k) (0, 0)).2 + (q.getD (2 * k + 1) (0, 0)).2)
  | [], k, h => by simp at h
  | [_], k, h => by simp at h
  | a :: b :: r, 0, _ => rfl
  | a :: b :: r, k + 1, h => by
    have := pkR_get r k (by simp at h; omega)
    rw [pkR, List.getElem?_cons_succ, this, show 2 * (k + 1) = 2 * k + 1 + 1 by omega]
    rfl
theorem SrcI.getD {w : World} {sp : Option Addr} {l : List (Int × Int)} (h : SrcI w sp l) {j : Nat} (hj : j < l.length) :
    ∃ g o, sp = some ⟨g, o, none⟩ ∧ w.cell? ⟨g, o + j * 2, none⟩ = some (.int .i64 (l.getD j (0, 0)).1) ∧ w.cell? ⟨g, o + j * 2 + 1, none⟩ = some (.int .u64 (l.getD j (0, 0)).2) := by
  obtain ⟨g, o, e, h0, h1⟩ := h.get hj
  refine ⟨g, o, e, ?_⟩
  rw [List.getD_eq_getElem?_getD, List.getElem?_eq_getElem hj]
  exact ⟨h0, h1⟩
theorem zitems_take (n : Nat) : (madeCells #[.int .i64 0, .int .u64 0] (n * 2)).toList = itsC (List.replicate n (0, 0)) := by
  apply List.ext_getElem?
  intro j
  rw [Array.getElem?_toList]
  unfold madeCells
  rw [Array.getElem?_map, Array.getElem?_range]
  by_cases h : j < n * 2
  · rw [if_pos h]
    have h2 : j / 2 < (List.replicate n ((0 : Int), (0 : Int))).length := by rw [List.length_replicate]; omega
    rcases (show j % 2 = 0 ∨ j % 2 = 1 by omega) with e | e
    · have := itsC_0 _ _ h2
      rw [show j / 2 * 2 = j by omega] at this
      rw [this]
      simp [e]
    · have := itsC_1 _ _ h2
      rw [show j / 2 * 2 + 1 = j by omega] at this
      rw [this]
      simp [e]
  · rw [if_neg h, List.getElem?_eq_none (by rw [itsC_len, List.length_replicate]; omega)]
    rfl
/-- make([]item, n, c) -/
theorem run_mkItems (n c : Nat) (hnc : n ≤ c) (hc : c ≤ 1000000) (kl kc : IntKind) (w : World) : (Instr.makeSlice 44 (.int kl n) (.int kc c)).run Try.prog w = .ok (.slice (some ⟨w.heap.size, 0, none⟩) n c) (w.alloc (.cells (madeCells #[.int .i64 0, .int .u64 0] (c * 2)) 52)) := by
  have hz : rkE.zero = some (.agg #[.int .i64 0, .int .u64 0]) := by kernel_rfl
  have hby : rkE.bytes = 16 := by kernel_rfl
  have h := run_make (P := Try.prog) w 44 52 rkE _ Try.underlying44 (by kernel_rfl) hz kl kc n c (by omega) (by omega) (by rw [hby]; omega) (by omega)
  rw [rkS] at h
  simpa [Value.cells] using h
theorem OwnI.made (w : World) (n c : Nat) (hnc : n ≤ c) (hc : c ≤ 1000000) : OwnI (w.alloc (.cells (madeCells #[.int .i64 0, .int .u64 0] (c * 2)) 52)) (some w.heap.size) c (List.replicate n (0, 0)) := by
  unfold OwnI
  rw [List.length_replicate]
  refine OwnC.made (heap_alloc_new w _) (by unfold maxLen; omega) hnc (size_madeCells _ _) ?_
  rw [zitems_take, itsC_take, List.take_replicate, Nat.min_eq_left hnc]
/-- While packages are made. -/
structure Po (w : World) (p : List (Int × Int)) (k : Nat) (g : Nat) (r : List (Int × Int)) (wr : World) : Prop where
  own : OwnI wr (some g) r.length r
  len : r.length = p.length
  done : r.take k = p.take k
  bel : Below w.heap.size w wr
theorem Po.step {w wr : World} {p : List (Int × Int)} {k g : Nat} {r : List (Int × Int)} (h : Po w p k g r wr) (hk : k < p.length) (hg : w.heap.size ≤ g) (a b : Int) (hv : p[k]? = some (a, b)) :
    Po w p (k + 1) g (r.set k (a, b)) ((wr.setCell ⟨g, k * 2, none⟩ (.int .i64 a)).setCell ⟨g, k * 2 + 1, none⟩ (.int .u64 b)) := by
  have hl := h.len
  refine ⟨?_, by rw [List.length_set]; exact hl, ?_, (h.bel.setCell (p := ⟨g, k * 2, none⟩) hg _).setCell (p := ⟨g, k * 2 + 1, none⟩) hg _⟩
  · rw [List.length_set]
    exact h.own.set k (by omega) a b
  · rw [List.take_add_one, List.take_add_one, List.take_set_of_le (Nat.le_refl k), h.done, List.getElem?_set, if_pos rfl, if_pos (by omega), hv]
theorem Po.on {w wr w' : World} {p : List (Int × Int)} {k g : Nat} {r : List (Int × Int)} (h : Po w p k g r wr) (hb : Below wr.heap.size wr w') : Po w p k g r w' := ⟨h.own.on hb, h.len, h.done, h.bel.trans (hb.mono h.bel.size)⟩

set_option maxRecDepth 100000 in
set_option maxHeartbeats 1000000 in
theorem packages_call (sp : Option Addr) (m c : Nat) (q : List (Int × Int)) (hm : m = q.length) (hm6 : m ≤ 1000000) (w : World) (hs : SrcI w sp q) (hq : ∀ x ∈ q, 0 ≤ x.2 ∧ x.2 ≤ 9000000000000000000) :
    Calls Try.prog 33 #[.slice sp m c] w fun e w' => ∃ A c', e = .returned (.slice (ad0 A) (pkR q).length c') ∧ NewI w w' A c' (pkR q) := by
  have hp : (pkR q).length = m / 2 := by rw [pkR_length, hm]
  have hmk := run_mkItems (m / 2) (m / 2) (Nat.le_refl _) (by omega) .i64 .i64 w
  have HP := Lib.hid hp
  have HM := Lib.hid hm
  have HS := Lib.hid hs
  have HQ := Lib.hid hq
  rw [show (((m / 2 : Nat)) : Int) = (m : Int) / 2 by omega] at hmk
  have HK := Lib.hid (pkR_get q)
  clear hp hm hs hq
  go_enter Try.func33, Try.ntmps33
  go_wp2_with fail
  go_loopw [11] (fun i wr => ∃ (k : Nat) (r : List (Int × Int)), k ≤ m / 2 ∧ i = .int .i64 k ∧ SrcI wr sp q ∧ Po w (pkR q) k w.heap.size r wr) (fun i _ => m / 2 - (intOf i).toNat)
  case atStart =>
    have ho := OwnI.made w (m / 2) (m / 2) (Nat.le_refl _) (by omega)
    exact ⟨0, List.replicate (m / 2) (0, 0), by omega, rfl, HS.out.on ((Below.refl _ _).alloc (Nat.le_refl _) _), by rw [List.length_replicate]; exact ho, by rw [List.length_replicate, HP.out], rfl, (Below.refl _ _).alloc (Nat.le_refl _) _⟩
  case round =>
    obtain ⟨k, r, hk, rfl, hsr, hpo⟩ := hrel
    have HSR := Lib.hid hsr
    have HPO := Lib.hid hpo
    clear hsr hpo
    by_cases hlt : k < m / 2
    · obtain ⟨g, o, rfl, _, c1⟩ := HSR.out.getD (j := 2 * k) (by rw [← HM.out]; omega)
      obtain ⟨g', o', e, _, c2⟩ := HSR.out.getD (j := 2 * k + 1) (by rw [← HM.out]; omega)
      injection e with e
      injection e with e1 e2 _
      subst e1 e2
      have hX : ∀ j, 0 ≤ (q.getD j (0, 0)).2 ∧ (q.getD j (0, 0)).2 ≤ 9000000000000000000 := fun j => by
        by_cases hj : j < q.length
        · have := HQ.out _ (List.getElem_mem hj)
          simpa [List.getD_eq_getElem?_getD, hj] using this
        · simp [List.getD_eq_getElem?_getD, show q.length ≤ j by omega]
      have hX1 := hX (2 * k)
      have hX2 := hX (2 * k + 1)
      have hget := HK.out k (by rw [← HM.out]; exact hlt)
      have own := HPO.out.own
      have hrl : r.length = m / 2 := by rw [HPO.out.len, HP.out]
      have r0 := (own.get k (by omega)).1
      have r1 := (own.get k (by omega)).2
      have f0 := own.f (k * 2)
      have f1 := own.f (k * 2 + 1)
      clear hX own
      generalize (q.getD (2 * k) (0, 0)).2 = X at c1 hX1 hget
      generalize (q.getD (2 * k + 1) (0, 0)).2 = Y at c2 hX2 hget
      generalize (r.getD k (0, 0)).1 = R0 at r0
      generalize (r.getD k (0, 0)).2 = R1 at r1
      have hwr : IntKind.u64.wrap (X + Y) = X + Y := by unfold IntKind.wrap; simp [IntKind.bits, IntKind.signed]; omega
      have HST := Lib.hid (HPO.out.step (by rw [HP.out]; exact hlt) (Nat.le_refl _) (-1) (X + Y) hget)
      have w1 : IntKind.i64.wrap (2 * (k : Int)) = 2 * (k : Int) := by rw [IntKind.wrap_i64]; omega
      have w2 : IntKind.i64.wrap (2 * (k : Int) + 1) = 2 * (k : Int) + 1 := by rw [IntKind.wrap_i64]; omega
      have t1 : (2 * (k : Int)).toNat = 2 * k := by omega
      have t2 : (2 * (k : Int) + 1).toNat = 2 * k + 1 := by omega
      go_upto_region 5 with fail
      go_region
      go_wp2_with fail
      have hgl := HS.out.blk (by rw [← HM.out]; omega) _ rfl
      have hch := (((Ch.refl (fun y => y = w.heap.size) wr).setCell ⟨w.heap.size, k * 2, none⟩ (.int .i64 (-1)) (.inl rfl)).setCell ⟨w.heap.size, k * 2 + 1, none⟩ (.int .u64 (X + Y)) (.inl rfl)).drew
      exact ⟨⟨k + 1, _, by omega, by go_num, HSR.out.ch hch (fun x e => by injection e with e; subst e; exact fun e2 => by simp only at hgl e2; omega), HST.out.on (Below.refl _ _).drew⟩, by simp [intOf]; omega⟩
    · obtain rfl : k = m / 2 := by omega
      go_wp2_with fail
      go_ret
      have hd := HPO.out.done
      have hrl : r.length = m / 2 := by rw [HPO.out.len, HP.out]
      rw [List.take_of_length_le (by rw [hrl]; exact Nat.le_refl _), List.take_of_length_le (by rw [HP.out]; exact Nat.le_refl _)] at hd
      subst hd
      refine ⟨some w.heap.size, m / 2, by rw [HP.out]; rfl, ?_, fun g e => by injection e with e; omega, HPO.out.bel⟩
      have := HPO.out.own
      rw [hrl] at this
      exact this
end Go.Proofs.Ytemjlmeakkknbaa
