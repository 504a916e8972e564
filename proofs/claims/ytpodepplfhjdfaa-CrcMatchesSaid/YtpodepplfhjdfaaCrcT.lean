/- Package crc: Table. -/
import Derived.Test.YtpodepplfhjdfaaCrc
set_option linter.unusedVariables false
set_option linter.unusedSimpArgs false
namespace Go.Proofs.Ytpodepplfhjdfaa
open Go.RowKit

/-- The table, as far as it has been made. -/
def tabL (k : Nat) : List Int := (List.range 256).map fun b => if b < k then (crcRow b : Int) else 0
def tabRow (k : Nat) : Array Value := icells .u32 (tabL k)
theorem tabL_length (k : Nat) : (tabL k).length = 256 := by simp [tabL]
theorem tabRow_size (k : Nat) : (tabRow k).size = 256 := by rw [tabRow, icells_size, tabL_length]
theorem tabL_get (k i : Nat) (h : i < 256) : (tabL k)[i]? = some (if i < k then (crcRow i : Int) else 0) := by simp [tabL, h]
theorem tabRow_get (k i : Nat) (h : i < 256) : (tabRow k)[i]? = some (.int .u32 (if i < k then (crcRow i : Int) else 0)) := by
  rw [tabRow, icells_get, tabL_get k i h]
  rfl
theorem tabRow_set (k : Nat) (h : k < 256) : (tabRow k).setIfInBounds k (.int .u32 (crcRow k : Nat)) = tabRow (k + 1) := by
  apply Array.ext_getElem?
  intro i
  rw [Array.getElem?_setIfInBounds, tabRow_size]
  by_cases hi : i < 256
  · rw [tabRow_get _ i hi, tabRow_get _ i hi]
    by_cases e : k = i
    · subst e
      rw [if_pos rfl, if_pos h, if_pos (by omega)]
    · rw [if_neg e]
      by_cases h2 : i < k
      · rw [if_pos h2, if_pos (by omega)]
      · rw [if_neg h2, if_neg (by omega)]
  · rw [if_neg (by omega), Array.getElem?_eq_none (by rw [tabRow_size]; omega), Array.getElem?_eq_none (by rw [tabRow_size]; omega)]
theorem tabRow_all (k : Nat) : (tabRow k).all (·.oneCell') = true := by
  rw [Array.all_eq_true]
  intro i hi
  rw [tabRow_size] at hi
  have := tabRow_get k i hi
  rw [Array.getElem?_eq_getElem (by rw [tabRow_size]; exact hi)] at this
  injection this with this
  rw [this]
  rfl
/-- The whole table. -/
def tabR : Array Value := tabRow 256
theorem tabR_get (i : Nat) (h : i < 256) : tabR[i]? = some (.int .u32 (crcRow i : Nat)) := by
  rw [tabR, tabRow_get 256 i h, if_pos h]
theorem tabR_size : tabR.size = 256 := tabRow_size 256
theorem tabI : (Try.prog.info? 27).map (·.size) = some 256 := by kernel_rfl
theorem tabIk (k : Nat) : (Try.prog.info? 27).map (·.size) = some (tabRow k).size := by rw [tabRow_size]; exact tabI
theorem tabZ (w : World) : (zeroValue 27).run Try.prog w = .ok (.agg (tabRow 0)) w := by
  have h : (Try.prog.info? 27).map (fun i => (i.zero, i.size)) = some (some (.agg (tabRow 0)), 256) := by kernel_rfl
  exact (zero_of_info h).1 w

/-- While the table is made: block 0 is the result, block 1 the table. -/
structure Mk (w : World) (k : Nat) (wr : World) : Prop where
  res : wr.heap[w.heap.size]? = some (.cells (tabRow 0) 27 (0, 0))
  tab : wr.heap[w.heap.size + 1]? = some (.cells (tabRow k) 27 (0, 0))
  bel : Below w.heap.size w wr
theorem Mk.start (w : World) : Mk w 0 ((w.alloc (.cells (tabRow 0) 27)).alloc (.cells (tabRow 0) 27)) :=
  ⟨heap_alloc2_old w _ _, heap_alloc2_new w _ _, ((Below.refl _ _).alloc (Nat.le_refl _) _).alloc (by simp) _⟩
theorem Mk.set {w wr : World} {k : Nat} (h : Mk w k wr) (hk : k < 256) : Mk w (k + 1) (wr.setCell ⟨w.heap.size + 1, k, none⟩ (.int .u32 (crcRow k : Nat))) :=
  ⟨by rw [heap_setCell_other _ _ _ _ (by simp)]; exact h.res, by rw [heap_setCell_same _ _ _ _ _ _ h.tab, tabRow_set k hk], h.bel.setCell (by simp) _⟩
theorem Mk.ret {w wr : World} {k : Nat} (h : Mk w k wr) (cs : Array Value) : Below w.heap.size w (wr.setRow w.heap.size cs) :=
  ⟨h.bel.os, h.bel.tape, h.bel.output, by simpa using h.bel.size, fun i hi => (setRow_other wr w.heap.size i cs (by omega)).trans (h.bel.block i hi)⟩
theorem tabRow_cell {w : World} {g j : Nat} {t : TypeId} {fr : Nat × Nat} (hg : w.heap[g]? = some (.cells (tabRow j) t fr)) (i : Nat) (hi : i < 256) : w.cell? ⟨g, i, none⟩ = some (.int .u32 (if i < j then (crcRow i : Int) else 0)) := by
  rw [cell_of_row w g i _ t fr hg, tabRow_get j i hi]

set_option maxRecDepth 100000 in
set_option maxHeartbeats 1000000 in
theorem table_call (w : World) :
    Calls Try.prog 10 #[] w fun e w' => e = .returned (.agg tabR) ∧ Below w.heap.size w w' := by
  have hz := tabZ
  go_enter Try.func10, Try.ntmps10
  go_wp2_with fail
  go_loopw [3] (fun i wr => ∃ k : Nat, k ≤ 256 ∧ i = .int .i64 k ∧ Mk w k wr) (fun i _ => 256 - (intOf i).toNat)
  case atStart => exact ⟨0, by omega, rfl, Mk.start w⟩
  case round =>
    obtain ⟨k, hk, rfl, hm⟩ := hrel
    have HM := Lib.hid hm
    have hfz : wr.frozen? ⟨w.heap.size + 1, k, none⟩ = false := frozen_of_row wr (w.heap.size + 1) k _ _ hm.tab
    have hcl : k < 256 → wr.cell? ⟨w.heap.size + 1, k, none⟩ = some (.int .u32 0) := fun h => by rw [tabRow_cell hm.tab k h, if_neg (by omega)]
    clear hm
    by_cases hlt : k < 256
    · have hcl' := hcl hlt
      clear hcl
      go_wp2_with fail
      refine (entry_call k hlt _).mono ?_
      rintro e w' ⟨rfl, rfl⟩
      go_wp2_with fail
      go_roundw
      case rel => exact ⟨k + 1, by omega, by go_num, HM.out.set hlt⟩
      case measure => simp [intOf]; omega
    · obtain rfl : k = 256 := by omega
      clear hcl
      go_wp2_with (first
        | (refine wpList_load_row rfl 27 _ rfl (w.heap.size + 1) rfl 27 (tabRow 256) (0, 0) _ HM.out.tab Try.underlying27 rfl (tabIk 256) ?_)
        | (refine wpList_store_row rfl 27 _ _ rfl w.heap.size (tabRow 256) rfl rfl 27 (tabRow 0) HM.out.res (tabIk 256) (by rw [tabRow_size, tabRow_size]) (tabRow_all 256) ?_))
      refine bodyPost_ret (v := .agg (tabRow 256)) ?_ rfl ⟨rfl, HM.out.ret _⟩
      exact results_cell_row Try.results10 _ _ w.heap.size 27 (tabRow 256) (0, 0) _ rfl (setRow_heap _ _ _ _ _ _ HM.out.res) Try.underlying27 rfl (tabIk 256)
end Go.Proofs.Ytpodepplfhjdfaa
