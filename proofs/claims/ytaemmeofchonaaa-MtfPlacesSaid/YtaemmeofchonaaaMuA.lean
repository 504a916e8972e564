/- A list shifted by copy (the developers' withFront). -/
import Derived.Test.YtaemmeofchonaaaMtC
import Derived.RegionTactic
import Derived.Deep.RegionHeld3
set_option linter.unusedVariables false
set_option linter.unusedSimpArgs false
namespace Go.Proofs.Ytaemmeofchonaaa
open Go.RowKit

/-- The bytes in front of p, one place on, and the byte at p first. -/
theorem splice_tk {l : List Int} (h : l.length = 256) {p : Nat} (hp : p < 256) : (splice l 1 ((l.take p).take p)).set 0 (l.getD p 0) = tkV l p := by
  rw [List.take_take, Nat.min_self]
  have hsl : (splice l 1 (l.take p)).length = 256 := by rw [splice_length _ _ _ (by rw [List.length_take]; omega), h]
  have htl := tkV_len (l := l) (p := p) (by omega)
  refine ext256 (by rw [List.length_set, hsl]) (by rw [htl, h]) fun i hi => ?_
  rw [set_getD _ _ _ _ (by omega)]
  by_cases h0 : i = 0
  · rw [if_pos h0, h0]
    rfl
  · rw [if_neg h0, List.getD_eq_getElem?_getD, splice_getElem? _ _ _ (by rw [List.length_take]; omega)]
    obtain ⟨j, rfl⟩ : ∃ j, i = j + 1 := ⟨i - 1, by omega⟩
    by_cases hj : j < p
    · rw [if_pos (by rw [List.length_take]; omega), Nat.add_sub_cancel, List.getElem?_take, if_pos hj, ← List.getD_eq_getElem?_getD, tkV_low l (by omega) hj]
    · rw [if_neg (by rw [List.length_take]; omega), ← List.getD_eq_getElem?_getD, tkV_high l (by omega) (by omega)]
theorem byteS : (Try.prog.info? 5).map (·.size) = some 1 := by kernel_rfl
theorem ll_src {w : World} {g : Nat} {t : TypeId} {fr : Nat × Nat} {l : List Int} (hg : w.heap[g]? = some (.cells (ll l) t fr)) : Src w .u8 (some ⟨g, 0, none⟩) l := Src.whole (l := l) hg

theorem lst_arr : Try.prog.arrayLen 23 = 256 := by kernel_rfl
theorem lst_elem : Try.prog.elem 23 = 5 := by kernel_rfl
theorem lst_und : Try.prog.underlying 23 = some (.array (Try.prog.arrayLen 23) (Try.prog.elem 23)) := by rw [lst_arr, lst_elem]; exact Try.underlying23
theorem byte_size (W : World) : (sizeOf 5).run Try.prog W = .ok 1 W := by
  simp [sizeOf, go_sem]
  rfl
/-- A part of an array that lies in memory. -/
theorem arr_l (g lo : Nat) (h3 : lo < 256) (x : Int) (hx : x = (lo : Int)) (W : World) :
    (Instr.sliceAt 23 (.pointer (some ⟨g, 0, none⟩)) (some (.int .i64 x)) none none).run Try.prog W = .ok (.slice (some ⟨g, lo, none⟩) (256 - lo) (256 - lo)) W := by
  subst hx
  rw [run_sliceAt_array_l W _ _ lst_und .i64 lo (by omega) (by rw [lst_arr]; omega), lst_elem, byte_size, lst_arr]
  simp only [Result.andThen_ok, slicedAt, Int.toNat_natCast]
  rw [if_neg (by omega)]
  simp [Addr.add]
  exact fun e => e.symm
theorem arr_h (g hi : Nat) (h2 : hi ≤ 256) (y : Int) (hy : y = (hi : Int)) (W : World) :
    (Instr.sliceAt 23 (.pointer (some ⟨g, 0, none⟩)) none (some (.int .i64 y)) none).run Try.prog W = .ok (.slice (some ⟨g, 0, none⟩) hi 256) W := by
  subst hy
  rw [run_sliceAt_array_h W _ _ lst_und .i64 hi (by omega) (by rw [lst_arr]; omega), lst_elem, byte_size, lst_arr]
  simp only [Result.andThen_ok, slicedAt, Int.toNat_natCast]
  rw [if_neg (by omega)]
  simp [Addr.add]

set_option maxRecDepth 100000 in
set_option maxHeartbeats 4000000 in
theorem front_call (l : List Int) (h : Lst l) (p : Nat) (hp : p < 256) (w : World) :
    Calls Try.prog 22 #[.agg (ll l), .int .i64 p] w fun e w' => e = .returned (.agg (ll (tkV l p))) ∧ Below w.heap.size w w' := by
  have hz := lstZ
  have hz0 := ll_size zS_lst
  have HTK := Lib.hid (splice_tk h.1 hp)
  have HTL := Lib.hid (tkV_lst h hp)
  go_enter Try.func22, Try.ntmps22
  go_upto_region 1 with fail
  have hg := heap_alloc2_old w (.cells (ll l) 23) (.cells (ll zS) 23)
  have HR := Lib.hid (heap_alloc2_new w (.cells (ll l) 23) (.cells (ll zS) 23))
  have HB := Lib.hid (show Below w.heap.size w ((w.alloc (.cells (ll l) 23)).alloc (.cells (ll zS) 23)) from ((Below.refl _ _).alloc (Nat.le_refl _) _).alloc (by simp) _)
  generalize (w.alloc (.cells (ll l) 23)).alloc (.cells (ll zS) 23) = w1 at hg HR HB ⊢
  have cp := ll_cell hg h p hp
  generalize hV : l.getD p 0 = V at cp HTK
  clear hV
  go_upto_region 2 with fail
  obtain ⟨w3, hrun, hg3, hgr⟩ := run_copyI (P := Try.prog) w1.drew 24 24 3 _ byteT byteS (some ⟨w.heap.size, 1, none⟩) (some ⟨w.heap.size, 0, none⟩) 255 255 p 256 .u8 w.heap.size 1 l 23 hg
    (l.take p) (by rw [List.length_take, h.1]; omega) ((ll_src hg).take p) p (by omega) (fun _ => rfl) (by rw [h.1]; omega)
  have HG3 := Lib.hid hg3
  have HGR := Lib.hid hgr
  have hs1 := fun W => arr_l w.heap.size 1 (by omega) 1 rfl W
  have hs2 := fun W => arr_h w.heap.size p (by omega) (p : Int) rfl W
  clear hg3 hgr cp
  go_region
  have hw3 : w3.heap[w.heap.size + 1]? = some (.cells (ll zS) 23 (0, 0)) := (HGR.out.block _ (Array.getElem?_eq_some_iff.1 HR.out).1 (fun e => by injection e with e; omega)).trans HR.out
  have hsp : (splice l 1 ((l.take p).take p)).length = 256 := by rw [splice_length _ _ _ (by rw [List.length_take, List.length_take, h.1]; omega), h.1]
  have HB3 := Lib.hid (HB.out.drew.grown HGR.out HB.out.size (fun k e => by injection e with e; omega))
  obtain ⟨sp, hspe⟩ : ∃ sp, sp = splice l 1 ((l.take p).take p) := ⟨_, rfl⟩
  have hg3 := HG3.out
  have htk := HTK.out
  rw [← hspe] at hg3 htk hsp
  have c0 : w3.cell? ⟨w.heap.size, 0, none⟩ = some (.int .u8 (sp.getD 0 0)) := by
    rw [cell_of_row w3 w.heap.size 0 _ _ (0, 0) hg3, icells_get, List.getD_eq_getElem?_getD, List.getElem?_eq_getElem (by omega)]
    rfl
  have f0 := frozen_of_row w3 w.heap.size 0 _ _ hg3
  have hg4 := heap_setCell_same w3 w.heap.size 0 _ _ (.int .u8 V) hg3
  have hr4 : (w3.setCell ⟨w.heap.size, 0, none⟩ (.int .u8 V)).heap[w.heap.size + 1]? = some (.cells (ll zS) 23 (0, 0)) := (heap_setCell_other _ _ _ _ (by simp)).trans hw3
  rw [show icells .u8 sp = ll sp from rfl, ll_set, htk] at hg4
  have hXL := HTL.out
  have HB4 := Lib.hid (HB3.out.setCell (p := ⟨w.heap.size, 0, none⟩) (Nat.le_refl _) (.int .u8 V))
  obtain ⟨X, hX⟩ : ∃ X, X = tkV l p := ⟨_, rfl⟩
  rw [← hX] at hg4 hXL
  have HX := Lib.hid hX
  have hsX := ll_size hXL
  generalize sp.getD 0 0 = Z at c0
  clear hg hg3 htk hspe hX HG3 HGR HTK HTL hs1 hs2 hrun hw3
  go_upto_region 4 with fail
  generalize w3.setCell ⟨w.heap.size, 0, none⟩ (.int .u8 V) = w4 at hg4 hr4 HB4 ⊢
  go_wp2_with (first
    | (refine wpList_load_row rfl 23 _ rfl w.heap.size rfl 23 (ll X) (0, 0) _ hg4 Try.underlying23 rfl (lstIk hXL) ?_)
    | (refine wpList_store_row rfl 23 _ _ rfl (w.heap.size + 1) (ll X) rfl rfl 23 (ll zS) hr4 (lstIk hXL) (by rw [hz0, hsX]) (ll_all _) ?_))
  refine bodyPost_ret (v := .agg (ll X)) ?_ rfl ⟨by rw [HX.out], HB4.out.setRow (by omega) _⟩
  exact results_cell1 Try.results22 _ _ (w.heap.size + 1) 23 (ll X) (0, 0) _ rfl (setRow_heap _ _ _ _ _ _ hr4) Try.underlying23 rfl (lstIk hXL)
end Go.Proofs.Ytaemmeofchonaaa
