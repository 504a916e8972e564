/- The contracts of package arena's functions, third part: loads, stores, allocation. -/
import Derived.Test.YtipliponbcjgdaaAr
set_option linter.unusedVariables false
set_option linter.unusedSimpArgs false
namespace Go.Proofs.Ytipliponbcjgdaa
open Go.RowKit
theorem sliceT : Try.prog.underlying 36 = some (.slice 5) := by kernel_rfl
theorem byteInfo : (Try.prog.info? 5).map (fun i => (i.zero, i.size, i.bytes)) = some (some (.int .u8 0), 1, 1) := by kernel_rfl
theorem byteSize : (Try.prog.info? 5).map (·.size) = some 1 := by kernel_rfl
theorem byteZero (w : World) : (zeroValue 5).run Try.prog w = .ok (.int .u8 0) w := by kernel_rfl
section
variable {w : World} {p q : Nat} {mem : List Int} {live peak : Nat}

/-- The bytes of a span. -/
def seg (mem : List Int) (a n : Nat) : List Int := (mem.drop a).take n
theorem seg_length (mem : List Int) (a n : Nat) (h : a + n ≤ mem.length) : (seg mem a n).length = n := by simp [seg]; omega

theorem hasB_yes {live : Nat} {a n : Int} (h : hasB live a n = true) : ∃ a' n' : Nat, a = a' ∧ n = n' ∧ a' + n' ≤ live := by
  simp only [hasB, decide_eq_true_eq] at h
  exact ⟨a.toNat, n.toNat, by omega, by omega, by omega⟩

/-- A part of an arena, as a source. -/
theorem Ar.srcPart (h : Ar w p q mem live peak) (a n : Nat) (hn : a + n ≤ mem.length) : Src w .u8 (some ⟨q, partOff a n, none⟩) (seg mem a n) := by
  by_cases h0 : n = 0
  · subst h0
    exact .inl (by simp [seg])
  · rw [partOff, if_neg h0]
    exact Src.row h.hq n hn

set_option maxHeartbeats 400000 in
theorem load_no (h : Ar w p q mem live peak) (a n : Int) (hn : n ≤ 9223372036854775807) (hh : hasB live a n = false) :
    Calls Try.prog 14 #[.pointer (some ⟨p, 0, none⟩), .agg #[.int .i64 a, .int .i64 n]] w fun e w' =>
      e = .returned (.slice none 0 0) ∧ Below w.heap.size w w' := by
  have h1 := h.alloc (.cells #[Value.int IntKind.i64 a, Value.int IntKind.i64 n] 34)
  go_enter Try.func14, Try.ntmps14
  go_wp2_with fail
  refine (has_call h1 a n hn).mono ?_
  rintro e w1 ⟨rfl, hb⟩
  rw [hh]
  clear hh h1
  go_wp2
  go_ret
  exact ⟨rfl, ((Below.refl _ _).alloc (Nat.le_refl _) _).trans (hb.mono (by simp))⟩

/-- A slice of bytes in new memory. -/
def NewBytes (w : World) (l : List Int) (e : Ending) (w' : World) : Prop :=
  ∃ g : Nat, e = .returned (.slice (some ⟨g, 0, none⟩) l.length l.length) ∧ w.heap.size ≤ g ∧ w'.heap[g]? = some (.cells (icells .u8 l) 5 (0, 0)) ∧ Below w.heap.size w w'

set_option maxHeartbeats 400000 in
theorem load_yes (h : Ar w p q mem live peak) (a n : Nat) (hh : hasB live a n = true) (hal : a + n ≤ live) :
    Calls Try.prog 14 #[.pointer (some ⟨p, 0, none⟩), .agg #[.int .i64 a, .int .i64 n]] w (NewBytes w (seg mem a n)) := by
  have h1 := h.alloc (.cells #[Value.int IntKind.i64 a, Value.int IntKind.i64 n] 34)
  have hl := h.ll
  have hs := h.small
  have hmk := run_makeI (P := Try.prog) (k := .u8) sliceT byteInfo .i64 .i64 n (by omega) (by omega)
  have hL := seg_length mem a n (by omega)
  go_enter Try.func14, Try.ntmps14
  go_wp2_with fail
  refine (has_call h1 a n (by omega)).mono ?_
  rintro e w1 ⟨rfl, hb⟩
  rw [hh]
  have h2 := h1.below hb
  have hz : w1.cell? ⟨w.heap.size, 0, none⟩ = some (.int .i64 a) := (hb.cell (by simp)).trans (by simp)
  have hz1 : w1.cell? ⟨w.heap.size, 1, none⟩ = some (.int .i64 n) := (hb.cell (by simp)).trans (by simp)
  have hF := Lib.hid hb
  have HL := Lib.hid hL
  have hw1 : w.heap.size < w1.heap.size := by have := hb.size; simp at this; omega
  clear h1 hh h hb hL
  go_wp2_with fail
  refine (part_call (h2.alloc _) a n (by omega)).mono ?_
  rintro e w2 ⟨rfl, hb2⟩
  have h4 := (h2.alloc (.cells (icells .u8 (List.replicate n 0)) 5)).below hb2
  have hg : w2.heap[w1.heap.size]? = some (.cells (icells .u8 (List.replicate n 0)) 5 (0, 0)) := by
    rw [hb2.block _ (by simp)]; exact heap_alloc_new _ _
  have hF2 := Lib.hid hb2
  clear hb2
  obtain ⟨w3, hrun, hg3, hgr⟩ := run_copyI (P := Try.prog) w2 36 36 3 _ sliceT byteSize (some ⟨w1.heap.size, 0, none⟩) (some ⟨q, partOff a n, none⟩) n n n n .u8 w1.heap.size 0 (List.replicate n 0) 5 hg (seg mem a n) HL.out (h4.srcPart a n (by have := h4.ll; omega)) n (by simp) (fun _ => rfl) (by simp)
  have hcs : splice (List.replicate n (0 : Int)) 0 ((seg mem a n).take n) = seg mem a n := by
    rw [List.take_of_length_le (Nat.le_of_eq HL.out)]
    exact splice_full _ _ (by rw [List.length_replicate]; exact HL.out)
  rw [hcs] at hg3
  have hgr' := Lib.hid hgr
  have hg3' := Lib.hid hg3
  clear hcs hgr hg3 hg h4 h2
  go_wp2
  go_ret
  refine ⟨w1.heap.size, ?_, by omega, hg3'.out, ?_⟩
  · rw [HL.out]; rfl
  · have hF2' := hF2.out.size
    simp at hF2'
    have e1 : Below w.heap.size w w1 := (((Below.refl _ _).alloc (Nat.le_refl _) _).trans (hF.out.mono (by simp)))
    have e2 : Below w.heap.size w w2 := (e1.alloc (by omega) _).trans (hF2.out.mono (by simp; omega))
    exact e2.grown hgr'.out (by omega) (fun k hk => by injection hk with hk; omega)

end
end Go.Proofs.Ytipliponbcjgdaa
