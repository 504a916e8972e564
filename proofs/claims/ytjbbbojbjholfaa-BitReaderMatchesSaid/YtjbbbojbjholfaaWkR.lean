/- The walk over winepresslaw03.wakes. -/
import Derived.Test.YtjbbbojbjholfaaRdB
import Derived.RangeFuncBox
set_option linter.unusedVariables false
set_option linter.unusedSimpArgs false
namespace Go.Proofs.Ytjbbbojbjholfaa
open Go.RowKit

theorem two_chunks {w : World} {g g1 g2 : Nat} {t : TypeId} (h : w.heap[g]? = some (.cells #[.slice (some ⟨g1, 0, none⟩) 1 1, .slice none 0 0, .slice (some ⟨g2, 0, none⟩) 1 1] t (0, 0))) : CSrc w (some ⟨g, 0, none⟩) [⟨some ⟨g1, 0, none⟩, 1, 1, [165]⟩, ⟨none, 0, 0, []⟩, ⟨some ⟨g2, 0, none⟩, 1, 1, [240]⟩] :=
  .inr ⟨g, 0, rfl, fun j d hj => by
    have hj3 : j < 3 := by
      have := (List.getElem?_eq_some_iff.1 hj).1
      simpa using this
    obtain rfl | rfl | rfl : j = 0 ∨ j = 1 ∨ j = 2 := by omega
    all_goals
      simp at hj
      subst hj
      simp [World.cell?, h]⟩

/-- The chunks of the first call. -/
def wkW (w : World) : World := ((w.alloc (.cells #[.int .u8 165] 5)).alloc (.cells #[.int .u8 240] 5)).alloc (.cells #[.slice (some ⟨w.heap.size, 0, none⟩) 1 1, .slice none 0 0, .slice (some ⟨w.heap.size + 1, 0, none⟩) 1 1] 28)
theorem wk_feed {B : Nat} {w : World} {p : Nat} {a : Option Addr} {c : Nat} (h : RdB B w p a c [] 0 false) :
    Calls Try.prog 11 #[.pointer (some ⟨p, 0, none⟩), .slice (some ⟨w.heap.size + 1 + 1, 0, none⟩) 3 3] (wkW w) fun x w' => x = .returned (.bool true) ∧ NowB B w p [165, 240] 0 false w' := by
  have h1 := Boxed.new w 5 (.int .u8 165)
  have h2 := Boxed.new (w.alloc (.cells #[.int .u8 165] 5)) 5 (.int .u8 240)
  have h1' := (h1.alloc (.cells #[.int .u8 240] 5)).alloc (.cells #[.slice (some ⟨w.heap.size, 0, none⟩) 1 1, .slice none 0 0, .slice (some ⟨w.heap.size + 1, 0, none⟩) 1 1] 28)
  have h2' := h2.alloc (.cells #[.slice (some ⟨w.heap.size, 0, none⟩) 1 1, .slice none 0 0, .slice (some ⟨w.heap.size + 1, 0, none⟩) 1 1] 28)
  have h3 := heap_alloc_new ((w.alloc (.cells #[.int .u8 165] 5)).alloc (.cells #[.int .u8 240] 5)) (.cells #[.slice (some ⟨w.heap.size, 0, none⟩) 1 1, .slice none 0 0, .slice (some ⟨w.heap.size + 1, 0, none⟩) 1 1] 28)
  have hb : Below w.heap.size w (wkW w) := (((Below.refl _ w).alloc (Nat.le_refl _) _).alloc (by simp) _).alloc (by simp; omega) _
  simp only [World.size_alloc] at h2 h2' h3
  have hW := h.below hb
  refine (feedB hW _ 3 3 [⟨some ⟨w.heap.size, 0, none⟩, 1, 1, [165]⟩, ⟨none, 0, 0, []⟩, ⟨some ⟨w.heap.size + 1, 0, none⟩, 1, 1, [240]⟩] rfl (two_chunks h3) ?_ (by omega) ?_ ?_ (by simp [joinC]) [165, 240] rfl).mono ?_
  · intro d hd
    simp at hd
    rcases hd with rfl | rfl | rfl
    · exact ⟨rfl, Src.one h1'.cell, by simp [Byts], by simp, by simp [maxLen]⟩
    · exact ⟨rfl, .inl rfl, by simp [Byts], by simp, by simp [maxLen]⟩
    · exact ⟨rfl, Src.one h2'.cell, by simp [Byts], by simp, by simp [maxLen]⟩
  · intro _ x e
    injection e with e
    subst e
    exact h.new (by simp; omega)
  · intro d hd h0 x e
    simp at hd
    rcases hd with rfl | rfl | rfl
    · injection e with e
      subst e
      exact h.new (by simp)
    · cases e
    · injection e with e
      subst e
      exact h.new (by simp)
  · rintro x w' ⟨h4, a', c', h5, h6⟩
    exact ⟨h4, a', c', h5, (hb.mono h.sz).trans h6⟩

set_option maxRecDepth 100000 in
set_option maxHeartbeats 4000000 in
theorem wakes_call (w : World) :
    Calls Try.prog 9 #[] w fun e w' => e = .returned (.bool true) ∧ Below w.heap.size w w' := by
  obtain ⟨B, hB⟩ : ∃ B, B = w.heap.size := ⟨_, rfl⟩
  rw [← hB]
  have hB' := Lib.hid hB
  clear hB
  go_enter Try.func9, Try.ntmps9
  go_wp2_with fail
  refine (newB B w (by rw [hB'.out]; exact Nat.le_refl _)).mono ?_
  rintro e w1 ⟨rfl, hw, hb⟩
  rw [← hB'.out] at hw hb ⊢
  have b1 := Lib.hid hb
  clear hb
  go_wp2_with fail
  refine (wk_feed hw).mono ?_
  rintro e w2 ⟨rfl, a2, c2, hw2, hb⟩
  have b2 := Lib.hid (b1.out.trans hb)
  clear hw hb b1
  go_wp2_with fail
  refine (peekB hw2 3 (by omega) (by simp) 5 (by decide)).mono ?_
  rintro e w3 ⟨rfl, hw3, hb⟩
  have b3 := Lib.hid (b2.out.trans (hb.mono hw2.sz))
  clear hw2 hb b2
  go_wp2_with fail
  refine (takeB hw3 3 (by omega) (by simp) 5 (by decide) 3 rfl).mono ?_
  rintro e w4 ⟨rfl, a4, c4, hw4, hb⟩
  have b4 := Lib.hid (b3.out.trans hb)
  clear hw3 hb b3
  go_wp2_with fail
  refine (takeB hw4 6 (by omega) (by simp) 11 (by decide) 9 rfl).mono ?_
  rintro e w5 ⟨rfl, a5, c5, hw5, hb⟩
  have b5 := Lib.hid (b4.out.trans hb)
  clear hw4 hb b4
  go_wp2_with fail
  refine (leftB hw5 7 (by simp)).mono ?_
  rintro e w6 ⟨rfl, hw6, hb⟩
  have b6 := Lib.hid (b5.out.trans (hb.mono hw5.sz))
  clear hw5 hb b5
  go_wp2_with fail
  refine (used_call hw6.rd).mono ?_
  rintro e w7 ⟨rfl, rfl⟩
  go_wp2_with fail
  refine (alignB hw6 7 (by decide) 112 (by decide) 16 rfl).mono ?_
  rintro e w7 ⟨rfl, a7, c7, hw7, hb⟩
  have b7 := Lib.hid (b6.out.trans hb)
  clear hw6 hb b6
  go_wp2_with fail
  refine (take_noB hw7 1 (by simp)).mono ?_
  rintro e w8 ⟨rfl, hw8, hb⟩
  have b8 := Lib.hid (b7.out.trans (hb.mono hw7.sz))
  clear hw7 hb b7
  go_wp2_with fail
  refine (takeB hw8 0 (by omega) (by simp) 0 (by decide) 16 rfl).mono ?_
  rintro e w9 ⟨rfl, a9, c9, hw9, hb⟩
  have b9 := Lib.hid (b8.out.trans hb)
  clear hw8 hb b8
  go_wp2_with fail
  refine (take_noB hw9 33 (by simp)).mono ?_
  rintro e w10 ⟨rfl, hw10, hb⟩
  have b10 := Lib.hid (b9.out.trans (hb.mono hw9.sz))
  clear hw9 hb b9
  go_wp2_with fail
  refine (endB hw10).mono ?_
  rintro e w11 ⟨rfl, hw11, hb⟩
  have b11 := Lib.hid (b10.out.trans hb)
  clear hw10 hb b10
  go_wp2_with fail
  refine (endB hw11).mono ?_
  rintro e w12 ⟨rfl, hw12, hb⟩
  have b12 := Lib.hid (b11.out.trans hb)
  clear hw11 hb b11
  go_wp2_with fail
  refine (feed_no ((hw12.alloc _).alloc _).rd _ 1 1).mono ?_
  rintro e w13 ⟨rfl, rfl⟩
  have hw13 := (hw12.alloc (.cells #[.int .u8 1] 5)).alloc (.cells #[.slice (some ⟨w12.heap.size, 0, none⟩) 1 1] 28)
  have b13 := Lib.hid ((b12.out.alloc hw12.sz (.cells #[.int .u8 1] 5)).alloc (by have := hw12.sz; simp; omega) (.cells #[.slice (some ⟨w12.heap.size, 0, none⟩) 1 1] 28))
  generalize ((w12.alloc (.cells #[.int .u8 1] 5)).alloc (.cells #[.slice (some ⟨w12.heap.size, 0, none⟩) 1 1] 28)) = w13 at *
  clear hw12 b12
  go_wp2_with fail
  refine (alignB hw13 0 (by decide) 0 (by decide) 16 rfl).mono ?_
  rintro e w14 ⟨rfl, a14, c14, hw14, hb⟩
  have b14 := Lib.hid (b13.out.trans hb)
  clear hw13 hb b13
  go_wp2_with fail
  refine (take_nil w14 0).mono ?_
  rintro e w15 ⟨rfl, rfl⟩
  go_wp2_with fail
  refine (ended_call hw14.rd).mono ?_
  rintro e w16 ⟨rfl, rfl⟩
  go_wp2_with fail
  refine (feed_nil w14 none 0 0).mono ?_
  rintro e w17 ⟨rfl, rfl⟩
  go_wp2_with fail
  refine (left_nil w14).mono ?_
  rintro e w18 ⟨rfl, rfl⟩
  go_wp2
  go_ret
  exact ⟨rfl, b14.out⟩
end Go.Proofs.Ytjbbbojbjholfaa
