/- Two readers and a slice of bytes side by side in memory. -/
import Derived.Test.YtjbbbojbjholfaaChk
import Derived.Test.YtjbbbojbjholfaaRdB
set_option linter.unusedVariables false
set_option linter.unusedSimpArgs false
namespace Go.Proofs.Ytjbbbojbjholfaa
open Go.RowKit

structure Two (B : Nat) (w : World) (p1 : Nat) (a1 : Option Addr) (f1 : List Int) (u1 : Nat) (p2 : Nat) (a2 : Option Addr) (f2 : List Int) (u2 : Nat) (aJ : Option Addr) (cJ : Nat) (J : List Int) : Prop where
  r1 : ∃ c, Rd w p1 a1 c f1 u1 false
  r2 : ∃ c, Rd w p2 a2 c f2 u2 false
  rj : WinS w .u8 5 aJ cJ J
  b1 : ∀ k, Rp p1 a1 k → B ≤ k
  b2 : ∀ k, Rp p2 a2 k → B ≤ k
  s12 : ∀ k, Rp p1 a1 k → ¬ Rp p2 a2 k
  s1j : ∀ k, Rp p1 a1 k → blk aJ ≠ some k
  s2j : ∀ k, Rp p2 a2 k → blk aJ ≠ some k
  sz : B ≤ w.heap.size
section
variable {B : Nat} {w w' : World} {p1 : Nat} {a1 : Option Addr} {f1 : List Int} {u1 : Nat} {p2 : Nat} {a2 : Option Addr} {f2 : List Int} {u2 : Nat} {aJ : Option Addr} {cJ : Nat} {J : List Int}
theorem Two.swap (h : Two B w p1 a1 f1 u1 p2 a2 f2 u2 aJ cJ J) : Two B w p2 a2 f2 u2 p1 a1 f1 u1 aJ cJ J :=
  ⟨h.r2, h.r1, h.rj, h.b2, h.b1, fun k e1 e2 => h.s12 k e2 e1, h.s2j, h.s1j, h.sz⟩
theorem Two.below (h : Two B w p1 a1 f1 u1 p2 a2 f2 u2 aJ cJ J) (hb : Below w.heap.size w w') : Two B w' p1 a1 f1 u1 p2 a2 f2 u2 aJ cJ J := by
  obtain ⟨c1, r1⟩ := h.r1
  obtain ⟨c2, r2⟩ := h.r2
  exact ⟨⟨c1, r1.below hb⟩, ⟨c2, r2.below hb⟩, h.rj.below hb, h.b1, h.b2, h.s12, h.s1j, h.s2j, Nat.le_trans h.sz hb.size⟩
def Step1 (B : Nat) (w : World) (p1 : Nat) (f1 : List Int) (u1 : Nat) (p2 : Nat) (a2 : Option Addr) (f2 : List Int) (u2 : Nat) (aJ : Option Addr) (cJ : Nat) (J : List Int) (w' : World) : Prop := ∃ a1, Two B w' p1 a1 f1 u1 p2 a2 f2 u2 aJ cJ J ∧ Below B w w'
theorem Two.step1 (h : Two B w p1 a1 f1 u1 p2 a2 f2 u2 aJ cJ J) {f1' : List Int} {u1' : Nat} (hn : NowR w p1 a1 f1' u1' false w') : Step1 B w p1 f1' u1' p2 a2 f2 u2 aJ cJ J w' := by
  obtain ⟨a', c', h1, h2, h3⟩ := hn
  obtain ⟨c2, r2⟩ := h.r2
  refine ⟨a', ⟨⟨c', h1⟩, ⟨c2, r2.ch h2 (fun k hk e => h.s12 k e hk)⟩, h.rj.ch h2 (fun g hg e => h.s1j g e hg), fun k hk => ?_, h.b2, fun k hk e => ?_, fun k hk e => ?_, h.s2j, Nat.le_trans h.sz h2.size⟩, h2.below h.sz h.b1⟩
  · rcases hk with rfl | hk
    · exact h.b1 _ (.inl rfl)
    · rcases h3 k hk with h4 | h4
      · exact h.b1 _ (.inr h4)
      · exact Nat.le_trans h.sz h4
  · rcases hk with rfl | hk
    · exact h.s12 _ (.inl rfl) e
    · rcases h3 k hk with h4 | h4
      · exact h.s12 _ (.inr h4) e
      · have := r2.fpLt e
        omega
  · rcases hk with rfl | hk
    · exact h.s1j _ (.inl rfl) e
    · rcases h3 k hk with h4 | h4
      · exact h.s1j _ (.inr h4) e
      · have := h.rj.lt e
        omega
def Step2 (B : Nat) (w : World) (p1 : Nat) (a1 : Option Addr) (f1 : List Int) (u1 : Nat) (p2 : Nat) (f2 : List Int) (u2 : Nat) (aJ : Option Addr) (cJ : Nat) (J : List Int) (w' : World) : Prop := ∃ a2, Two B w' p1 a1 f1 u1 p2 a2 f2 u2 aJ cJ J ∧ Below B w w'
theorem Two.step2 (h : Two B w p1 a1 f1 u1 p2 a2 f2 u2 aJ cJ J) {f2' : List Int} {u2' : Nat} (hn : NowR w p2 a2 f2' u2' false w') : Step2 B w p1 a1 f1 u1 p2 f2' u2' aJ cJ J w' := by
  obtain ⟨a', h1, h2⟩ := h.swap.step1 hn
  exact ⟨a', h1.swap, h2⟩
/-- The calls. -/
theorem Two.take1 (h : Two B w p1 a1 f1 u1 p2 a2 f2 u2 aJ cJ J) (wd : Nat) (hw : wd ≤ 32) (hu : u1 + wd ≤ 8 * f1.length) (V : Int) (hV : valV (((bitsB f1).drop u1).take wd) = V) :
    Calls Try.prog 15 #[.pointer (some ⟨p1, 0, none⟩), .int .i64 wd] w fun x w' => x = .returned (.tuple #[.int .u32 V, .bool true]) ∧ Step1 B w p1 f1 (u1 + wd) p2 a2 f2 u2 aJ cJ J w' := by
  obtain ⟨c1, r1⟩ := h.r1
  exact (take_yes r1 wd hw hu).mono fun x w' ⟨h1, h2⟩ => ⟨by rw [← hV]; exact h1, h.step1 h2.now⟩
theorem Two.take1no (h : Two B w p1 a1 f1 u1 p2 a2 f2 u2 aJ cJ J) (wd : Nat) (hu : ¬ u1 + wd ≤ 8 * f1.length) :
    Calls Try.prog 15 #[.pointer (some ⟨p1, 0, none⟩), .int .i64 wd] w fun x w' => x = .returned (.tuple #[.int .u32 0, .bool false]) ∧ Two B w' p1 a1 f1 u1 p2 a2 f2 u2 aJ cJ J ∧ Below B w w' := by
  obtain ⟨c1, r1⟩ := h.r1
  exact (take_no r1 wd (by omega)).mono fun x w' ⟨h1, h2⟩ => ⟨h1, h.below h2, h2.mono h.sz⟩
theorem Two.take2 (h : Two B w p1 a1 f1 u1 p2 a2 f2 u2 aJ cJ J) (wd : Nat) (hw : wd ≤ 32) (hu : u2 + wd ≤ 8 * f2.length) (V : Int) (hV : valV (((bitsB f2).drop u2).take wd) = V) :
    Calls Try.prog 15 #[.pointer (some ⟨p2, 0, none⟩), .int .i64 wd] w fun x w' => x = .returned (.tuple #[.int .u32 V, .bool true]) ∧ Step2 B w p1 a1 f1 u1 p2 f2 (u2 + wd) aJ cJ J w' := by
  obtain ⟨c2, r2⟩ := h.r2
  exact (take_yes r2 wd hw hu).mono fun x w' ⟨h1, h2⟩ => ⟨by rw [← hV]; exact h1, h.step2 h2.now⟩
theorem Two.take2no (h : Two B w p1 a1 f1 u1 p2 a2 f2 u2 aJ cJ J) (wd : Nat) (hu : ¬ u2 + wd ≤ 8 * f2.length) :
    Calls Try.prog 15 #[.pointer (some ⟨p2, 0, none⟩), .int .i64 wd] w fun x w' => x = .returned (.tuple #[.int .u32 0, .bool false]) ∧ Two B w' p1 a1 f1 u1 p2 a2 f2 u2 aJ cJ J ∧ Below B w w' := by
  obtain ⟨c2, r2⟩ := h.r2
  exact (take_no r2 wd (by omega)).mono fun x w' ⟨h1, h2⟩ => ⟨h1, h.below h2, h2.mono h.sz⟩
theorem Two.left1 (h : Two B w p1 a1 f1 u1 p2 a2 f2 u2 aJ cJ J) (n : Nat) (hn : u1 + n = 8 * f1.length) :
    Calls Try.prog 20 #[.pointer (some ⟨p1, 0, none⟩)] w fun x w' => x = .returned (.int .i64 n) ∧ Two B w' p1 a1 f1 u1 p2 a2 f2 u2 aJ cJ J ∧ Below B w w' := by
  obtain ⟨c1, r1⟩ := h.r1
  exact (left_call r1 n hn).mono fun x w' ⟨h1, h2⟩ => ⟨h1, h.below h2, h2.mono h.sz⟩
theorem Two.left2 (h : Two B w p1 a1 f1 u1 p2 a2 f2 u2 aJ cJ J) (n : Nat) (hn : u2 + n = 8 * f2.length) :
    Calls Try.prog 20 #[.pointer (some ⟨p2, 0, none⟩)] w fun x w' => x = .returned (.int .i64 n) ∧ Two B w' p1 a1 f1 u1 p2 a2 f2 u2 aJ cJ J ∧ Below B w w' := by
  obtain ⟨c2, r2⟩ := h.r2
  exact (left_call r2 n hn).mono fun x w' ⟨h1, h2⟩ => ⟨h1, h.below h2, h2.mono h.sz⟩
theorem Two.used1 (h : Two B w p1 a1 f1 u1 p2 a2 f2 u2 aJ cJ J) :
    Calls Try.prog 22 #[.pointer (some ⟨p1, 0, none⟩)] w fun x w' => x = .returned (.int .i64 u1) ∧ w = w' := by
  obtain ⟨c1, r1⟩ := h.r1
  exact used_call r1
theorem Two.used2 (h : Two B w p1 a1 f1 u1 p2 a2 f2 u2 aJ cJ J) :
    Calls Try.prog 22 #[.pointer (some ⟨p2, 0, none⟩)] w fun x w' => x = .returned (.int .i64 u2) ∧ w = w' := by
  obtain ⟨c2, r2⟩ := h.r2
  exact used_call r2
/-- A chunk that lies below B, in a slice that has just been made for it. -/
theorem Two.feed2 (h : Two B w p1 a1 f1 u1 p2 a2 f2 u2 aJ cJ J) (d : Chk) (t : TypeId) (hok : OkC w d) (hd : 0 < d.bs.length → ∀ x, d.a = some x → x.block < B) (hsm : f2.length + d.bs.length ≤ 1000000) (f2' : List Int) (hf : f2 ++ d.bs = f2') :
    Calls Try.prog 11 #[.pointer (some ⟨p2, 0, none⟩), .slice (some ⟨w.heap.size, 0, none⟩) 1 1] (w.alloc (.cells #[.slice d.a d.len d.cap] t)) fun x w' => x = .returned (.bool true) ∧ Step2 B w p1 a1 f1 u1 p2 f2' u2 aJ cJ J w' := by
  have hb : Below w.heap.size w (w.alloc (.cells #[.slice d.a d.len d.cap] t)) := (Below.refl _ w).alloc (Nat.le_refl _) _
  have h' := h.below hb
  obtain ⟨c2, r2⟩ := h'.r2
  have hnew : ¬ Rp p2 a2 w.heap.size := fun e => by
    obtain ⟨c2', r2'⟩ := h.r2
    have := r2'.fpLt e
    omega
  have := feed_yes r2 (some ⟨w.heap.size, 0, none⟩) 1 1 [d] rfl (CSrc.one (heap_alloc_new w _)) (by simpa using hok.below hb) (by omega) (fun _ x e => by injection e with e; subst e; exact hnew)
    (by simpa using fun h0 x e e2 => by have h3 := hd h0 x e; have h4 := h.b2 _ e2; omega) (by rw [joinC_one]; exact hsm)
  rw [joinC_one, hf] at this
  refine this.mono fun x w' ⟨h1, h2⟩ => ⟨h1, ?_⟩
  obtain ⟨a2', h3, h4⟩ := h'.step2 h2
  exact ⟨a2', h3, (hb.mono h.sz).trans h4⟩
/-- The same bits in a longer string. -/
theorem mid_prefix (f r : List Int) (u wd : Nat) (h : u + wd ≤ 8 * f.length) : ((bitsB (f ++ r)).drop u).take wd = ((bitsB f).drop u).take wd := by
  rw [bitsB_append, List.drop_append_of_le_length (by rw [bitsB_length]; omega), List.take_append_of_le_length (by rw [List.length_drop, bitsB_length]; omega)]
theorem joinC_pre (C : List Chk) (k : Nat) : joinC C = joinC (C.take k) ++ joinC (C.drop k) := by
  unfold joinC
  rw [← List.flatMap_append, List.take_append_drop]
theorem joinC_byts {w : World} {C : List Chk} (h : ∀ d ∈ C, OkC w d) : Byts (joinC C) := fun x hx => by
  simp only [joinC, List.mem_flatMap] at hx
  obtain ⟨d, hd, hx⟩ := hx
  exact (h d hd).byts x hx
end
end Go.Proofs.Ytjbbbojbjholfaa
