/- Package bitreader: the contracts for a reader whose blocks are not below B. -/
import Derived.Test.YtjbbbojbjholfaaFd
set_option linter.unusedVariables false
set_option linter.unusedSimpArgs false
namespace Go.Proofs.Ytjbbbojbjholfaa
open Go.RowKit

structure RdB (B : Nat) (w : World) (p : Nat) (a : Option Addr) (c : Nat) (f : List Int) (u : Nat) (e : Bool) : Prop where
  rd : Rd w p a c f u e
  fp : ∀ k, Rp p a k → B ≤ k
  sz : B ≤ w.heap.size
/-- The reader has now been fed f, u bits are used; nothing below B has changed. -/
def NowB (B : Nat) (w : World) (p : Nat) (f : List Int) (u : Nat) (e : Bool) (w' : World) : Prop := ∃ a c, RdB B w' p a c f u e ∧ Below B w w'
section
variable {B : Nat} {w w' : World} {p : Nat} {a : Option Addr} {c : Nat} {f : List Int} {u : Nat} {e : Bool}
theorem RdB.below (h : RdB B w p a c f u e) (hb : Below w.heap.size w w') : RdB B w' p a c f u e := ⟨h.rd.below hb, h.fp, Nat.le_trans h.sz hb.size⟩
theorem RdB.drew (h : RdB B w p a c f u e) : RdB B w.drew p a c f u e := ⟨h.rd.drew, h.fp, h.sz⟩
theorem RdB.alloc (h : RdB B w p a c f u e) (o : Obj) : RdB B (w.alloc o) p a c f u e := h.below ((Below.refl _ _).alloc (Nat.le_refl _) _)
theorem RdB.lt (h : RdB B w p a c f u e) {k : Nat} (hk : k < B) : ¬ Rp p a k := fun e => by have := h.fp k e; omega
theorem RdB.new (h : RdB B w p a c f u e) {k : Nat} (hk : w.heap.size ≤ k) : ¬ Rp p a k := fun e => by have := h.rd.fpLt e; omega
theorem NowR.nowB {f' : List Int} {u' : Nat} {e' : Bool} (h : NowR w p a f' u' e' w') (hb : RdB B w p a c f u e) : NowB B w p f' u' e' w' := by
  obtain ⟨a', c', h1, h2, h3⟩ := h
  refine ⟨a', c', ⟨h1, fun k hk => ?_, Nat.le_trans hb.sz h2.size⟩, h2.below hb.sz hb.fp⟩
  rcases hk with rfl | hk
  · exact hb.fp _ (.inl rfl)
  · rcases h3 k hk with h4 | h4
    · exact hb.fp _ (.inr h4)
    · exact Nat.le_trans hb.sz h4
theorem newB (B : Nat) (w : World) (hB : B ≤ w.heap.size) :
    Calls Try.prog 10 #[] w fun x w' => x = .returned (.pointer (some ⟨w.heap.size, 0, none⟩)) ∧ RdB B w' w.heap.size none 0 [] 0 false ∧ Below w.heap.size w w' :=
  (new_call w).mono fun x w' ⟨h1, h2, h3⟩ => ⟨h1, ⟨h2, fun k hk => by (rcases hk with rfl | hk); (exact hB); (cases hk), Nat.le_trans hB h3.size⟩, h3⟩
theorem peekB (h : RdB B w p a c f u e) (wd : Nat) (hw : wd ≤ 32) (hu : u + wd ≤ 8 * f.length) (V : Int) (hV : valV (((bitsB f).drop u).take wd) = V) :
    Calls Try.prog 13 #[.pointer (some ⟨p, 0, none⟩), .int .i64 wd] w fun x w' => x = .returned (.tuple #[.int .u32 V, .bool true]) ∧ RdB B w' p a c f u e ∧ Below w.heap.size w w' :=
  (peek_yes h.rd wd hw hu).mono fun x w' ⟨h1, h2⟩ => ⟨by rw [← hV]; exact h1, h.below h2, h2⟩
theorem takeB (h : RdB B w p a c f u e) (wd : Nat) (hw : wd ≤ 32) (hu : u + wd ≤ 8 * f.length) (V : Int) (hV : valV (((bitsB f).drop u).take wd) = V) (u' : Nat) (hu' : u + wd = u') :
    Calls Try.prog 15 #[.pointer (some ⟨p, 0, none⟩), .int .i64 wd] w fun x w' => x = .returned (.tuple #[.int .u32 V, .bool true]) ∧ NowB B w p f u' e w' :=
  (take_yes h.rd wd hw hu).mono fun x w' ⟨h1, h2⟩ => ⟨by rw [← hV]; exact h1, by rw [← hu']; exact h2.now.nowB h⟩
theorem take_noB (h : RdB B w p a c f u e) (wd : Int) (hw : ¬ (0 ≤ wd ∧ wd ≤ 32 ∧ (u : Int) + wd ≤ 8 * (f.length : Int))) :
    Calls Try.prog 15 #[.pointer (some ⟨p, 0, none⟩), .int .i64 wd] w fun x w' => x = .returned (.tuple #[.int .u32 0, .bool false]) ∧ RdB B w' p a c f u e ∧ Below w.heap.size w w' :=
  (take_no h.rd wd hw).mono fun x w' ⟨h1, h2⟩ => ⟨h1, h.below h2, h2⟩
theorem leftB (h : RdB B w p a c f u e) (n : Nat) (hn : u + n = 8 * f.length) :
    Calls Try.prog 20 #[.pointer (some ⟨p, 0, none⟩)] w fun x w' => x = .returned (.int .i64 n) ∧ RdB B w' p a c f u e ∧ Below w.heap.size w w' :=
  (left_call h.rd n hn).mono fun x w' ⟨h1, h2⟩ => ⟨h1, h.below h2, h2⟩
theorem alignB (h : RdB B w p a c f u e) (n : Nat) (hn : (8 - u % 8) % 8 = n) (V : Int) (hV : valV (((bitsB f).drop u).take n) = V) (u' : Nat) (hu' : u + n = u') :
    Calls Try.prog 17 #[.pointer (some ⟨p, 0, none⟩)] w fun x w' => x = .returned (.tuple #[.int .u32 V, .int .i64 n]) ∧ NowB B w p f u' e w' := by
  by_cases h8 : u % 8 = 0
  · obtain rfl : n = 0 := by omega
    refine (align_at h.rd h8).mono fun x w' ⟨h1, h2⟩ => ?_
    subst h2
    have hu2 : u = u' := by omega
    subst hu2
    have hV2 : V = 0 := by rw [← hV]; rfl
    subst hV2
    exact ⟨h1, a, c, h, Below.refl _ _⟩
  · refine (align_in h.rd n (by omega) h8).mono fun x w' ⟨h1, h2⟩ => ?_
    exact ⟨by rw [← hV]; exact h1, by rw [← hu']; exact h2.now.nowB h⟩
theorem endB (h : RdB B w p a c f u e) :
    Calls Try.prog 19 #[.pointer (some ⟨p, 0, none⟩)] w fun x w' => x = .returned (.bool (!e)) ∧ RdB B w' p a c f u true ∧ Below B w w' :=
  (end_call h.rd).mono fun x w' ⟨h1, h2, h3⟩ => ⟨h1, ⟨h2, h.fp, Nat.le_trans h.sz h3.size⟩, h3.below h.sz h.fp⟩
theorem feedB (h : RdB B w p a c f u false) (sp : Option Addr) (n cc : Nat) (C : List Chk) (hl : C.length = n) (hs : CSrc w sp C) (hok : ∀ d ∈ C, OkC w d) (h63 : n ≤ 9223372036854775807)
    (hsp : 0 < n → ∀ x, sp = some x → ¬ Rp p a x.block) (hsd : ∀ d ∈ C, 0 < d.bs.length → ∀ x, d.a = some x → ¬ Rp p a x.block) (hsm : f.length + (joinC C).length ≤ 1000000) (f' : List Int) (hf : f ++ joinC C = f') :
    Calls Try.prog 11 #[.pointer (some ⟨p, 0, none⟩), .slice sp n cc] w fun x w' => x = .returned (.bool true) ∧ NowB B w p f' u false w' :=
  (feed_yes h.rd sp n cc C hl hs hok h63 hsp hsd hsm).mono fun x w' ⟨h1, h2⟩ => ⟨h1, by rw [← hf]; exact h2.nowB h⟩
/-- One chunk, in a slice that was made for it. -/
theorem CSrc.one {g : Nat} {d : Chk} {t : TypeId} (h : w.heap[g]? = some (.cells #[.slice d.a d.len d.cap] t (0, 0))) : CSrc w (some ⟨g, 0, none⟩) [d] :=
  .inr ⟨g, 0, rfl, fun j d' hj => by
    have hj0 : j = 0 := by
      have := (List.getElem?_eq_some_iff.1 hj).1
      simp at this
      exact this
    subst hj0
    simp at hj
    subst hj
    simp [World.cell?, h]⟩
theorem feedOne (h : RdB B w p a c f u false) (g : Nat) (d : Chk) (t : TypeId) (hg : w.heap[g]? = some (.cells #[.slice d.a d.len d.cap] t (0, 0))) (hok : OkC w d)
    (hsp : ¬ Rp p a g) (hsd : 0 < d.bs.length → ∀ x, d.a = some x → ¬ Rp p a x.block) (hsm : f.length + d.bs.length ≤ 1000000) :
    Calls Try.prog 11 #[.pointer (some ⟨p, 0, none⟩), .slice (some ⟨g, 0, none⟩) 1 1] w fun x w' => x = .returned (.bool true) ∧ NowB B w p (f ++ d.bs) u false w' :=
  feedB h _ 1 1 [d] rfl (CSrc.one hg) (by simpa using hok) (by omega) (fun _ x e => by injection e with e; subst e; exact hsp) (by simpa using hsd) (by rw [joinC_one]; exact hsm) _ (by rw [joinC_one])
end
end Go.Proofs.Ytjbbbojbjholfaa
