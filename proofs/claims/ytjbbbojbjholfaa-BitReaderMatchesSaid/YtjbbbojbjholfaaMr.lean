/- A reader and a reference reader side by side in memory. -/
import Derived.Test.YtjbbbojbjholfaaAsk
set_option linter.unusedVariables false
set_option linter.unusedSimpArgs false
namespace Go.Proofs.Ytjbbbojbjholfaa
open Go.RowKit

/-- The state of a reader. -/
structure St where
  f : List Int
  u : Nat
  e : Bool
structure MR (w : World) (B p r : Nat) (a1 : Option Addr) (s1 : St) (a2 : Option Addr) (s2 : St) (W : World) : Prop where
  rd : ∃ c, Rd W p a1 c s1.f s1.u s1.e
  rf : ∃ c, Rf W r a2 c s2.f s2.u s2.e
  b1 : ∀ k, Rp p a1 k → B ≤ k
  b2 : ∀ k, Rp r a2 k → B ≤ k
  dis : ∀ k, Rp p a1 k → ¬ Rp r a2 k
  bel : Below B w W
  sz : B ≤ W.heap.size
section
variable {w W W' : World} {B p r : Nat} {a1 a2 : Option Addr} {s1 s2 : St}
theorem MR.below (h : MR w B p r a1 s1 a2 s2 W) (hb : Below W.heap.size W W') : MR w B p r a1 s1 a2 s2 W' := by
  obtain ⟨c1, r1⟩ := h.rd
  obtain ⟨c2, r2⟩ := h.rf
  exact ⟨⟨c1, r1.below hb⟩, ⟨c2, r2.below hb⟩, h.b1, h.b2, h.dis, h.bel.trans (hb.mono h.sz), Nat.le_trans h.sz hb.size⟩
theorem MR.drew (h : MR w B p r a1 s1 a2 s2 W) : MR w B p r a1 s1 a2 s2 W.drew := h.below ((Below.refl _ _).drew)
theorem MR.alloc (h : MR w B p r a1 s1 a2 s2 W) (o : Obj) : MR w B p r a1 s1 a2 s2 (W.alloc o) := h.below ((Below.refl _ _).alloc (Nat.le_refl _) _)
theorem MR.new1 (h : MR w B p r a1 s1 a2 s2 W) : ¬ Rp p a1 W.heap.size := fun e => by
  obtain ⟨c1, r1⟩ := h.rd
  have := r1.fpLt e
  omega
theorem MR.new2 (h : MR w B p r a1 s1 a2 s2 W) : ¬ Rp r a2 W.heap.size := fun e => by
  obtain ⟨c2, r2⟩ := h.rf
  have := r2.fpLt e
  omega
/-- The reader has made a step, or the reference has. -/
def M1 (w : World) (B p r : Nat) (s1 : St) (a2 : Option Addr) (s2 : St) (W W' : World) : Prop := ∃ a1, MR w B p r a1 s1 a2 s2 W' ∧ Below B W W'
def M2 (w : World) (B p r : Nat) (a1 : Option Addr) (s1 : St) (a2 : Option Addr) (s2 : St) (W W' : World) : Prop := ∃ a2', MR w B p r a1 s1 a2' s2 W' ∧ Below B W W' ∧ ∀ g o, W.heap[g]? = some o → ¬ Rp r a2 g → W'.heap[g]? = some o
theorem MR.step1 (h : MR w B p r a1 s1 a2 s2 W) {s : St} (hn : NowR W p a1 s.f s.u s.e W') : M1 w B p r s a2 s2 W W' := by
  obtain ⟨a', c', h1, h2, h3⟩ := hn
  obtain ⟨c2, r2⟩ := h.rf
  have hb := h2.below h.sz h.b1
  refine ⟨a', ⟨⟨c', h1⟩, ⟨c2, r2.ch h2 (fun k hk e => h.dis k e hk)⟩, fun k hk => ?_, h.b2, fun k hk e => ?_, h.bel.trans hb, Nat.le_trans h.sz h2.size⟩, hb⟩
  · rcases hk with rfl | hk
    · exact h.b1 _ (.inl rfl)
    · rcases h3 k hk with h4 | h4
      · exact h.b1 _ (.inr h4)
      · exact Nat.le_trans h.sz h4
  · rcases hk with rfl | hk
    · exact h.dis _ (.inl rfl) e
    · rcases h3 k hk with h4 | h4
      · exact h.dis _ (.inr h4) e
      · have := r2.fpLt e
        omega
theorem MR.step2 (h : MR w B p r a1 s1 a2 s2 W) {s : St} (hn : NowF W r a2 s.f s.u s.e W') : M2 w B p r a1 s1 a2 s W W' := by
  obtain ⟨a', c', h1, h2, h3⟩ := hn
  obtain ⟨c1, r1⟩ := h.rd
  have hb := h2.below h.sz h.b2
  refine ⟨a', ⟨⟨c1, r1.ch h2 (fun k hk e => h.dis k hk e)⟩, ⟨c', h1⟩, h.b1, fun k hk => ?_, fun k e hk => ?_, h.bel.trans hb, Nat.le_trans h.sz h2.size⟩, hb, fun g o hg hn => h2.heap hg hn⟩
  · rcases hk with rfl | hk
    · exact h.b2 _ (.inl rfl)
    · rcases h3 k hk with h4 | h4
      · exact h.b2 _ (.inr h4)
      · exact Nat.le_trans h.sz h4
  · rcases hk with rfl | hk
    · exact h.dis _ e (.inl rfl)
    · rcases h3 k hk with h4 | h4
      · exact h.dis _ e (.inr h4)
      · have := r1.fpLt e
        omega
theorem MR.stay1 (h : MR w B p r a1 s1 a2 s2 W) (hb : Below W.heap.size W W') : M1 w B p r s1 a2 s2 W W' := ⟨a1, h.below hb, hb.mono h.sz⟩
theorem MR.stay2 (h : MR w B p r a1 s1 a2 s2 W) (hb : Below W.heap.size W W') : M2 w B p r a1 s1 a2 s2 W W' :=
  ⟨a2, h.below hb, hb.mono h.sz, fun g o hg _ => (hb.block g (Array.getElem?_eq_some_iff.1 hg).1).trans hg⟩

/-- What the operations do. -/
def feedS (s : St) (l : List Int) : St := ⟨if s.e then s.f else s.f ++ l, s.u, s.e⟩
def canS (s : St) (wd : Int) : Bool := decide (0 ≤ wd ∧ wd ≤ 32 ∧ (s.u : Int) + wd ≤ 8 * (s.f.length : Int))
def valS (s : St) (wd : Int) : Int := if canS s wd then valV (((bitsB s.f).drop s.u).take wd.toNat) else 0
def takeS (s : St) (wd : Int) : St := ⟨s.f, if canS s wd then s.u + wd.toNat else s.u, s.e⟩
def lackS (s : St) : Nat := (8 - s.u % 8) % 8
def alignS (s : St) : St := ⟨s.f, s.u + lackS s, s.e⟩
def endS (s : St) : St := ⟨s.f, s.u, true⟩

theorem MR.feed1 (h : MR w B p r a1 s1 a2 s2 W) (g : Nat) (d : Chk) (t : TypeId) (hg : W.heap[g]? = some (.cells #[.slice d.a d.len d.cap] t (0, 0))) (hgn : ¬ Rp p a1 g) (hok : OkC W d) (hd : 0 < d.bs.length → ∀ x, d.a = some x → x.block < B) (hsm : s1.f.length + d.bs.length ≤ 1000000) :
    Calls Try.prog 11 #[.pointer (some ⟨p, 0, none⟩), .slice (some ⟨g, 0, none⟩) 1 1] W fun x W' => x = .returned (.bool (!s1.e)) ∧ M1 w B p r (feedS s1 d.bs) a2 s2 W W' := by
  obtain ⟨c1, r1⟩ := h.rd
  obtain ⟨f1, u1, e1⟩ := s1
  cases e1 with
  | true => exact (feed_no r1 _ 1 1).mono fun x W' ⟨h1, h2⟩ => ⟨h1, by subst h2; exact h.stay1 (Below.refl _ _)⟩
  | false =>
    have := feed_yes r1 (some ⟨g, 0, none⟩) 1 1 [d] rfl (CSrc.one hg) (by simpa using hok) (by omega) (fun _ x e => by injection e with e; subst e; exact hgn)
      (by simpa using fun h0 x e e2 => by have h3 := hd h0 x e; have h4 := h.b1 _ e2; omega) (by rw [joinC_one]; exact hsm)
    rw [joinC_one] at this
    exact this.mono fun x W' ⟨h1, h2⟩ => ⟨h1, h.step1 (s := feedS ⟨f1, u1, false⟩ d.bs) h2⟩
theorem MR.feed2 (h : MR w B p r a1 s1 a2 s2 W) (d : Chk) (hok : OkC W d) (hsm : s2.f.length + d.bs.length ≤ 1000000) :
    Calls Try.prog 12 #[.pointer (some ⟨r, 0, none⟩), .slice d.a d.len d.cap] W fun x W' => x = .returned (.bool (!s2.e)) ∧ M2 w B p r a1 s1 a2 (feedS s2 d.bs) W W' := by
  obtain ⟨c2, r2⟩ := h.rf
  obtain ⟨f2, u2, e2⟩ := s2
  cases e2 with
  | true => exact (rfeed_no r2 _ _ _).mono fun x W' ⟨h1, h2⟩ => ⟨h1, by subst h2; exact h.stay2 (Below.refl _ _)⟩
  | false => exact (rfeed_yes r2 d hok hsm).mono fun x W' ⟨h1, h2⟩ => ⟨h1, h.step2 (s := feedS ⟨f2, u2, false⟩ d.bs) h2⟩
theorem MR.peek1 (h : MR w B p r a1 s1 a2 s2 W) (wd : Int) :
    Calls Try.prog 13 #[.pointer (some ⟨p, 0, none⟩), .int .i64 wd] W fun x W' => x = .returned (.tuple #[.int .u32 (valS s1 wd), .bool (canS s1 wd)]) ∧ MR w B p r a1 s1 a2 s2 W' ∧ Below B W W' := by
  obtain ⟨c1, r1⟩ := h.rd
  unfold valS
  by_cases hc : 0 ≤ wd ∧ wd ≤ 32 ∧ (s1.u : Int) + wd ≤ 8 * (s1.f.length : Int)
  · have e : canS s1 wd = true := decide_eq_true hc
    rw [if_pos e, e]
    obtain ⟨k, rfl⟩ := Int.eq_ofNat_of_zero_le hc.1
    exact (peek_yes r1 k (by omega) (by omega)).mono fun x W' ⟨h1, h2⟩ => ⟨h1, h.below h2, h2.mono h.sz⟩
  · have e : canS s1 wd = false := decide_eq_false hc
    rw [if_neg (by rw [e]; decide), e]
    exact (peek_no r1 wd hc).mono fun x W' ⟨h1, h2⟩ => ⟨h1, h.below h2, h2.mono h.sz⟩
theorem MR.peek2 (h : MR w B p r a1 s1 a2 s2 W) (wd : Int) :
    Calls Try.prog 14 #[.pointer (some ⟨r, 0, none⟩), .int .i64 wd] W fun x W' => x = .returned (.tuple #[.int .u32 (valS s2 wd), .bool (canS s2 wd)]) ∧ MR w B p r a1 s1 a2 s2 W' ∧ Below B W W' := by
  obtain ⟨c1, r1⟩ := h.rf
  unfold valS
  by_cases hc : 0 ≤ wd ∧ wd ≤ 32 ∧ (s2.u : Int) + wd ≤ 8 * (s2.f.length : Int)
  · have e : canS s2 wd = true := decide_eq_true hc
    rw [if_pos e, e]
    obtain ⟨k, rfl⟩ := Int.eq_ofNat_of_zero_le hc.1
    exact (rpeek_yes r1 k (by omega) (by omega)).mono fun x W' ⟨h1, h2⟩ => ⟨h1, h.below h2, h2.mono h.sz⟩
  · have e : canS s2 wd = false := decide_eq_false hc
    rw [if_neg (by rw [e]; decide), e]
    exact (rpeek_no r1 wd hc).mono fun x W' ⟨h1, h2⟩ => ⟨h1, h.below h2, h2.mono h.sz⟩
theorem MR.take1 (h : MR w B p r a1 s1 a2 s2 W) (wd : Int) :
    Calls Try.prog 15 #[.pointer (some ⟨p, 0, none⟩), .int .i64 wd] W fun x W' => x = .returned (.tuple #[.int .u32 (valS s1 wd), .bool (canS s1 wd)]) ∧ M1 w B p r (takeS s1 wd) a2 s2 W W' := by
  obtain ⟨c1, r1⟩ := h.rd
  unfold valS takeS
  by_cases hc : 0 ≤ wd ∧ wd ≤ 32 ∧ (s1.u : Int) + wd ≤ 8 * (s1.f.length : Int)
  · have e : canS s1 wd = true := decide_eq_true hc
    rw [if_pos e, if_pos e, e]
    obtain ⟨k, rfl⟩ := Int.eq_ofNat_of_zero_le hc.1
    exact (take_yes r1 k (by omega) (by omega)).mono fun x W' ⟨h1, h2⟩ => ⟨h1, h.step1 (s := ⟨s1.f, s1.u + (k : Int).toNat, s1.e⟩) h2.now⟩
  · have e : canS s1 wd = false := decide_eq_false hc
    rw [if_neg (by rw [e]; decide), if_neg (by rw [e]; decide), e]
    exact (take_no r1 wd hc).mono fun x W' ⟨h1, h2⟩ => ⟨h1, h.stay1 h2⟩
theorem MR.take2 (h : MR w B p r a1 s1 a2 s2 W) (wd : Int) :
    Calls Try.prog 16 #[.pointer (some ⟨r, 0, none⟩), .int .i64 wd] W fun x W' => x = .returned (.tuple #[.int .u32 (valS s2 wd), .bool (canS s2 wd)]) ∧ M2 w B p r a1 s1 a2 (takeS s2 wd) W W' := by
  obtain ⟨c1, r1⟩ := h.rf
  unfold valS takeS
  by_cases hc : 0 ≤ wd ∧ wd ≤ 32 ∧ (s2.u : Int) + wd ≤ 8 * (s2.f.length : Int)
  · have e : canS s2 wd = true := decide_eq_true hc
    rw [if_pos e, if_pos e, e]
    obtain ⟨k, rfl⟩ := Int.eq_ofNat_of_zero_le hc.1
    exact (rtake_yes r1 k (by omega) (by omega)).mono fun x W' ⟨h1, h2⟩ => ⟨h1, h.step2 (s := ⟨s2.f, s2.u + (k : Int).toNat, s2.e⟩) h2⟩
  · have e : canS s2 wd = false := decide_eq_false hc
    rw [if_neg (by rw [e]; decide), if_neg (by rw [e]; decide), e]
    exact (rtake_no r1 wd hc).mono fun x W' ⟨h1, h2⟩ => ⟨h1, h.stay2 h2⟩
theorem MR.align1 (h : MR w B p r a1 s1 a2 s2 W) :
    Calls Try.prog 17 #[.pointer (some ⟨p, 0, none⟩)] W fun x W' => x = .returned (.tuple #[.int .u32 (valV (((bitsB s1.f).drop s1.u).take (lackS s1))), .int .i64 (lackS s1)]) ∧ M1 w B p r (alignS s1) a2 s2 W W' := by
  obtain ⟨c1, r1⟩ := h.rd
  unfold alignS
  by_cases h8 : s1.u % 8 = 0
  · have e : lackS s1 = 0 := by unfold lackS; omega
    rw [e]
    exact (align_at r1 h8).mono fun x W' ⟨h1, h2⟩ => ⟨h1, by subst h2; exact h.stay1 (Below.refl _ _)⟩
  · exact (align_in r1 (lackS s1) (by unfold lackS; omega) h8).mono fun x W' ⟨h1, h2⟩ => ⟨h1, h.step1 (s := ⟨s1.f, s1.u + lackS s1, s1.e⟩) h2.now⟩
theorem MR.align2 (h : MR w B p r a1 s1 a2 s2 W) :
    Calls Try.prog 18 #[.pointer (some ⟨r, 0, none⟩)] W fun x W' => x = .returned (.tuple #[.int .u32 (valV (((bitsB s2.f).drop s2.u).take (lackS s2))), .int .i64 (lackS s2)]) ∧ M2 w B p r a1 s1 a2 (alignS s2) W W' := by
  obtain ⟨c1, r1⟩ := h.rf
  unfold alignS
  by_cases h8 : s2.u % 8 = 0
  · have e : lackS s2 = 0 := by unfold lackS; omega
    rw [e]
    exact (ralign_at r1 h8).mono fun x W' ⟨h1, h2⟩ => ⟨h1, by subst h2; exact h.stay2 (Below.refl _ _)⟩
  · exact (ralign_in r1 (lackS s2) (by unfold lackS; omega) h8).mono fun x W' ⟨h1, h2⟩ => ⟨h1, h.step2 (s := ⟨s2.f, s2.u + lackS s2, s2.e⟩) h2⟩
theorem MR.end1 (h : MR w B p r a1 s1 a2 s2 W) :
    Calls Try.prog 19 #[.pointer (some ⟨p, 0, none⟩)] W fun x W' => x = .returned (.bool (!s1.e)) ∧ M1 w B p r (endS s1) a2 s2 W W' := by
  obtain ⟨c1, r1⟩ := h.rd
  exact (end_call r1).mono fun x W' ⟨h1, h2, h3⟩ => ⟨h1, h.step1 (s := endS s1) ⟨a1, c1, h2, h3, fun g e => .inl e⟩⟩
theorem MR.ended2 (h : MR w B p r a1 s1 a2 s2 W) : M2 w B p r a1 s1 a2 (endS s2) W (W.setCell ⟨r, 2, none⟩ (.bool true)) := by
  obtain ⟨c2, r2⟩ := h.rf
  exact h.step2 (s := endS s2) r2.ends
theorem MR.left1 (h : MR w B p r a1 s1 a2 s2 W) (n : Nat) (hn : s1.u + n = 8 * s1.f.length) :
    Calls Try.prog 20 #[.pointer (some ⟨p, 0, none⟩)] W fun x W' => x = .returned (.int .i64 n) ∧ Below W.heap.size W W' := by
  obtain ⟨c1, r1⟩ := h.rd
  exact left_call r1 n hn
theorem MR.left2 (h : MR w B p r a1 s1 a2 s2 W) (n : Nat) (hn : s2.u + n = 8 * s2.f.length) :
    Calls Try.prog 21 #[.pointer (some ⟨r, 0, none⟩)] W fun x W' => x = .returned (.int .i64 n) ∧ Below W.heap.size W W' := by
  obtain ⟨c2, r2⟩ := h.rf
  exact rleft_call r2 n hn
theorem MR.used1 (h : MR w B p r a1 s1 a2 s2 W) :
    Calls Try.prog 22 #[.pointer (some ⟨p, 0, none⟩)] W fun x W' => x = .returned (.int .i64 s1.u) ∧ Below W.heap.size W W' := by
  obtain ⟨c1, r1⟩ := h.rd
  exact (used_call r1).mono fun x W' ⟨h1, h2⟩ => ⟨h1, by rw [h2]; exact Below.refl _ _⟩
theorem MR.ended1 (h : MR w B p r a1 s1 a2 s2 W) :
    Calls Try.prog 23 #[.pointer (some ⟨p, 0, none⟩)] W fun x W' => x = .returned (.bool s1.e) ∧ Below W.heap.size W W' := by
  obtain ⟨c1, r1⟩ := h.rd
  exact (ended_call r1).mono fun x W' ⟨h1, h2⟩ => ⟨h1, by rw [h2]; exact Below.refl _ _⟩
theorem MR.cu (h : MR w B p r a1 s1 a2 s2 W) : W.cell? ⟨r, 1, none⟩ = some (.int .i64 s2.u) := by
  obtain ⟨c2, r2⟩ := h.rf
  exact r2.c1
theorem MR.ce (h : MR w B p r a1 s1 a2 s2 W) : W.cell? ⟨r, 2, none⟩ = some (.bool s2.e) := by
  obtain ⟨c2, r2⟩ := h.rf
  exact r2.c2
theorem MR.cf (h : MR w B p r a1 s1 a2 s2 W) (i : Nat) : W.frozen? ⟨r, i, none⟩ = false := by
  obtain ⟨c2, r2⟩ := h.rf
  exact r2.fz i
theorem MR.rlt (h : MR w B p r a1 s1 a2 s2 W) : r < W.heap.size := by
  obtain ⟨c2, r2⟩ := h.rf
  exact r2.plt
theorem MR.le (h : MR w B p r a1 s1 a2 s2 W) : s1.u ≤ 8 * s1.f.length := by
  obtain ⟨c1, r1⟩ := h.rd
  exact r1.le
end
end Go.Proofs.Ytjbbbojbjholfaa
