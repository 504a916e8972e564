/- The reference of layer 2: Number, Put, Pad, Bytes, Of, Get. -/
import Derived.Test.YthofbdlnbfpfeaaProg
import Derived.Test.YthofbdlnbfpfeaaCh
import Derived.Test.YthofbdlnbfpfeaaBits
import Derived.Test.YthofbdlnbfpfeaaBwDoes
import Derived.Deep.DeepMust
set_option linter.unusedVariables false
set_option linter.unusedSimpArgs false
namespace Go.Proofs.Ythofbdlnbfpfeaa
open Go.RowKit

theorem OwnS.one (w : World) (k : IntKind) (E : TypeId) (x : Int) : OwnS (w.alloc (.cells #[.int k x] E)) k E (some w.heap.size) 1 [x] :=
  ⟨by simp, .inr ⟨w.heap.size, 1, #[.int k x], by simp [ad0], Nat.zero_le _, heap_alloc_new w _, by simp, by unfold maxLen; omega, by simp, by simp⟩⟩

theorem number_bad (v wd : Int) (w : World) (h : ¬ (0 ≤ wd ∧ wd ≤ 32)) :
    Calls Try.prog 22 #[.int .u32 v, .int .i64 wd] w fun e w' => e = .returned (.tuple #[.slice none 0 0, .bool false]) ∧ w = w' := by
  by_cases h0 : wd < 0
  · have d0 : decide (wd < 0) = true := by simpa using h0
    clear h
    go_enter Try.func22, Try.ntmps22
    go_wp2
    go_ret2
    exact ⟨rfl, rfl⟩
  · have d0 : decide (wd < 0) = false := by simpa using h0
    have d1 : decide (32 < wd) = true := by simp; omega
    clear h
    go_enter Try.func22, Try.ntmps22
    go_wp2
    go_ret2
    exact ⟨rfl, rfl⟩

/-- A new slice of ints that holds l. -/
def NewI (w : World) (n : Nat) (l : List Int) (v : Value) (w' : World) : Prop := ∃ A c, v = .slice (ad0 A) n c ∧ OwnS w' .i64 3 A c l ∧ (∀ g, A = some g → w.heap.size ≤ g) ∧ Below w.heap.size w w'
def NumD (w : World) (n : Nat) (l : List Int) (ok : Bool) (e : Ending) (w' : World) : Prop := ∃ u, e = .returned (.tuple #[u, .bool ok]) ∧ NewI w n l u w'

set_option maxHeartbeats 1000000 in
theorem number_ok (v : Int) (wd : Nat) (w : World) (hv : 0 ≤ v) (hv' : v ≤ 4294967295) (hw : wd ≤ 32) :
    Calls Try.prog 22 #[.int .u32 v, .int .i64 wd] w (NumD w wd (bitsV v wd) (decide (v / ((2 ^ wd : Nat) : Int) = 0))) := by
  have d0 : decide ((wd : Int) < 0) = false := by simp
  have d1 : decide (32 < (wd : Int)) = false := by simp; omega
  go_enter Try.func22, Try.ntmps22
  go_wp2_with fail
  go_loopw [6, 7, 8] (fun o x i wr => ∃ (k : Nat) (A : Option Nat) (c : Nat), k ≤ wd ∧ i = .int .i64 k ∧ o = .slice (ad0 A) k c ∧ x = .int .u64 (v / ((2 ^ k : Nat) : Int)) ∧ OwnS wr .i64 3 A c (bitsV v k) ∧ (∀ g, A = some g → w.heap.size ≤ g) ∧ Below w.heap.size w wr) (fun _ _ i _ => wd - (intOf i).toNat)
  case atStart => exact ⟨0, none, 0, Nat.zero_le _, rfl, rfl, by simp, OwnS.nil _ _ _, by simp, Below.refl _ _⟩
  case round =>
    obtain ⟨k, A, c, hk, rfl, rfl, rfl, ho, ha, hb⟩ := hrel
    have HO := Lib.hid ho
    have HA := Lib.hid ha
    have HB := Lib.hid hb
    clear ho ha hb
    have hp : 0 < ((2 ^ k : Nat) : Int) := by have := Nat.two_pow_pos k; omega
    have hx0 : 0 ≤ v / ((2 ^ k : Nat) : Int) := Int.ediv_nonneg hv (by omega)
    have hx1 : v / ((2 ^ k : Nat) : Int) ≤ v := Int.ediv_le_self _ hv
    by_cases hlt : k < wd
    · have hcons := bitsV_cons v k
      have hdiv : v / ((2 ^ (k + 1) : Nat) : Int) = v / ((2 ^ k : Nat) : Int) / 2 := by
        rw [Nat.pow_succ, Int.natCast_mul, ← Int.ediv_ediv_of_nonneg (by omega)]; rfl
      obtain ⟨x, hx⟩ : ∃ x, x = v / ((2 ^ k : Nat) : Int) := ⟨_, rfl⟩
      rw [← hx] at hcons hdiv hx0 hx1 ⊢
      have HC := Lib.hid hcons
      have HDV := Lib.hid hdiv
      have hbl := bitsV_length v k
      have HBL := Lib.hid hbl
      clear hcons hdiv hx hp hbl
      go_wp2_with (at_builtin; go_must (
        refine wpList_appendI rfl _ _ 28 rfl 3 .i64 8 Try.underlying28 intI (some wr.heap.size) 1 [x % 2] 1 rfl rfl (OwnS.one wr .i64 3 (x % 2)) (ad0 A) k c rfl (bitsV v k) HBL.out (HO.out.alloc _).src (by unfold maxLen; omega) (by omega) ?_
        intro A2 c2 w3 hown hgr halt
        have HO3 := Lib.hid hown
        have HG3 := Lib.hid hgr
        have HA3 := Lib.hid halt
        clear hown hgr halt))
      go_roundw
      case rel =>
        refine ⟨k + 1, A2, c2, by omega, by go_num, by rw [Nat.add_comm], by rw [HDV.out], by rw [HC.out]; exact HO3.out, fun g e => ?_, (HB.out.alloc HB.out.size _).grown HG3.out (by have := HB.out.size; simp; omega) (fun g e => by injection e with e; have := HB.out.size; omega)⟩
        have := HB.out.size
        rcases HA3.out with h1 | h1 <;> rw [h1] at e <;> injection e with e <;> first | omega | (simp at e; omega)
      case measure => simp [intOf]; omega
    · obtain rfl : k = wd := by omega
      go_wp2
      go_ret2
      refine ⟨_, congrArg (fun b => Ending.returned (.tuple #[_, .bool b])) ?_, A, c, rfl, HO.out, HA.out, HB.out⟩
      rw [Bool.eq_iff_iff]
      simp

/-- A reference writer in memory. -/
structure Rr (w : World) (r : Nat) (A : Option Nat) (c : Nat) (bs : List Int) : Prop where
  hp : w.heap[r]? = some (.cells #[.slice (ad0 A) bs.length c] 30 (0, 0))
  row : OwnS w .i64 3 A c bs
  small : bs.length ≤ 1000000
section
variable {w w' : World} {r : Nat} {A : Option Nat} {c : Nat} {bs : List Int}
theorem Rr.ne (h : Rr w r A c bs) {g : Nat} (hg : A = some g) : g ≠ r := by
  subst hg
  rintro rfl
  obtain ⟨cur, h1, _⟩ := h.row.row
  have h2 := h.hp
  rw [h1] at h2
  injection h2 with h2
  injection h2 with _ h2
  revert h2
  decide
theorem Rr.lt (h : Rr w r A c bs) : r < w.heap.size := (Array.getElem?_eq_some_iff.1 h.hp).1
theorem Rr.fpLt (h : Rr w r A c bs) {k : Nat} (hk : Fp r A k) : k < w.heap.size := by
  rcases hk with rfl | hk
  · exact h.lt
  · exact h.row.lt hk
theorem Rr.c0 (h : Rr w r A c bs) : w.cell? ⟨r, 0, none⟩ = some (.slice (ad0 A) bs.length c) := by simp [World.cell?, h.hp]
theorem Rr.f (h : Rr w r A c bs) (i : Nat) : w.frozen? ⟨r, i, none⟩ = false := by simp [World.frozen?, h.hp]
theorem Rr.ch {S : Nat → Prop} (h : Rr w r A c bs) (hc : Ch S w w') (hn : ∀ k, Fp r A k → ¬ S k) : Rr w' r A c bs :=
  ⟨hc.heap h.hp (hn r (.inl rfl)), h.row.ch hc (fun g hg => hn g (.inr hg)), h.small⟩
theorem Rr.below (h : Rr w r A c bs) (hb : Below w.heap.size w w') : Rr w' r A c bs := h.ch (Ch.of_below (S := fun _ => False) hb) (fun _ _ e => e)
theorem Rr.alloc (h : Rr w r A c bs) (o : Obj) : Rr (w.alloc o) r A c bs := h.below ((Below.refl _ _).alloc (Nat.le_refl _) _)
end
theorem set0of1 {w : World} {p : Nat} {a u : Value} {t : TypeId} (h : w.heap[p]? = some (.cells #[a] t (0, 0))) : (w.setCell ⟨p, 0, none⟩ u).heap[p]? = some (.cells #[u] t (0, 0)) := by
  simp [World.setCell, Array.getElem?_modify, h]
/-- The reference writer r has now the bits bs; nothing else of what there was has changed. -/
def DidR (w : World) (r : Nat) (A : Option Nat) (bs : List Int) (w' : World) : Prop := ∃ A' c', Rr w' r A' c' bs ∧ Ch (Fp r A) w w' ∧ (∀ g, A' = some g → A = some g ∨ w.heap.size ≤ g)
/-- Behind an append and the store of its result. -/
theorem Rr.appended {w w1 w2 : World} {r : Nat} {A A2 : Option Nat} {c c2 n : Nat} {bs l : List Int} (h : Rr w1 r A c bs) (hb : Ch (Fp r A) w w1) (hlt : ∀ k, Fp r A k → k < w.heap.size) (hown : OwnS w2 .i64 3 A2 c2 (bs ++ l)) (hgr : w1.grownBy w2 A) (halt : A2 = A ∨ A2 = some w1.heap.size) (hn : n = bs.length + l.length) (hs : n ≤ 1000000) :
    Rr (w2.setCell ⟨r, 0, none⟩ (.slice (ad0 A2) n c2)) r A2 c2 (bs ++ l) ∧ Ch (Fp r A) w (w2.setCell ⟨r, 0, none⟩ (.slice (ad0 A2) n c2)) ∧ (∀ g, A2 = some g → A = some g ∨ w.heap.size ≤ g) := by
  have hr2 : w2.heap[r]? = some (.cells #[.slice (ad0 A) bs.length c] 30 (0, 0)) := by
    rw [hgr.block r h.lt (fun e => h.ne e.symm rfl)]
    exact h.hp
  have hA2 : ∀ g, A2 = some g → A = some g ∨ w.heap.size ≤ g := fun g e => by
    rcases halt with h1 | h1
    · exact .inl (by rw [← h1]; exact e)
    · rw [h1] at e
      injection e with e
      have := hb.size
      exact .inr (by omega)
  have hne : ∀ g, A2 = some g → g ≠ r := fun g e => by
    subst e
    obtain ⟨cur, h1, _⟩ := hown.row
    rintro rfl
    rw [hr2] at h1
    injection h1 with h1
    injection h1 with _ h1
    revert h1
    decide
  have hl : (bs ++ l).length = n := by rw [List.length_append, hn]
  refine ⟨⟨by rw [hl]; exact set0of1 hr2, hown.ch ((Ch.refl (fun k => k = r) _).setCell _ _ (.inl rfl)) (fun g e => hne g e), by rw [hl]; exact hs⟩, ?_, hA2⟩
  exact (hb.grown hgr (fun g e => .inl (.inr e))).setCell _ _ (.inl (.inl rfl))

set_option maxHeartbeats 1000000 in
theorem rput_call {w : World} {r : Nat} {A : Option Nat} {c : Nat} {bs : List Int} (h : Rr w r A c bs) (d : Deed) (hd : okDeed d) (hp : d.pad = false) (hs : bs.length + 32 ≤ 1000000) :
    Calls Try.prog 11 #[.pointer (some ⟨r, 0, none⟩), .int .u32 d.v, .int .i64 d.wd] w fun e w' => e = .returned (.bool (fitsD d)) ∧ DidR w r A (stepD bs d) w' := by
  obtain ⟨v, wd, pad⟩ := d
  obtain ⟨hv0, hv1, hw0, hw1⟩ := hd
  dsimp only at hv0 hv1 hw0 hw1 hp ⊢
  subst hp
  by_cases hr : 0 ≤ wd ∧ wd ≤ 32
  · obtain ⟨n, rfl⟩ := Int.eq_ofNat_of_zero_le hr.1
    have hn : n ≤ 32 := by omega
    have hpw : 0 < ((2 ^ n : Nat) : Int) := by have := Nat.two_pow_pos n; omega
    have hfd : fitsD ⟨v, n, false⟩ = decide (v / ((2 ^ n : Nat) : Int) = 0) := by
      unfold fitsD
      rw [Bool.eq_iff_iff]
      simp only [decide_eq_true_eq, Int.toNat_natCast]
      constructor
      · intro h1
        exact Int.ediv_eq_zero_of_lt hv0 h1.2.2
      · intro h1
        refine ⟨by omega, by omega, ?_⟩
        have := Int.lt_ediv_add_one_mul_self v hpw
        rw [h1] at this
        omega
    have HH := Lib.hid h
    have hlt0 : ∀ k, Fp r A k → k < w.heap.size := fun k hk => h.fpLt hk
    have HLT := Lib.hid hlt0
    clear h hlt0
    by_cases hz : v / ((2 ^ n : Nat) : Int) = 0
    · have hf1 : fitsD ⟨v, n, false⟩ = true := by rw [hfd]; simpa using hz
      have hst : stepD bs ⟨v, n, false⟩ = bs ++ bitsV v n := by simp [stepD, extD, hf1]
      rw [hf1, hst]
      have hz2 : decide (v / ((2 ^ n : Nat) : Int) = 0) = true := by simpa using hz
      have hnum := number_ok v n w hv0 hv1 hn
      rw [hz2] at hnum
      have HN := Lib.hid hnum
      clear hfd hf1 hst hz hz2 hnum hpw
      go_enter Try.func11, Try.ntmps11
      go_wp2_with fail
      refine HN.out.mono ?_
      rintro e w1 ⟨u, rfl, A1, c1, rfl, ho1, ha1, hb1⟩
      have hr1 := HH.out.below hb1
      have hc0 := hr1.c0
      have hfz := hr1.f 0
      have HR1 := Lib.hid hr1
      have HO1 := Lib.hid ho1
      have HB1 := Lib.hid hb1
      have hbl := bitsV_length v n
      have HBL := Lib.hid hbl
      clear hr1 ho1 ha1 hb1 hbl
      go_wp2_with (at_builtin; go_must (
        refine wpList_appendI rfl _ _ 28 rfl 3 .i64 8 Try.underlying28 intI A c bs bs.length rfl rfl HR1.out.row (ad0 A1) n c1 rfl (bitsV v n) HBL.out HO1.out.src (by unfold maxLen; omega) (by omega) ?_
        intro A2 c2 w3 hown hgr halt
        have hcr : w3.cell? ⟨r, 0, none⟩ = some (.slice (ad0 A) bs.length c) := hgr.cell hc0 (fun e => HR1.out.ne e.symm rfl)
        have hfr : w3.frozen? ⟨r, 0, none⟩ = false := by
          have := hgr.block r HR1.out.lt (fun e => HR1.out.ne e.symm rfl)
          rw [World.frozen?_of_block (a := ⟨r, 0, none⟩) this]
          exact hfz
        have HO3 := Lib.hid hown
        have HG3 := Lib.hid hgr
        have HA3 := Lib.hid halt
        clear hown hgr halt))
      go_ret
      exact ⟨rfl, A2, c2, HR1.out.appended (Ch.of_below HB1.out) HLT.out HO3.out HG3.out HA3.out (by rw [HBL.out]) (by omega)⟩
    · have hf1 : fitsD ⟨v, n, false⟩ = false := by rw [hfd]; simpa using hz
      have hst : stepD bs ⟨v, n, false⟩ = bs := by simp [stepD, extD, hf1]
      rw [hf1, hst]
      have hz2 : decide (v / ((2 ^ n : Nat) : Int) = 0) = false := by simpa using hz
      have hnum := number_ok v n w hv0 hv1 hn
      rw [hz2] at hnum
      have HN := Lib.hid hnum
      clear hfd hf1 hst hz hz2 hnum hpw
      go_enter Try.func11, Try.ntmps11
      go_wp2_with fail
      refine HN.out.mono ?_
      rintro e w1 ⟨u, rfl, A1, c1, rfl, ho1, ha1, hb1⟩
      have HB1 := Lib.hid hb1
      clear ho1 ha1 hb1
      go_wp2
      go_ret
      exact ⟨rfl, A, c, HH.out.below HB1.out, Ch.of_below HB1.out, fun g e => .inl e⟩
  · have hf1 : fitsD ⟨v, wd, false⟩ = false := by unfold fitsD; simp only [decide_eq_false_iff_not]; rintro ⟨h1, h2, _⟩; exact hr ⟨h1, h2⟩
    have hst : stepD bs ⟨v, wd, false⟩ = bs := by simp [stepD, extD, hf1]
    rw [hf1, hst]
    have HH := Lib.hid h
    clear hf1 hst h
    go_enter Try.func11, Try.ntmps11
    go_wp2_with fail
    refine (number_bad v wd w hr).mono ?_
    rintro e w1 ⟨rfl, rfl⟩
    go_wp2
    go_ret
    exact ⟨rfl, A, c, HH.out, Ch.refl _ _, fun g e => .inl e⟩
end Go.Proofs.Ythofbdlnbfpfeaa
