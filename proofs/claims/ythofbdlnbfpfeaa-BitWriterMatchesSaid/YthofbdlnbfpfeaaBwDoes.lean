/- Operations of a writer, one after the other: winepresslaw02.does. -/
import Derived.Test.YthofbdlnbfpfeaaBwWakes
import Derived.Test.YthofbdlnbfpfeaaBwOf
set_option linter.unusedVariables false
set_option linter.unusedSimpArgs false
namespace Go.Proofs.Ythofbdlnbfpfeaa
open Go.RowKit

theorem wlenN {w : World} {p : Nat} {A : Option Nat} {c : Nat} {bs : List Int} (h : Wr w p A c bs) (n : Nat) (hn : bs.length = n) :
    Calls Try.prog 12 #[.pointer (some ⟨p, 0, none⟩)] w fun e w' => e = .returned (.int .i64 n) ∧ w = w' := by
  subst hn
  exact wlen_call h

/-- An operation: a number, a width, whether it is Pad. -/
structure Deed where
  v : Int
  wd : Int
  pad : Bool
def fitsD (d : Deed) : Bool := decide (0 ≤ d.wd ∧ d.wd ≤ 32 ∧ d.v < ((2 ^ d.wd.toNat : Nat) : Int))
/-- How many bits a byte lacks. -/
def lackN (n : Nat) : Nat := 8 * ((n + 7) / 8) - n
/-- The bits that an operation appends. -/
def extD (n : Nat) (d : Deed) : List Int := if d.pad then List.replicate (lackN n) 0 else if fitsD d then bitsV d.v d.wd.toNat else []
def stepD (bs : List Int) (d : Deed) : List Int := bs ++ extD bs.length d
def okDeed (d : Deed) : Prop := 0 ≤ d.v ∧ d.v ≤ 4294967295 ∧ -9223372036854775808 ≤ d.wd ∧ d.wd ≤ 9223372036854775807
theorem lackN_le (n : Nat) : lackN n ≤ 7 := by unfold lackN; omega
theorem extD_len (n : Nat) (d : Deed) : (extD n d).length ≤ 32 := by
  unfold extD
  split
  · rw [List.length_replicate]; have := lackN_le n; omega
  · split
    · rename_i h
      rw [bitsV_length]
      have := of_decide_eq_true h
      omega
    · simp

/-- The writer p has now the bits bs; nothing else of what there was has changed. -/
def DidW (w : World) (p : Nat) (A : Option Nat) (bs : List Int) (w' : World) : Prop := ∃ A' c', Wr w' p A' c' bs ∧ Ch (Fp p A) w w' ∧ (∀ g, A' = some g → A = some g ∨ w.heap.size ≤ g)

set_option maxHeartbeats 1000000 in
theorem does_call {w : World} {p : Nat} {A : Option Nat} {c : Nat} {bs : List Int} (h : Wr w p A c bs) (d : Deed) (hd : okDeed d) (hs : bs.length + 32 ≤ 1000000) :
    Calls Try.prog 9 #[.pointer (some ⟨p, 0, none⟩), .agg #[.int .u32 d.v, .int .i64 d.wd, .bool d.pad]] w fun e w' =>
      e = .returned (.tuple #[.int .i64 ((if d.pad then lackN bs.length else 0 : Nat) : Int), .bool (d.pad || fitsD d)]) ∧ DidW w p A (stepD bs d) w' := by
  obtain ⟨v, wd, pad⟩ := d
  obtain ⟨hv0, hv1, hw0, hw1⟩ := hd
  dsimp only at hv0 hv1 hw0 hw1 ⊢
  cases pad with
  | true =>
    have hz := (h.alloc (.cells #[.int .u32 v, .int .i64 wd, .bool true] 35))
    have hsz : (stepD bs ⟨v, wd, true⟩) = bs ++ List.replicate (8 * ((bs.length + 7) / 8) - bs.length) 0 := rfl
    rw [hsz]
    have HH := Lib.hid h
    clear hsz h
    go_enter Try.func9, Try.ntmps9
    go_wp2_with (go_at_call 21; go_must (refine (wpad_call hz).mono ?_; rintro e w1 ⟨rfl, hw1, hC⟩))
    go_ret2
    exact ⟨rfl, A, c, hw1, (((Ch.refl _ w).alloc _).trans hC (fun _ _ e => e)), fun g e => .inl e⟩
  | false =>
    have hz := (h.alloc (.cells #[.int .u32 v, .int .i64 wd, .bool false] 35))
    by_cases hf : fitsD ⟨v, wd, false⟩ = true
    · have hf' := of_decide_eq_true hf
      dsimp only at hf'
      have hsz : (stepD bs ⟨v, wd, false⟩) = bs ++ bitsV v wd.toNat := by simp [stepD, extD, hf]
      rw [hsz, hf]
      obtain ⟨n, rfl⟩ := Int.eq_ofNat_of_zero_le hf'.1
      have hn : n ≤ 32 := by omega
      have hfn : v < ((2 ^ n : Nat) : Int) := by simpa using hf'.2.2
      rw [Int.toNat_natCast]
      have HH := Lib.hid h
      clear hsz h hf hf'
      go_enter Try.func9, Try.ntmps9
      go_wp2_with (go_at_call 20; go_must (refine (put_yes hz v hv0 hv1 n hn hfn (by omega)).mono ?_; rintro e w1 ⟨rfl, A1, c1, hw1, hC, hA1⟩))
      go_ret2
      exact ⟨rfl, A1, c1, hw1, (((Ch.refl _ w).alloc _).trans hC (fun _ _ e => e)), fun g e => (hA1 g e).imp id (fun h => by simp at h; omega)⟩
    · have hf' : fitsD ⟨v, wd, false⟩ = false := by simpa using hf
      have hf2 := of_decide_eq_false hf'
      dsimp only at hf2
      have hsz : (stepD bs ⟨v, wd, false⟩) = bs := by simp [stepD, extD, hf']
      rw [hsz, hf']
      have HH := Lib.hid h
      clear hsz h hf hf'
      go_enter Try.func9, Try.ntmps9
      go_wp2_with (go_at_call 20; go_must (refine (put_no _ p v wd hv0 hv1 hf2).mono ?_; rintro e w1 ⟨rfl, hb⟩))
      go_ret2
      exact ⟨rfl, A, c, hz.below hb, (((Ch.refl _ w).alloc _).thenBelow hb), fun g e => .inl e⟩

/-- Operations in memory. -/
def DSrc (w : World) (sp : Option Addr) (D : List Deed) : Prop := D = [] ∨ ∃ g o, sp = some ⟨g, o, none⟩ ∧ ∀ j d, D[j]? = some d → w.cell? ⟨g, o + j * 3, none⟩ = some (.int .u32 d.v) ∧ w.cell? ⟨g, o + j * 3 + 1, none⟩ = some (.int .i64 d.wd) ∧ w.cell? ⟨g, o + j * 3 + 2, none⟩ = some (.bool d.pad)
theorem DSrc.below {w w' : World} {sp : Option Addr} {D : List Deed} (h : DSrc w sp D) (hb : Below w.heap.size w w') : DSrc w' sp D := by
  rcases h with h | ⟨g, o, hx, hc⟩
  · exact .inl h
  · refine .inr ⟨g, o, hx, fun j d hj => ?_⟩
    obtain ⟨h1, h2, h3⟩ := hc j d hj
    exact ⟨(hb.cell (World.block_lt_of_cell? w _ h1)).trans h1, (hb.cell (World.block_lt_of_cell? w _ h2)).trans h2, (hb.cell (World.block_lt_of_cell? w _ h3)).trans h3⟩
/-- The bits that operations lead to. -/
def runD (D : List Deed) : List Int := D.foldl stepD []
theorem runD_snoc (D : List Deed) (k : Nat) (d : Deed) (h : D[k]? = some d) : runD (D.take (k + 1)) = stepD (runD (D.take k)) d := by
  have hk := (List.getElem?_eq_some_iff.1 h)
  obtain ⟨hk, e⟩ := hk
  rw [List.take_succ_eq_append_getElem hk, e]
  simp [runD]
theorem runD_len (D : List Deed) (k : Nat) (h : k ≤ D.length) : (runD (D.take k)).length ≤ 32 * k := by
  induction k with
  | zero => simp [runD]
  | succ k ih =>
    have hk : k < D.length := h
    rw [runD_snoc D k _ (List.getElem?_eq_getElem hk)]
    unfold stepD
    have := ih (by omega)
    have := extD_len (runD (D.take k)).length D[k]
    rw [List.length_append]
    omega
/-- Where operations begin. -/
def fromsD (D : List Deed) (k : Nat) : List Int := (List.range k).map (fun j => ((runD (D.take j)).length : Int))
theorem fromsD_succ (D : List Deed) (k : Nat) : fromsD D (k + 1) = fromsD D k ++ [((runD (D.take k)).length : Int)] := by simp [fromsD, List.range_succ]
theorem fromsD_length (D : List Deed) (k : Nat) : (fromsD D k).length = k := by simp [fromsD]
theorem fromsD_getD (D : List Deed) (k j : Nat) (h : j < k) : (fromsD D k).getD j 0 = ((runD (D.take j)).length : Int) := by simp [fromsD, h]
theorem wr_own_ne {w : World} {p : Nat} {A : Option Nat} {c : Nat} {bs : List Int} (h : Wr w p A c bs) {k : IntKind} {Af : Option Nat} {cf : Nat} {l : List Int} (ho : OwnS w k 3 Af cf l) {g : Nat} (hg : Af = some g) : ¬ Fp p A g := by
  subst hg
  obtain ⟨cur, h1, _⟩ := ho.row
  rintro (rfl | h2)
  · rw [h.hp] at h1
    injection h1 with h1
    injection h1 with _ h1
    revert h1
    decide
  · subst h2
    obtain ⟨cur2, h3, _⟩ := h.row.row
    rw [h3] at h1
    injection h1 with h1
    injection h1 with _ h1
    revert h1
    decide
end Go.Proofs.Ythofbdlnbfpfeaa
