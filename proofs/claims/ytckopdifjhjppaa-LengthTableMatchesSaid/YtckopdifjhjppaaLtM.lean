/- Tables of lengths as bits: mathematics. States, steps, runs, encodings, their cost. Imports nothing of the seat. -/
set_option linter.unusedVariables false
set_option linter.unusedSimpArgs false
namespace Go.Proofs.Ytckopdifjhjppaa

/-- A state: the lengths, the next symbol, the bits, the current length, the way. -/
structure TS where
  L : List Int
  y : Int
  t : Int
  n : Int
  a : Int
theorem TS.ext' {c d : TS} (h1 : c.L = d.L) (h2 : c.y = d.y) (h3 : c.t = d.t) (h4 : c.n = d.n) (h5 : c.a = d.a) : c = d := by
  cases c; cases d; simp_all
theorem TS.eq_iff (c d : TS) : c = d ↔ c.L = d.L ∧ c.y = d.y ∧ c.t = d.t ∧ c.n = d.n ∧ c.a = d.a :=
  ⟨fun h => by subst h; exact ⟨rfl, rfl, rfl, rfl, rfl⟩, fun h => TS.ext' h.1 h.2.1 h.2.2.1 h.2.2.2.1 h.2.2.2.2⟩
instance (c d : TS) : Decidable (c = d) := decidable_of_iff _ (TS.eq_iff c d).symm
/-- The zero state. -/
def z0 : TS := ⟨List.replicate 258 0, 0, 0, 0, 0⟩

section
variable (T : List Int → Bool)
/-- The state after a bit, and that it is no error. -/
def wayS (c : TS) (b : Int) : TS :=
  if c.t = 4 then (if b = 1 then { c with t := 5 } else { c with L := c.L.set c.y.toNat c.n, y := c.y + 1, a := 0 })
  else if 0 ≤ c.t ∧ c.t ≤ 3 then { c with n := 2 * c.n + b, t := c.t + 1 }
  else if b = 0 then (if c.a = 2 ∨ c.n = 15 then { c with t := 4 } else { c with t := 4, n := c.n + 1, a := 1 })
  else (if c.a = 1 ∨ c.n = 0 then { c with t := 4 } else { c with t := 4, n := c.n - 1, a := 2 })
def wayB (c : TS) (b : Int) : Bool :=
  if c.t = 4 then (if b = 1 then true else decide (c.y + 1 < 258) || T (c.L.set c.y.toNat c.n))
  else if 0 ≤ c.t ∧ c.t ≤ 3 then true
  else if b = 0 then !decide (c.a = 2 ∨ c.n = 15)
  else !decide (c.a = 1 ∨ c.n = 0)
/-- All these bits, none behind the end. -/
def runS (c : TS) : List Int → Option TS
  | [] => some c
  | b :: bs => if c.y = 258 then none else if wayB T c b then runS (wayS c b) bs else none
theorem runS_append (c : TS) : ∀ xs ys : List Int, runS T c (xs ++ ys) = (runS T c xs).bind fun d => runS T d ys := by
  intro xs
  induction xs generalizing c with
  | nil => intro ys; rfl
  | cons b xs ih =>
    intro ys
    show runS T c (b :: (xs ++ ys)) = _
    simp only [runS]
    split
    · rfl
    · split
      · exact ih _ ys
      · rfl
/-- Reading. -/
def readS (c : TS) (k : Nat) : List Int → List Int × Nat × Int
  | [] => (z0.L, 0, 50)
  | b :: bs => if b ≠ 0 ∧ b ≠ 1 then (z0.L, 0, 2) else if wayB T c b = false then (z0.L, 0, 100) else if (wayS c b).y = 258 then ((wayS c b).L, k + 1, 0) else readS (wayS c b) (k + 1) bs

/-- The length at symbol s. -/
def gl (L : List Int) (s : Nat) : Int := L.getD s 0
/-- The current length before symbol s. -/
def pv (f : Int) (L : List Int) : Nat → Int
  | 0 => f
  | s + 1 => gl L s
theorem pv_pos (f g : Int) (L : List Int) {s : Nat} (h : 0 < s) : pv f L s = pv g L s := by
  cases s with
  | zero => omega
  | succ s => rfl
/-- A state that bits lead to, k of them, from the first length f. -/
structure Rch (f : Int) (k : Nat) (c : TS) : Prop where
  len : c.L.length = 258
  y0 : 0 ≤ c.y ∧ c.y ≤ 258
  n0 : 0 ≤ c.n ∧ c.n ≤ 15
  t0 : 0 ≤ c.t ∧ c.t ≤ 5
  low : c.t ≤ 3 → c.y = 0 ∧ c.a = 0 ∧ c.n < 2 ^ c.t.toNat ∧ (k : Int) = c.t
  old : ∀ s : Nat, (s : Int) < c.y → 0 ≤ gl c.L s ∧ gl c.L s ≤ 15
  new : ∀ s : Nat, c.y ≤ (s : Int) → gl c.L s = 0
  f0 : 4 ≤ c.t → 0 ≤ f ∧ f ≤ 15
  way : 4 ≤ c.t → (c.a = 0 ∧ c.n = pv f c.L c.y.toNat ∨ c.a = 1 ∧ pv f c.L c.y.toNat < c.n ∨ c.a = 2 ∧ c.n < pv f c.L c.y.toNat)
  fin : c.y = 258 → c.t = 4 ∧ c.a = 0 ∧ T c.L = true
end
/-- What the symbols before s have cost. -/
def cst (f : Int) (L : List Int) : Nat → Nat
  | 0 => 0
  | s + 1 => cst f L s + 1 + 2 * (gl L s - pv f L s).natAbs
/-- How many bits have led to a state. -/
def Cnt (f : Int) (k : Nat) (c : TS) : Prop := 4 ≤ c.t → (k : Int) = 4 + cst f c.L c.y.toNat + 2 * (c.n - pv f c.L c.y.toNat).natAbs + (c.t - 4)
theorem gl_set (L : List Int) (i s : Nat) (z : Int) : gl (L.set i z) s = if i = s ∧ i < L.length then z else gl L s := by
  unfold gl
  rw [List.getD_eq_getElem?_getD, List.getElem?_set]
  by_cases h : i = s
  · subst h
    rw [if_pos rfl]
    by_cases h2 : i < L.length
    · rw [if_pos h2, if_pos ⟨rfl, h2⟩]; rfl
    · rw [if_neg h2, if_neg (fun e => h2 e.2), List.getD_eq_getElem?_getD, List.getElem?_eq_none (by omega)]
  · rw [if_neg h, if_neg (fun e => h e.1), List.getD_eq_getElem?_getD]
theorem pv_set (f : Int) (L : List Int) (i s : Nat) (z : Int) (h : s ≤ i) : pv f (L.set i z) s = pv f L s := by
  cases s with
  | zero => rfl
  | succ s => show gl _ s = gl _ s; rw [gl_set, if_neg (by omega)]
theorem cst_set (f : Int) (L : List Int) (i : Nat) (z : Int) : ∀ s, s ≤ i → cst f (L.set i z) s = cst f L s
  | 0, _ => rfl
  | s + 1, h => by rw [cst, cst, cst_set f L i z s (by omega), gl_set, if_neg (by omega), pv_set f L i s z (by omega)]
theorem z0_gl (s : Nat) : gl z0.L s = 0 := by
  unfold gl z0
  simp only [List.getD_eq_getElem?_getD, List.getElem?_replicate]
  split <;> rfl
section
variable {T : List Int → Bool}
theorem Rch.zero (f : Int) : Rch T f 0 z0 where
  len := by show (List.replicate 258 (0 : Int)).length = 258; rw [List.length_replicate]
  y0 := ⟨Int.le_refl _, by show (0 : Int) ≤ 258; decide⟩
  n0 := ⟨Int.le_refl _, by show (0 : Int) ≤ 15; decide⟩
  t0 := ⟨Int.le_refl _, by show (0 : Int) ≤ 5; decide⟩
  low := fun _ => ⟨rfl, rfl, by show (0 : Int) < 2 ^ 0; decide, rfl⟩
  old := fun s h => by
    have h2 : (s : Int) < 0 := h
    omega
  new := fun s _ => z0_gl s
  f0 := fun h => absurd h (by show ¬ (4 : Int) ≤ 0; decide)
  way := fun h => absurd h (by show ¬ (4 : Int) ≤ 0; decide)
  fin := fun h => absurd h (by show ¬ (0 : Int) = 258; decide)
/-- The first length that a step shows. -/
def nf (f : Int) (c : TS) (b : Int) : Int := if c.t = 3 then 2 * c.n + b else f
theorem Rch.step {f : Int} {k : Nat} {c : TS} (h : Rch T f k c) (hc : Cnt f k c) (hy : c.y < 258) {b : Int} (hb : b = 0 ∨ b = 1) (hw : wayB T c b = true) : Rch T (nf f c b) (k + 1) (wayS c b) ∧ Cnt (nf f c b) (k + 1) (wayS c b) := by
  obtain ⟨L, y, t, n, a⟩ := c
  have hl := h.len
  have hy0 := h.y0
  have hn0 := h.n0
  have ht0 := h.t0
  have hlow := h.low
  have hold := h.old
  have hnew := h.new
  have hf0 := h.f0
  have hway := h.way
  simp only at hl hy0 hn0 ht0 hlow hold hnew hf0 hway hy
  unfold Cnt at hc ⊢
  simp only at hc
  unfold wayB at hw
  unfold wayS nf
  simp only at hw ⊢
  by_cases h4 : t = 4
  · subst h4
    simp only [if_pos trivial] at hw ⊢
    rw [if_neg (by decide)]
    by_cases hb1 : b = 1
    · rw [if_pos hb1]
      refine ⟨⟨hl, hy0, hn0, by simp only; omega, fun e => ?_, hold, hnew, fun _ => hf0 (by omega), fun _ => hway (by omega), fun e => ?_⟩, fun _ => ?_⟩
      · simp only at e; omega
      · simp only at e; omega
      · have := hc (by omega)
        simp only
        omega
    · rw [if_neg hb1] at hw ⊢
      have hi : (y.toNat : Int) = y := by omega
      have hyl : y.toNat < L.length := by omega
      have hg : gl (L.set y.toNat n) y.toNat = n := by rw [gl_set, if_pos ⟨rfl, hyl⟩]
      have hyt : (y + 1).toNat = y.toNat + 1 := by omega
      have hpv : pv f (L.set y.toNat n) (y + 1).toNat = n := by
        rw [hyt]
        exact hg
      refine ⟨⟨?_, ?_, hn0, ?_, fun e => ?_, fun s hs => ?_, fun s hs => ?_, fun _ => hf0 (by omega), fun _ => .inl ⟨rfl, ?_⟩, fun e => ⟨rfl, rfl, ?_⟩⟩, fun _ => ?_⟩
      · simp only; rw [List.length_set]; exact hl
      · simp only; omega
      · simp only; omega
      · simp only at e; omega
      · simp only at hs ⊢
        rw [gl_set]
        split
        · exact hn0
        · exact hold s (by omega)
      · simp only at hs ⊢
        rw [gl_set, if_neg (by omega)]
        exact hnew s (by omega)
      · simp only; exact hpv.symm
      · simp only at e ⊢
        have h1 : decide (y + 1 < 258) = false := decide_eq_false (by omega)
        rw [h1, Bool.false_or] at hw
        exact hw
      · have h1 := hc (by omega)
        simp only
        rw [hpv, hyt, cst, cst_set f L y.toNat n y.toNat (Nat.le_refl _), hg, pv_set f L y.toNat y.toNat n (Nat.le_refl _)]
        omega
  · simp only [if_neg h4] at hw ⊢
    by_cases h3 : 0 ≤ t ∧ t ≤ 3
    · rw [if_pos h3]
      obtain ⟨l1, l2, l3, l4⟩ := hlow h3.2
      subst l1 l2
      have hpow : ∀ u : Int, 0 ≤ u → (2 : Int) ^ (u + 1).toNat = 2 * 2 ^ u.toNat := fun u hu => by
        rw [show (u + 1).toNat = u.toNat + 1 by omega, Int.pow_succ]
        omega
      have hp := hpow t h3.1
      have hn16 : 2 * n + b ≤ 15 := by
        have : (2 : Int) ^ t.toNat ≤ 2 ^ 3 := by
          have h5 : t = 0 ∨ t = 1 ∨ t = 2 ∨ t = 3 := by omega
          rcases h5 with rfl | rfl | rfl | rfl <;> decide
        omega
      refine ⟨⟨hl, by simp only; omega, by simp only; omega, by simp only; omega, fun e => ?_, fun s hs => ?_, hnew, fun e => ?_, fun e => .inl ⟨rfl, ?_⟩, fun e => ?_⟩, fun e => ?_⟩
      · simp only at e ⊢
        refine ⟨trivial, trivial, ?_, by omega⟩
        rw [hp]
        omega
      · simp only at hs
        omega
      · simp only at e
        rw [if_pos (by omega)]
        omega
      · simp only at e ⊢
        rw [if_pos (by omega)]
        rfl
      · simp only at e
        omega
      · simp only at e ⊢
        rw [if_pos (show t = 3 by omega)]
        show ((k + 1 : Nat) : Int) = 4 + ((cst _ L 0 : Nat) : Int) + 2 * ((2 * n + b - (2 * n + b)).natAbs : Nat) + (t + 1 - 4)
        have e0 : cst (2 * n + b) L 0 = 0 := rfl
        rw [e0, Int.sub_self]
        simp only [Int.natAbs_zero]
        omega
    · rw [if_neg h3] at hw ⊢
      rw [if_neg (by omega)]
      have h5 : t = 5 := by omega
      subst h5
      have hc1 := hc (by omega)
      have hw1 := hway (by omega)
      by_cases hb0 : b = 0
      · rw [if_pos hb0] at hw ⊢
        have hno : ¬ (a = 2 ∨ n = 15) := by simpa using hw
        rw [if_neg hno]
        refine ⟨⟨hl, hy0, by simp only; omega, by simp only; omega, fun e => ?_, hold, hnew, fun _ => hf0 (by omega), fun _ => .inr (.inl ⟨rfl, ?_⟩), fun e => ?_⟩, fun _ => ?_⟩
        · simp only at e; omega
        · simp only; omega
        · simp only at e; omega
        · simp only
          omega
      · rw [if_neg hb0] at hw ⊢
        have hno : ¬ (a = 1 ∨ n = 0) := by simpa using hw
        rw [if_neg hno]
        refine ⟨⟨hl, hy0, by simp only; omega, by simp only; omega, fun e => ?_, hold, hnew, fun _ => hf0 (by omega), fun _ => .inr (.inr ⟨rfl, ?_⟩), fun e => ?_⟩, fun _ => ?_⟩
        · simp only at e; omega
        · simp only; omega
        · simp only at e; omega
        · simp only
          omega
end
end Go.Proofs.Ytckopdifjhjppaa
