/- Move to front: mathematics. Imports nothing of the seat. -/
set_option linter.unusedVariables false
set_option linter.unusedSimpArgs false
namespace Go.Proofs.Ytaemmeofchonaaa

/-- The element at index p, moved to the front. -/
def tkV (l : List Int) (p : Nat) : List Int := l.getD p 0 :: (l.take p ++ l.drop (p + 1))
theorem tkV_len {l : List Int} {p : Nat} (h : p < l.length) : (tkV l p).length = l.length := by
  unfold tkV
  rw [List.length_cons, List.length_append, List.length_take, List.length_drop]
  omega
theorem tkV_zero {l : List Int} (h : 0 < l.length) : tkV l 0 = l := by
  cases l with
  | nil => simp at h
  | cons a l => rfl
theorem tkV_front (l : List Int) (p : Nat) : (tkV l p).getD 0 0 = l.getD p 0 := rfl
theorem tkV_low (l : List Int) {p i : Nat} (h : p < l.length) (hi : i < p) : (tkV l p).getD (i + 1) 0 = l.getD i 0 := by
  unfold tkV
  simp only [List.getD_eq_getElem?_getD, List.getElem?_cons_succ]
  rw [List.getElem?_append_left (by rw [List.length_take]; omega), List.getElem?_take, if_pos hi]
theorem tkV_high (l : List Int) {p i : Nat} (h : p < l.length) (hi : p < i) : (tkV l p).getD i 0 = l.getD i 0 := by
  obtain ⟨j, rfl⟩ : ∃ j, i = j + 1 := ⟨i - 1, by omega⟩
  unfold tkV
  simp only [List.getD_eq_getElem?_getD, List.getElem?_cons_succ]
  rw [List.getElem?_append_right (by rw [List.length_take]; omega), List.length_take, List.getElem?_drop, show p + 1 + (j - min p l.length) = j + 1 by omega]
theorem tkV_perm {l : List Int} {p : Nat} (h : p < l.length) : (tkV l p).Perm l := by
  have e : l = l.take p ++ l.getD p 0 :: l.drop (p + 1) := by
    rw [List.getD_eq_getElem?_getD, List.getElem?_eq_getElem h, Option.getD_some, ← List.drop_eq_getElem_cons h, List.take_append_drop]
  unfold tkV
  conv => rhs; rw [e]
  exact List.perm_middle.symm
/-- The first index at which c stands among the first n, from the front. -/
def posV : List Int → Int → Option Nat
  | [], _ => none
  | a :: l, c => if a = c then some 0 else (posV l c).map (· + 1)
theorem posV_is : ∀ (l : List Int) (c : Int) (p : Nat), posV l c = some p → p < l.length ∧ l.getD p 0 = c ∧ ∀ j, j < p → l.getD j 0 ≠ c
  | [], c, p, h => by cases h
  | a :: l, c, p, h => by
    unfold posV at h
    split at h
    · rename_i ha
      injection h with h
      subst h
      exact ⟨by simp, by simpa using ha, fun j hj => by omega⟩
    · rename_i ha
      cases e : posV l c with
      | none => rw [e] at h; cases h
      | some q =>
        rw [e] at h
        injection h with h
        have h' : q + 1 = p := h
        subst h'
        obtain ⟨h1, h2, h3⟩ := posV_is l c q e
        refine ⟨by rw [List.length_cons]; omega, by simpa using h2, fun j hj => ?_⟩
        cases j with
        | zero => simpa using ha
        | succ j =>
          have := h3 j (by omega)
          simpa using this
theorem posV_none : ∀ (l : List Int) (c : Int), posV l c = none ↔ c ∉ l
  | [], c => by simp [posV]
  | a :: l, c => by
    unfold posV
    have ih := posV_none l c
    by_cases ha : a = c
    · rw [if_pos ha]
      simp [ha]
    · rw [if_neg ha, Option.map_eq_none_iff, ih, List.mem_cons]
      constructor
      · rintro h (e | e)
        · exact ha e.symm
        · exact h e
      · exact fun h e => h (Or.inr e)
theorem posV_first {l : List Int} {c : Int} {p : Nat} (h : p < l.length) (h1 : l.getD p 0 = c) (h2 : ∀ j, j < p → l.getD j 0 ≠ c) : posV l c = some p := by
  cases e : posV l c with
  | none =>
    rw [posV_none] at e
    exfalso
    apply e
    rw [← h1, List.getD_eq_getElem?_getD, List.getElem?_eq_getElem h]
    exact List.getElem_mem h
  | some q =>
    obtain ⟨q1, q2, q3⟩ := posV_is l c q e
    congr 1
    by_cases hlt : q < p
    · exact absurd q2 (h2 q hlt)
    · by_cases hgt : p < q
      · exact absurd h1 (q3 p hgt)
      · omega
theorem posV_at {l : List Int} (hn : l.Nodup) {p : Nat} (h : p < l.length) : posV l (l.getD p 0) = some p := by
  refine posV_first h rfl fun j hj e => ?_
  have hj' : j < l.length := by omega
  rw [List.getD_eq_getElem?_getD, List.getD_eq_getElem?_getD, List.getElem?_eq_getElem h, List.getElem?_eq_getElem hj'] at e
  have := (List.getElem_inj hn).1 (show l[j] = l[p] from e)
  omega
theorem posV_zero {l : List Int} (h : 0 < l.length) (c : Int) : posV l c = some 0 ↔ l.getD 0 0 = c := by
  constructor
  · exact fun e => (posV_is l c 0 e).2.1
  · exact fun e => posV_first h e fun j hj => by omega
/-- What Put gives. -/
def ptV (l : List Int) (c : Int) : List Int × Int := match posV l c with
  | some p => (tkV l p, (p : Int))
  | none => (l, -1)
theorem ptV_some {l : List Int} {c : Int} {p : Nat} (h : posV l c = some p) : ptV l c = (tkV l p, (p : Int)) := by unfold ptV; rw [h]
theorem ptV_none {l : List Int} {c : Int} (h : posV l c = none) : ptV l c = (l, -1) := by unfold ptV; rw [h]
/-- The bytes 0 to 255. -/
def idL : List Int := (List.range 256).map fun i : Nat => (i : Int)
theorem idL_len : idL.length = 256 := by simp [idL]
theorem idL_get (i : Nat) (h : i < 256) : idL.getD i 0 = (i : Int) := by simp [idL, List.getD_eq_getElem?_getD, List.getElem?_map, List.getElem?_range h]
theorem idL_mem (c : Int) : c ∈ idL ↔ 0 ≤ c ∧ c ≤ 255 := by
  unfold idL
  rw [List.mem_map]
  constructor
  · rintro ⟨i, hi, rfl⟩
    have := List.mem_range.1 hi
    omega
  · rintro ⟨h1, h2⟩
    exact ⟨c.toNat, List.mem_range.2 (by omega), by omega⟩
theorem idL_nodup : idL.Nodup := by
  unfold idL
  exact List.Pairwise.map _ (fun a b h e => h (by omega)) List.nodup_range
/-- A valid list: the bytes in some order. -/
def Vld (l : List Int) : Prop := l.Perm idL
theorem Vld.id : Vld idL := List.Perm.refl _
theorem Vld.len {l : List Int} (h : Vld l) : l.length = 256 := by rw [h.length_eq, idL_len]
theorem Vld.nodup {l : List Int} (h : Vld l) : l.Nodup := h.nodup_iff.2 idL_nodup
theorem Vld.mem {l : List Int} (h : Vld l) (c : Int) : c ∈ l ↔ 0 ≤ c ∧ c ≤ 255 := by rw [h.mem_iff, idL_mem]
theorem Vld.take {l : List Int} (h : Vld l) {p : Nat} (hp : p < 256) : Vld (tkV l p) := (tkV_perm (by rw [h.len]; exact hp)).trans h
theorem Vld.pos {l : List Int} (h : Vld l) {c : Int} (hc : 0 ≤ c ∧ c ≤ 255) : ∃ p, p < 256 ∧ posV l c = some p ∧ l.getD p 0 = c := by
  cases e : posV l c with
  | none => exact absurd ((h.mem c).2 hc) ((posV_none l c).1 e)
  | some p =>
    obtain ⟨h1, h2, _⟩ := posV_is l c p e
    exact ⟨p, by rw [h.len] at h1; exact h1, rfl, h2⟩
theorem Vld.front {l : List Int} (h : Vld l) {c : Int} (hc : 0 ≤ c ∧ c ≤ 255) : (ptV l c).1.getD 0 0 = c ∧ Vld (ptV l c).1 := by
  obtain ⟨p, h1, h2, h3⟩ := h.pos hc
  rw [ptV_some h2]
  exact ⟨h3, h.take h1⟩
/-- Lists of 256 bytes without repetition are valid. -/
theorem box_le : ∀ (n : Nat) (l : List Int), l.Nodup → (∀ c ∈ l, 0 ≤ c ∧ c < (n : Int)) → l.length ≤ n ∧ (l.length = n → ∀ c : Int, 0 ≤ c → c < (n : Int) → c ∈ l)
  | 0, l, _, h => by
    cases l with
    | nil => exact ⟨Nat.le_refl _, fun _ c h1 h2 => by omega⟩
    | cons a l => have := h a (by simp); omega
  | n + 1, l, hn, h => by
    by_cases hm : (n : Int) ∈ l
    · have hl := List.length_erase_of_mem hm
      have hp : 0 < l.length := List.length_pos_of_mem hm
      obtain ⟨h1, h2⟩ := box_le n (l.erase (n : Int)) (hn.erase _) (fun c hc => by
        obtain ⟨e1, e2⟩ := hn.mem_erase_iff.1 hc
        have := h c e2
        omega)
      refine ⟨by omega, fun e c c1 c2 => ?_⟩
      by_cases hc : c = (n : Int)
      · rw [hc]; exact hm
      · exact (hn.mem_erase_iff.1 (h2 (by omega) c c1 (by omega))).2
    · obtain ⟨h1, h2⟩ := box_le n l hn (fun c hc => by
        have h3 := h c hc
        have h4 : c ≠ (n : Int) := fun e => hm (e ▸ hc)
        omega)
      exact ⟨by omega, fun e => by omega⟩
theorem Vld.of {l : List Int} (h1 : l.length = 256) (h2 : l.Nodup) (h3 : ∀ c ∈ l, 0 ≤ c ∧ c ≤ 255) : Vld l := by
  have hb := (box_le 256 l h2 (fun c hc => by have := h3 c hc; omega)).2 h1
  refine List.perm_iff_count.2 fun c => ?_
  by_cases hc : 0 ≤ c ∧ c ≤ 255
  · rw [h2.count, idL_nodup.count, if_pos (hb c hc.1 (by omega)), if_pos ((idL_mem c).2 hc)]
  · rw [List.count_eq_zero_of_not_mem (fun e => hc (h3 c e)), List.count_eq_zero_of_not_mem (fun e => hc ((idL_mem c).1 e))]
/-- Forth and Back from a list on. -/
def fwV (l : List Int) : List Int → List Int
  | [] => []
  | c :: b => (ptV l c).2 :: fwV (ptV l c).1 b
def bkV (l : List Int) : List Int → List Int
  | [] => []
  | p :: q => l.getD p.toNat 0 :: bkV (tkV l p.toNat) q
theorem fwV_len (l : List Int) : ∀ b, (fwV l b).length = b.length := by
  intro b
  induction b generalizing l with
  | nil => rfl
  | cons c b ih => simp [fwV, ih]
theorem bkV_len (l : List Int) : ∀ b, (bkV l b).length = b.length := by
  intro b
  induction b generalizing l with
  | nil => rfl
  | cons c b ih => simp [bkV, ih]
theorem fwV_byte {l : List Int} (h : Vld l) : ∀ b, (∀ c ∈ b, 0 ≤ c ∧ c ≤ 255) → ∀ p ∈ fwV l b, 0 ≤ p ∧ p ≤ 255 := by
  intro b
  induction b generalizing l with
  | nil => intro _ p hp; cases hp
  | cons c b ih =>
    intro hb p hp
    obtain ⟨q, h1, h2, h3⟩ := h.pos (hb c (by simp))
    unfold fwV at hp
    rw [List.mem_cons] at hp
    rcases hp with rfl | hp
    · rw [ptV_some h2]
      show 0 ≤ (q : Int) ∧ (q : Int) ≤ 255
      omega
    · exact ih (h.front (hb c (by simp))).2 (fun x hx => hb x (by simp [hx])) p hp
theorem bkV_byte {l : List Int} (h : Vld l) : ∀ q, (∀ c ∈ q, 0 ≤ c ∧ c ≤ 255) → ∀ p ∈ bkV l q, 0 ≤ p ∧ p ≤ 255 := by
  intro q
  induction q generalizing l with
  | nil => intro _ p hp; cases hp
  | cons c q ih =>
    intro hq p hp
    have hc := hq c (by simp)
    have hl := h.len
    unfold bkV at hp
    rw [List.mem_cons] at hp
    rcases hp with rfl | hp
    · rw [← h.mem, List.getD_eq_getElem?_getD, List.getElem?_eq_getElem (by omega)]
      exact List.getElem_mem _
    · exact ih (h.take (by omega)) (fun x hx => hq x (by simp [hx])) p hp
/-- Back inverts Forth. -/
theorem bk_fw {l : List Int} (h : Vld l) : ∀ b, (∀ c ∈ b, 0 ≤ c ∧ c ≤ 255) → bkV l (fwV l b) = b := by
  intro b
  induction b generalizing l with
  | nil => intro _; rfl
  | cons c b ih =>
    intro hb
    obtain ⟨q, h1, h2, h3⟩ := h.pos (hb c (by simp))
    unfold fwV
    rw [ptV_some h2]
    unfold bkV
    simp only [Int.toNat_natCast]
    rw [h3, ih (h.take h1) (fun x hx => hb x (by simp [hx]))]
/-- Forth inverts Back. -/
theorem fw_bk {l : List Int} (h : Vld l) : ∀ q, (∀ c ∈ q, 0 ≤ c ∧ c ≤ 255) → fwV l (bkV l q) = q := by
  intro q
  induction q generalizing l with
  | nil => intro _; rfl
  | cons c q ih =>
    intro hq
    have hc := hq c (by simp)
    have hp : posV l (l.getD c.toNat 0) = some c.toNat := posV_at h.nodup (by rw [h.len]; omega)
    unfold bkV fwV
    rw [ptV_some hp]
    simp only
    rw [ih (h.take (by omega)) (fun x hx => hq x (by simp [hx]))]
    congr 1
    omega
/-- The list behind k bytes. -/
def lsV (l : List Int) : List Int → List Int
  | [] => l
  | c :: b => lsV (ptV l c).1 b
theorem lsV_vld {l : List Int} (h : Vld l) : ∀ b, (∀ c ∈ b, 0 ≤ c ∧ c ≤ 255) → Vld (lsV l b) := by
  intro b
  induction b generalizing l with
  | nil => intro _; exact h
  | cons c b ih => intro hb; exact ih (h.front (hb c (by simp))).2 (fun x hx => hb x (by simp [hx]))
theorem lsV_snoc (l : List Int) (c : Int) : ∀ b, lsV l (b ++ [c]) = (ptV (lsV l b) c).1 := by
  intro b
  induction b generalizing l with
  | nil => rfl
  | cons d b ih => exact ih _
theorem fwV_snoc (l : List Int) (c : Int) : ∀ b, fwV l (b ++ [c]) = fwV l b ++ [(ptV (lsV l b) c).2] := by
  intro b
  induction b generalizing l with
  | nil => rfl
  | cons d b ih =>
    show _ :: fwV _ (b ++ [c]) = (_ :: fwV _ b) ++ _
    rw [ih]
    rfl
/-- Of two moved bytes the later comes first, then the earlier. -/
theorem two_front {l : List Int} (h : Vld l) {a b : Int} (ha : 0 ≤ a ∧ a ≤ 255) (hb : 0 ≤ b ∧ b ≤ 255) (hne : a ≠ b) : (ptV (ptV l a).1 b).1.getD 1 0 = a := by
  obtain ⟨h1, h2⟩ := h.front ha
  obtain ⟨p, h3, h4, h5⟩ := h2.pos hb
  rw [ptV_some h4]
  have hp : 0 < p := by
    cases p with
    | zero => rw [h1] at h5; exact absurd h5 hne
    | succ p => omega
  have := tkV_low (ptV l a).1 (p := p) (i := 0) (by rw [h2.len]; exact h3) hp
  exact this.trans h1
theorem put_again {l : List Int} (h : Vld l) {a : Int} (ha : 0 ≤ a ∧ a ≤ 255) : ptV (ptV l a).1 a = ((ptV l a).1, 0) := by
  obtain ⟨h1, h2⟩ := h.front ha
  have hl : 0 < (ptV l a).1.length := by rw [h2.len]; decide
  rw [ptV_some ((posV_zero hl a).2 h1), tkV_zero hl]
  rfl
end Go.Proofs.Ytaemmeofchonaaa
