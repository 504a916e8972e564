/- Move to front: where a byte stands (law MtfPlaces): mathematics. -/
import Derived.Test.YtaemmeofchonaaaMtM
set_option linter.unusedVariables false
set_option linter.unusedSimpArgs false
namespace Go.Proofs.Ytaemmeofchonaaa

/-- The bytes so far, the last one first; the different ones seen since, acc: where c stands. -/
def plc (c : Int) : List Int → List Int → Nat
  | [], acc => c.toNat + (acc.filter fun d => decide (c < d)).length
  | x :: r, acc => if x = c then acc.length else plc c r (if x ∈ acc then acc else x :: acc)
theorem plc_cons (c x : Int) (r acc : List Int) : plc c (x :: r) acc = if x = c then acc.length else plc c r (if x ∈ acc then acc else x :: acc) := rfl
/-- c stands before d. -/
def bef (c d : Int) : List Int → Bool
  | [] => decide (c < d)
  | x :: r => if x = c then true else if x = d then false else bef c d r
theorem plc_perm (c : Int) : ∀ (r a b : List Int), a.Perm b → plc c r a = plc c r b
  | [], a, b, h => by
    unfold plc
    rw [(h.filter _).length_eq]
  | x :: r, a, b, h => by
    unfold plc
    split
    · exact h.length_eq
    · by_cases hx : x ∈ a
      · rw [if_pos hx, if_pos (h.mem_iff.1 hx)]
        exact plc_perm c r a b h
      · rw [if_neg hx, if_neg (fun e => hx (h.mem_iff.2 e))]
        exact plc_perm c r _ _ (h.cons x)
theorem plc_add (c d : Int) (hne : c ≠ d) : ∀ (r acc : List Int), d ∉ acc → plc c r (d :: acc) = plc c r acc + if bef c d r then 1 else 0
  | [], acc, hd => by
    unfold plc bef
    by_cases h : c < d
    · rw [List.filter_cons_of_pos (by simpa using h), if_pos (by simpa using h), List.length_cons]
      omega
    · rw [List.filter_cons_of_neg (by simpa using h), if_neg (by simpa using h)]
      omega
  | x :: r, acc, hd => by
    unfold plc bef
    by_cases h1 : x = c
    · rw [if_pos h1, if_pos h1, if_pos h1, List.length_cons]
      rfl
    · rw [if_neg h1, if_neg h1, if_neg h1]
      by_cases h2 : x = d
      · subst h2
        rw [if_pos (by simp), if_neg hd, if_pos rfl]
        rfl
      · rw [if_neg h2]
        by_cases h3 : x ∈ acc
        · rw [if_pos (by simp [h3]), if_pos h3]
          exact plc_add c d hne r acc hd
        · rw [if_neg (by simp [h2, h3]), if_neg h3, plc_perm c r (x :: d :: acc) (d :: x :: acc) (List.Perm.swap d x acc)]
          exact plc_add c d hne r (x :: acc) (by simp; exact ⟨fun e => h2 e.symm, hd⟩)
/-- Where another element stands, behind a move. -/
theorem pos_take {l : List Int} (hn : l.Nodup) {p q : Nat} (hp : p < l.length) {c : Int} (hq : posV l c = some q) (hne : q ≠ p) : posV (tkV l p) c = some (if q < p then q + 1 else q) := by
  obtain ⟨h1, h2, h3⟩ := posV_is l c q hq
  have hn2 : (tkV l p).Nodup := (tkV_perm hp).nodup_iff.2 hn
  have hl := tkV_len hp
  split
  · rename_i h
    have e := tkV_low l hp h
    rw [h2] at e
    rw [← e]
    exact posV_at hn2 (by omega)
  · rename_i h
    have e := tkV_high l (i := q) hp (by omega)
    rw [h2] at e
    rw [← e]
    exact posV_at hn2 (by omega)
theorem pos_ne {l : List Int} {c d : Int} {p q : Nat} (hc : posV l c = some q) (hd : posV l d = some p) (h : c ≠ d) : q ≠ p := by
  rintro rfl
  exact h ((posV_is l c q hc).2.1.symm.trans (posV_is l d q hd).2.1)
/-- The list behind these bytes, the last one first. -/
def rlV : List Int → List Int
  | [] => idL
  | x :: r => (ptV (rlV r) x).1
theorem rlV_ls : ∀ b : List Int, rlV b = lsV idL b.reverse
  | [] => rfl
  | x :: b => by
    rw [List.reverse_cons, lsV_snoc, ← rlV_ls b]
    rfl
theorem rlV_vld : ∀ r : List Int, (∀ c ∈ r, 0 ≤ c ∧ c ≤ 255) → Vld (rlV r)
  | [], _ => Vld.id
  | x :: r, h => ((rlV_vld r fun c hc => h c (by simp [hc])).front (h x (by simp))).2
theorem rl_ord {c d : Int} (hc : 0 ≤ c ∧ c ≤ 255) (hd : 0 ≤ d ∧ d ≤ 255) (hne : c ≠ d) : ∀ (r : List Int) (_ : ∀ c ∈ r, 0 ≤ c ∧ c ≤ 255) (q p : Nat), posV (rlV r) c = some q → posV (rlV r) d = some p → (q < p ↔ bef c d r = true)
  | [], _, q, p, h1, h2 => by
    have e1 := (posV_is _ _ _ h1)
    have e2 := (posV_is _ _ _ h2)
    have l1 := e1.1
    have l2 := e2.1
    rw [show (rlV []).length = 256 from idL_len] at l1 l2
    have g1 := e1.2.1
    have g2 := e2.2.1
    rw [show rlV [] = idL from rfl, idL_get _ l1] at g1
    rw [show rlV [] = idL from rfl, idL_get _ l2] at g2
    unfold bef
    rw [decide_eq_true_iff]
    omega
  | x :: r, hr, q, p, h1, h2 => by
    have hv := rlV_vld r fun c hc => hr c (by simp [hc])
    have hx := hr x (by simp)
    obtain ⟨t, t1, t2, t3⟩ := hv.pos hx
    have hfr := hv.front hx
    have e : rlV (x :: r) = tkV (rlV r) t := by
      show (ptV (rlV r) x).1 = _
      rw [ptV_some t2]
    have hl : t < (rlV r).length := by rw [hv.len]; exact t1
    have hl0 : 0 < (tkV (rlV r) t).length := by rw [tkV_len hl]; omega
    rw [e] at h1 h2
    have h0 : posV (tkV (rlV r) t) x = some 0 := (posV_zero hl0 x).2 t3
    unfold bef
    by_cases hxc : x = c
    · subst hxc
      rw [if_pos rfl]
      rw [h0] at h1
      injection h1 with h1
      have := pos_ne h0 h2 hne
      constructor
      · exact fun _ => rfl
      · intro _
        omega
    · rw [if_neg hxc]
      by_cases hxd : x = d
      · subst hxd
        rw [if_pos rfl]
        rw [h0] at h2
        injection h2 with h2
        constructor
        · intro h
          omega
        · intro h
          cases h
      · rw [if_neg hxd]
        obtain ⟨q0, q1, q2, _⟩ := hv.pos hc
        obtain ⟨p0, p1, p2, _⟩ := hv.pos hd
        have nq := pos_ne q2 t2 (fun e => hxc e.symm)
        have np := pos_ne p2 t2 (fun e => hxd e.symm)
        rw [pos_take hv.nodup hl q2 nq] at h1
        rw [pos_take hv.nodup hl p2 np] at h2
        injection h1 with h1
        injection h2 with h2
        have ih := rl_ord hc hd hne r (fun c hc => hr c (by simp [hc])) q0 p0 q2 p2
        rw [← ih, ← h1, ← h2]
        split <;> split <;> omega
/-- Where a byte stands behind these bytes. -/
theorem rl_pos : ∀ (r : List Int) (_ : ∀ c ∈ r, 0 ≤ c ∧ c ≤ 255) {c : Int} (_ : 0 ≤ c ∧ c ≤ 255), posV (rlV r) c = some (plc c r [])
  | [], _, c, hc => by
    unfold plc
    have e := idL_get c.toNat (by omega)
    rw [show ((c.toNat : Nat) : Int) = c by omega] at e
    have := posV_at idL_nodup (p := c.toNat) (by rw [idL_len]; omega)
    rw [e] at this
    simpa [rlV] using this
  | x :: r, hr, c, hc => by
    have hr' : ∀ c ∈ r, 0 ≤ c ∧ c ≤ 255 := fun c hc => hr c (by simp [hc])
    have hv := rlV_vld r hr'
    have hx := hr x (by simp)
    have t2 := rl_pos r hr' hx
    obtain ⟨tl, t3, _⟩ := posV_is _ _ _ t2
    have e : rlV (x :: r) = tkV (rlV r) (plc x r []) := by
      show (ptV (rlV r) x).1 = _
      rw [ptV_some t2]
    rw [e, plc_cons]
    by_cases h : x = c
    · rw [if_pos h, ← h]
      exact (posV_zero (by rw [tkV_len tl]; omega) x).2 t3
    · rw [if_neg h, if_neg (by simp)]
      have hq := rl_pos r hr' hc
      rw [pos_take hv.nodup tl hq (pos_ne hq t2 (fun e => h e.symm)), plc_add c x (fun e => h e.symm) r [] (by simp)]
      have ho := rl_ord hc hx (fun e => h e.symm) r hr' _ _ hq t2
      congr 1
      by_cases hb : bef c x r = true
      · rw [if_pos (ho.2 hb), if_pos hb]
      · rw [if_neg (fun e => hb (ho.1 e)), if_neg hb]
        rfl
theorem fwV_at (l : List Int) : ∀ (b : List Int) (i : Nat), i < b.length → (fwV l b).getD i 0 = (ptV (lsV l (b.take i)) (b.getD i 0)).2 := by
  intro b
  induction b generalizing l with
  | nil => intro i h; simp at h
  | cons c b ih =>
    intro i h
    cases i with
    | zero => rfl
    | succ i =>
      have := ih (ptV l c).1 i (by simpa using h)
      simpa [fwV, lsV] using this
/-- What Forth gives at index i. -/
theorem fw_place {b : List Int} (hb : ∀ c ∈ b, 0 ≤ c ∧ c ≤ 255) (i : Nat) (h : i < b.length) : (fwV idL b).getD i 0 = (plc (b.getD i 0) (b.take i).reverse [] : Nat) := by
  rw [fwV_at idL b i h]
  have hc : 0 ≤ b.getD i 0 ∧ b.getD i 0 ≤ 255 := by
    rw [List.getD_eq_getElem?_getD, List.getElem?_eq_getElem h]
    exact hb _ (List.getElem_mem h)
  have hr : ∀ c ∈ (b.take i).reverse, 0 ≤ c ∧ c ≤ 255 := fun c hc => hb c (List.mem_of_mem_take (List.mem_reverse.1 hc))
  have := rl_pos (b.take i).reverse hr hc
  rw [rlV_ls, List.reverse_reverse] at this
  rw [ptV_some this]
end Go.Proofs.Ytaemmeofchonaaa
