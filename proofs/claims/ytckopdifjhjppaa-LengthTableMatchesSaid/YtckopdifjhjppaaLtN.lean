/- Tables of lengths as bits: encodings, what runs over them, what is read. Mathematics. -/
import Derived.Test.YtckopdifjhjppaaLtM
set_option linter.unusedVariables false
set_option linter.unusedSimpArgs false
namespace Go.Proofs.Ytckopdifjhjppaa

/-- The adjustments from one length to another. -/
def adjV (p q : Int) : List Int := (List.replicate (q - p).toNat [(1 : Int), 0]).flatten ++ (List.replicate (p - q).toNat [(1 : Int), 1]).flatten
def putV (p q : Int) : List Int := adjV p q ++ [0]
def nibV (f : Int) : List Int := [f / 8 % 2, f / 4 % 2, f / 2 % 2, f % 2]
/-- The encoding of the first s symbols. -/
def encV (f : Int) (L : List Int) : Nat → List Int
  | 0 => nibV f
  | s + 1 => encV f L s ++ putV (pv f L s) (gl L s)
def ofV (L : List Int) : List Int := encV (gl L 0) L 258
/-- The first k lengths, and zeros. -/
def Lk (L : List Int) (k : Nat) : List Int := L.take k ++ List.replicate (258 - k) 0
def bit (b : Int) : Prop := b = 0 ∨ b = 1
theorem rep_len (x : List Int) (h : x.length = 2) : ∀ k, ((List.replicate k x).flatten).length = 2 * k
  | 0 => rfl
  | k + 1 => by
    rw [List.replicate_succ, List.flatten_cons, List.length_append, rep_len x h k, h]
    omega
theorem adjV_len (p q : Int) : (adjV p q).length = 2 * (q - p).natAbs := by
  unfold adjV
  rw [List.length_append, rep_len _ rfl, rep_len _ rfl]
  omega
theorem putV_len (p q : Int) : (putV p q).length = 1 + 2 * (q - p).natAbs := by
  unfold putV
  rw [List.length_append, adjV_len]
  simp only [List.length_cons, List.length_nil]
  omega
theorem encV_len (f : Int) (L : List Int) : ∀ s, (encV f L s).length = 4 + cst f L s
  | 0 => rfl
  | s + 1 => by
    rw [encV, List.length_append, encV_len f L s, putV_len, cst]
    omega
theorem rep_bit (x : List Int) (h : ∀ b ∈ x, bit b) (k : Nat) : ∀ b ∈ (List.replicate k x).flatten, bit b := fun b hb => by
  obtain ⟨y, hy, hb⟩ := List.mem_flatten.1 hb
  rw [List.eq_of_mem_replicate hy] at hb
  exact h b hb
theorem adjV_bit (p q : Int) : ∀ b ∈ adjV p q, bit b := fun b hb => by
  rcases List.mem_append.1 hb with hb | hb
  · exact rep_bit _ (by intro b hb; simp at hb; rcases hb with rfl | rfl; exact .inr rfl; exact .inl rfl) _ b hb
  · exact rep_bit _ (by intro b hb; simp at hb; subst hb; exact .inr rfl) _ b hb
theorem putV_bit (p q : Int) : ∀ b ∈ putV p q, bit b := fun b hb => by
  rcases List.mem_append.1 hb with hb | hb
  · exact adjV_bit p q b hb
  · rw [List.mem_singleton] at hb
    exact .inl hb
theorem encV_bit (f : Int) (L : List Int) : ∀ s, ∀ b ∈ encV f L s, bit b
  | 0, b, hb => by
    unfold bit
    simp only [encV, nibV, List.mem_cons, List.not_mem_nil, or_false] at hb
    omega
  | s + 1, b, hb => by
    rcases List.mem_append.1 hb with hb | hb
    · exact encV_bit f L s b hb
    · exact putV_bit _ _ b hb
theorem Lk_len {L : List Int} (h : L.length = 258) {k : Nat} (hk : k ≤ 258) : (Lk L k).length = 258 := by
  unfold Lk
  rw [List.length_append, List.length_take, List.length_replicate]
  omega
theorem Lk_zero (L : List Int) : Lk L 0 = z0.L := by unfold Lk; rw [List.take_zero, List.nil_append]; rfl
theorem Lk_all {L : List Int} (h : L.length = 258) : Lk L 258 = L := by
  unfold Lk
  rw [List.take_of_length_le (by omega), Nat.sub_self]
  exact List.append_nil _
theorem Lk_set {L : List Int} (h : L.length = 258) {k : Nat} (hk : k < 258) : (Lk L k).set k (gl L k) = Lk L (k + 1) := by
  apply List.ext_getElem?
  intro i
  unfold Lk gl
  rw [List.getElem?_set]
  by_cases e : k = i
  · subst e
    rw [if_pos rfl, if_pos (by rw [List.length_append, List.length_take, List.length_replicate]; omega), List.getElem?_append_left (by rw [List.length_take]; omega), List.getElem?_take, if_pos (by omega), List.getD_eq_getElem?_getD, List.getElem?_eq_getElem (by omega)]
    rfl
  · rw [if_neg e]
    by_cases hi : i < k
    · rw [List.getElem?_append_left (by rw [List.length_take]; omega), List.getElem?_append_left (by rw [List.length_take]; omega), List.getElem?_take, List.getElem?_take, if_pos hi, if_pos (by omega)]
    · rw [List.getElem?_append_right (by rw [List.length_take]; omega), List.getElem?_append_right (by rw [List.length_take]; omega), List.getElem?_replicate, List.getElem?_replicate, List.length_take, List.length_take]
      by_cases h2 : i < 258
      · rw [if_pos (by omega), if_pos (by omega)]
      · rw [if_neg (by omega), if_neg (by omega)]

section
variable (T : List Int → Bool)
/-! Runs. -/
theorem run_one (c : TS) (b : Int) (h : c.y ≠ 258) (hw : wayB T c b = true) (bs : List Int) : runS T c (b :: bs) = runS T (wayS c b) bs := by
  rw [runS, if_neg h, if_pos hw]
theorem run_ups (L : List Int) (y : Int) (hy : y ≠ 258) : ∀ (k : Nat) (p a : Int), (a = 0 ∨ a = 1) → p + k ≤ 15 → 0 ≤ p → runS T ⟨L, y, 4, p, a⟩ (List.replicate k [(1 : Int), 0]).flatten = some ⟨L, y, 4, p + k, if k = 0 then a else 1⟩
  | 0, p, a, _, _, _ => by
    show some (TS.mk L y 4 p a) = _
    simp
  | k + 1, p, a, ha, hp, h0 => by
    rw [List.replicate_succ, List.flatten_cons]
    show runS T _ (1 :: 0 :: (List.replicate k [(1 : Int), 0]).flatten) = _
    have e1 : wayS ⟨L, y, 4, p, a⟩ 1 = ⟨L, y, 5, p, a⟩ := rfl
    have hno : ¬ (a = 2 ∨ p = 15) := by omega
    have e2 : wayS ⟨L, y, 5, p, a⟩ 0 = ⟨L, y, 4, p + 1, 1⟩ := by
      show (if a = 2 ∨ p = 15 then _ else _) = _
      rw [if_neg hno]
    have b2 : wayB T ⟨L, y, 5, p, a⟩ 0 = true := by
      show (!decide (a = 2 ∨ p = 15)) = true
      rw [decide_eq_false hno]
      rfl
    rw [run_one T _ _ hy rfl, e1, run_one T _ _ hy b2, e2, run_ups L y hy k (p + 1) 1 (.inr rfl) (by omega) (by omega)]
    have e3 : (if k = 0 then (1 : Int) else 1) = 1 := by split <;> rfl
    rw [e3, if_neg (Nat.succ_ne_zero k)]
    congr 2
    omega
theorem run_downs (L : List Int) (y : Int) (hy : y ≠ 258) : ∀ (k : Nat) (p a : Int), (a = 0 ∨ a = 2) → 0 ≤ p - k → p ≤ 15 → runS T ⟨L, y, 4, p, a⟩ (List.replicate k [(1 : Int), 1]).flatten = some ⟨L, y, 4, p - k, if k = 0 then a else 2⟩
  | 0, p, a, _, _, _ => by
    show some (TS.mk L y 4 p a) = _
    simp
  | k + 1, p, a, ha, hp, h0 => by
    rw [List.replicate_succ, List.flatten_cons]
    show runS T _ (1 :: 1 :: (List.replicate k [(1 : Int), 1]).flatten) = _
    have e1 : wayS ⟨L, y, 4, p, a⟩ 1 = ⟨L, y, 5, p, a⟩ := rfl
    have hno : ¬ (a = 1 ∨ p = 0) := by omega
    have e2 : wayS ⟨L, y, 5, p, a⟩ 1 = ⟨L, y, 4, p - 1, 2⟩ := by
      show (if a = 1 ∨ p = 0 then _ else _) = _
      rw [if_neg hno]
    have b2 : wayB T ⟨L, y, 5, p, a⟩ 1 = true := by
      show (!decide (a = 1 ∨ p = 0)) = true
      rw [decide_eq_false hno]
      rfl
    rw [run_one T _ _ hy rfl, e1, run_one T _ _ hy b2, e2, run_downs L y hy k (p - 1) 2 (.inr rfl) (by omega) (by omega)]
    have e3 : (if k = 0 then (2 : Int) else 2) = 2 := by split <;> rfl
    rw [e3, if_neg (Nat.succ_ne_zero k)]
    congr 2
    omega
/-- The way of an adjustment. -/
def sgV (p q : Int) : Int := if p < q then 1 else if q < p then 2 else 0
theorem run_adj (L : List Int) (y : Int) (hy : y ≠ 258) (p q : Int) (hp : 0 ≤ p ∧ p ≤ 15) (hq : 0 ≤ q ∧ q ≤ 15) : runS T ⟨L, y, 4, p, 0⟩ (adjV p q) = some ⟨L, y, 4, q, sgV p q⟩ := by
  unfold adjV sgV
  rw [runS_append, run_ups T L y hy _ p 0 (.inl rfl) (by omega) (by omega)]
  show runS T _ _ = _
  by_cases h1 : p < q
  · rw [show (p - q).toNat = 0 by omega, if_neg (by omega), if_pos h1]
    show some (TS.mk _ _ _ _ _) = _
    congr 2
    omega
  · rw [show (q - p).toNat = 0 by omega]
    simp only [if_pos trivial]
    rw [run_downs T L y hy _ _ 0 (.inl rfl) (by omega) (by omega), if_neg h1]
    by_cases h2 : q < p
    · rw [if_pos h2, if_neg (by omega)]
      congr 2
      omega
    · rw [if_neg h2, if_pos (by omega)]
      congr 2
      omega
theorem run_put (L : List Int) (y : Int) (hy : y ≠ 258) (p q : Int) (hp : 0 ≤ p ∧ p ≤ 15) (hq : 0 ≤ q ∧ q ≤ 15) (hT : (decide (y + 1 < 258) || T (L.set y.toNat q)) = true) : runS T ⟨L, y, 4, p, 0⟩ (putV p q) = some ⟨L.set y.toNat q, y + 1, 4, q, 0⟩ := by
  unfold putV
  rw [runS_append, run_adj T L y hy p q hp hq]
  show runS T ⟨L, y, 4, q, sgV p q⟩ [0] = _
  rw [run_one T ⟨L, y, 4, q, sgV p q⟩ 0 hy (show wayB T ⟨L, y, 4, q, sgV p q⟩ 0 = true from hT)]
  rfl
theorem run_nib (f : Int) (h : 0 ≤ f ∧ f ≤ 15) : runS T z0 (nibV f) = some ⟨z0.L, 0, 4, f, 0⟩ := by
  have e : f = 0 ∨ f = 1 ∨ f = 2 ∨ f = 3 ∨ f = 4 ∨ f = 5 ∨ f = 6 ∨ f = 7 ∨ f = 8 ∨ f = 9 ∨ f = 10 ∨ f = 11 ∨ f = 12 ∨ f = 13 ∨ f = 14 ∨ f = 15 := by omega
  rcases e with rfl | rfl | rfl | rfl | rfl | rfl | rfl | rfl | rfl | rfl | rfl | rfl | rfl | rfl | rfl | rfl <;> rfl
theorem run_enc (f : Int) (hf : 0 ≤ f ∧ f ≤ 15) (L : List Int) (hl : L.length = 258) : ∀ k, k ≤ 258 → (∀ s, s < k → 0 ≤ gl L s ∧ gl L s ≤ 15) → (k = 258 → T L = true) → runS T z0 (encV f L k) = some ⟨Lk L k, k, 4, pv f L k, 0⟩
  | 0, _, _, _ => by rw [encV, run_nib T f hf, Lk_zero]; rfl
  | k + 1, hk, hs, hT => by
    rw [encV, runS_append, run_enc f hf L hl k (by omega) (fun s h => hs s (by omega)) (fun h => absurd h (by omega))]
    have hp : 0 ≤ pv f L k ∧ pv f L k ≤ 15 := by
      cases k with
      | zero => exact hf
      | succ j => exact hs j (by omega)
    show runS T ⟨Lk L k, k, 4, pv f L k, 0⟩ _ = _
    rw [run_put T _ _ (by omega) _ _ hp (hs k (by omega)) ?_]
    · rw [Int.toNat_natCast, Lk_set hl (by omega)]
      rfl
    · rw [Int.toNat_natCast, Lk_set hl (by omega)]
      by_cases h1 : k + 1 = 258
      · rw [h1, Lk_all hl, hT h1, Bool.or_true]
      · rw [decide_eq_true (by omega)]
        rfl
theorem run_of (L : List Int) (hl : L.length = 258) (hs : ∀ s, s < 258 → 0 ≤ gl L s ∧ gl L s ≤ 15) (hT : T L = true) : runS T z0 (ofV L) = some ⟨L, 258, 4, gl L 257, 0⟩ := by
  unfold ofV
  rw [run_enc T (gl L 0) (hs 0 (by omega)) L hl 258 (Nat.le_refl _) hs (fun _ => hT), Lk_all hl]
  rfl
/-! What runs keep. -/
theorem runS_pre (c : TS) (xs ys : List Int) (d : TS) (h : runS T c (xs ++ ys) = some d) : ∃ e, runS T c xs = some e ∧ runS T e ys = some d := by
  rw [runS_append] at h
  cases hx : runS T c xs with
  | none => rw [hx] at h; cases h
  | some e => rw [hx] at h; exact ⟨e, rfl, h⟩
theorem runS_cons {c : TS} {b : Int} {bs : List Int} {d : TS} (h : runS T c (b :: bs) = some d) : c.y ≠ 258 ∧ wayB T c b = true ∧ runS T (wayS c b) bs = some d := by
  unfold runS at h
  split at h
  · cases h
  · rename_i h1
    split at h
    · rename_i h2
      exact ⟨h1, h2, h⟩
    · cases h
theorem Rch.run : ∀ (bs : List Int) {f : Int} {k : Nat} {c d : TS}, Rch T f k c → Cnt f k c → (∀ b ∈ bs, bit b) → runS T c bs = some d → ∃ g, Rch T g (k + bs.length) d ∧ Cnt g (k + bs.length) d
  | [], f, k, c, d, h, hc, _, hr => by
    injection hr with hr
    subst hr
    exact ⟨f, h, hc⟩
  | b :: bs, f, k, c, d, h, hc, hb, hr => by
    obtain ⟨h1, h2, h3⟩ := runS_cons T hr
    have hy := h.y0
    obtain ⟨r, s⟩ := h.step hc (by omega) (hb b (by simp)) h2
    obtain ⟨g, r2, s2⟩ := Rch.run bs r s (fun x hx => hb x (by simp [hx])) h3
    refine ⟨g, ?_, ?_⟩
    · rw [List.length_cons, show k + (bs.length + 1) = k + 1 + bs.length by omega]; exact r2
    · rw [List.length_cons, show k + (bs.length + 1) = k + 1 + bs.length by omega]; exact s2
/-! What is read. -/
theorem read_run : ∀ (bs : List Int) {c d : TS} (k : Nat), (∀ b ∈ bs, bit b) → runS T c bs = some d → d.y ≠ 258 → ∀ r, readS T c k (bs ++ r) = readS T d (k + bs.length) r
  | [], c, d, k, _, h, _, r => by
    injection h with h
    subst h
    rfl
  | b :: bs, c, d, k, hb, h, hd, r => by
    obtain ⟨h1, h2, h3⟩ := runS_cons T h
    have hy : (wayS c b).y ≠ 258 := by
      cases bs with
      | nil => injection h3 with h3; subst h3; exact hd
      | cons b2 bs => exact (runS_cons T h3).1
    have hb1 := hb b (by simp)
    show readS T c k (b :: (bs ++ r)) = _
    conv => lhs; unfold readS
    rw [if_neg (by unfold bit at hb1; omega), if_neg (by rw [h2]; decide), if_neg hy, read_run bs (k + 1) (fun x hx => hb x (by simp [hx])) h3 hd r, List.length_cons, show k + (bs.length + 1) = k + 1 + bs.length by omega]
theorem read_done : ∀ (bs : List Int) {c d : TS} (k : Nat), (∀ b ∈ bs, bit b) → runS T c bs = some d → d.y = 258 → bs ≠ [] → ∀ r, readS T c k (bs ++ r) = (d.L, k + bs.length, 0)
  | [], c, d, k, _, _, _, h, _ => absurd rfl h
  | b :: bs, c, d, k, hb, h, hd, _, r => by
    obtain ⟨h1, h2, h3⟩ := runS_cons T h
    have hb1 := hb b (by simp)
    show readS T c k (b :: (bs ++ r)) = _
    unfold readS
    rw [if_neg (by unfold bit at hb1; omega), if_neg (by rw [h2]; decide)]
    by_cases hn : bs = []
    · subst hn
      injection h3 with h3
      rw [h3, if_pos hd]
      rfl
    · have hy : (wayS c b).y ≠ 258 := by
        cases bs with
        | nil => exact absurd rfl hn
        | cons b2 bs => exact (runS_cons T h3).1
      rw [if_neg hy, read_done bs (k + 1) (fun x hx => hb x (by simp [hx])) h3 hd hn r, List.length_cons, show k + (bs.length + 1) = k + 1 + bs.length by omega]
theorem cst_ge (f : Int) (L : List Int) : ∀ s, s ≤ cst f L s
  | 0 => Nat.le_refl _
  | s + 1 => by have := cst_ge f L s; rw [cst]; omega
theorem cst_le (f : Int) (hf : 0 ≤ f ∧ f ≤ 15) (L : List Int) : ∀ s, (∀ i, i < s → 0 ≤ gl L i ∧ gl L i ≤ 15) → cst f L s ≤ 31 * s
  | 0, _ => Nat.le_refl _
  | s + 1, h => by
    have h1 := cst_le f hf L s (fun i hi => h i (by omega))
    have h2 := h s (by omega)
    have h3 : 0 ≤ pv f L s ∧ pv f L s ≤ 15 := by
      cases s with
      | zero => exact hf
      | succ j => exact h j (by omega)
    rw [cst]
    omega
theorem cst_first (f : Int) (L : List Int) : ∀ s, cst (gl L 0) L s ≤ cst f L s
  | 0 => Nat.le_refl _
  | s + 1 => by
    have h1 := cst_first f L s
    rw [cst, cst]
    cases s with
    | zero =>
      show cst (gl L 0) L 0 + 1 + 2 * (gl L 0 - gl L 0).natAbs ≤ _
      rw [Int.sub_self]
      show 0 + 1 + 2 * 0 ≤ _
      omega
    | succ j =>
      show _ + 1 + 2 * (gl L (j + 1) - gl L j).natAbs ≤ _ + 1 + 2 * (gl L (j + 1) - gl L j).natAbs
      omega
/-- What is read rightly. -/
structure RdOk (l : List Int) (n : Nat) : Prop where
  len : l.length = 258
  small : ∀ s, s < 258 → 0 ≤ gl l s ∧ gl l s ≤ 15
  tab : T l = true
  short : (ofV l).length ≤ n
  most : n ≤ 8002
theorem Rch.ok {T : List Int → Bool} {f : Int} {k : Nat} {c : TS} (h : Rch T f k c) (hc : Cnt f k c) (hy : c.y = 258) : RdOk T c.L k := by
  obtain ⟨ht, ha, hT⟩ := h.fin hy
  have hf := h.f0 (by omega)
  have hs : ∀ s, s < 258 → 0 ≤ gl c.L s ∧ gl c.L s ≤ 15 := fun s hs => h.old s (by omega)
  have hn : c.n = pv f c.L 258 := by
    have := h.way (by omega)
    rw [hy] at this
    simpa [ha] using this
  have hk := hc (by omega)
  rw [hy, hn] at hk
  have e : ((258 : Int).toNat) = 258 := rfl
  rw [e, Int.sub_self, ht] at hk
  have h1 := cst_first f c.L 258
  have h2 := cst_le f hf c.L 258 hs
  refine ⟨h.len, hs, hT, ?_, ?_⟩
  · unfold ofV
    rw [encV_len]
    simp at hk
    omega
  · simp at hk
    omega
theorem read_ok {T : List Int → Bool} : ∀ (bs : List Int) {f : Int} {k : Nat} {c : TS}, Rch T f k c → Cnt f k c → c.y ≠ 258 → ∀ l n, readS T c k bs = (l, n, 0) → RdOk T l n
  | [], f, k, c, _, _, _, l, n, h => by
    have h1 := congrArg (fun x => x.2.2) h
    simp [readS] at h1
  | b :: bs, f, k, c, hr, hc, hy, l, n, h => by
    unfold readS at h
    split at h
    · have h1 := congrArg (fun x => x.2.2) h
      simp at h1
    · rename_i hb
      split at h
      · have h1 := congrArg (fun x => x.2.2) h
        simp at h1
      · rename_i hw
        have hb1 : b = 0 ∨ b = 1 := by omega
        have hw1 : wayB T c b = true := by simpa using hw
        have hy0 := hr.y0
        obtain ⟨r, s⟩ := hr.step hc (by omega) hb1 hw1
        split at h
        · rename_i he
          have h1 := congrArg (fun x => x.1) h
          have h2 := congrArg (fun x => x.2.1) h
          simp only at h1 h2
          subst h1 h2
          exact r.ok s he
        · rename_i he
          exact read_ok bs r s he l n h
/-- The encoding of a table: what law Back asks. -/
theorem read_of (L : List Int) (hl : L.length = 258) (hs : ∀ s, s < 258 → 0 ≤ gl L s ∧ gl L s ≤ 15) (hT : T L = true) (r : List Int) : readS T z0 0 (ofV L ++ r) = (L, (ofV L).length, 0) := by
  have h := read_done T (ofV L) (c := z0) 0 (encV_bit _ _ _) (run_of T L hl hs hT) rfl (fun e => by
    have := encV_len (gl L 0) L 258
    unfold ofV at e
    rw [e] at this
    simp at this
    omega) r
  rw [h, Nat.zero_add]
theorem of_len (L : List Int) (hs : ∀ s, s < 258 → 0 ≤ gl L s ∧ gl L s ≤ 15) : 262 ≤ (ofV L).length ∧ (ofV L).length ≤ 8002 := by
  unfold ofV
  rw [encV_len]
  have h1 := cst_ge (gl L 0) L 258
  have h2 := cst_le (gl L 0) (hs 0 (by omega)) L 258 hs
  omega
/-- A run's beginning is a run that is not done. -/
theorem run_take {c d : TS} {bs : List Int} (h : runS T c bs = some d) (m : Nat) (hm : m < bs.length) : ∃ e, runS T c (bs.take m) = some e ∧ e.y ≠ 258 ∧ runS T e (bs.drop m) = some d := by
  rw [← List.take_append_drop m bs] at h
  obtain ⟨e, h1, h2⟩ := runS_pre T c _ _ d h
  refine ⟨e, h1, ?_, h2⟩
  have hd : bs.drop m ≠ [] := fun e2 => by
    have := congrArg List.length e2
    rw [List.length_drop, List.length_nil] at this
    omega
  cases hx : bs.drop m with
  | nil => exact absurd hx hd
  | cons b r => rw [hx] at h2; exact (runS_cons T h2).1
theorem read_short (L : List Int) (hl : L.length = 258) (hs : ∀ s, s < 258 → 0 ≤ gl L s ∧ gl L s ≤ 15) (hT : T L = true) (m : Nat) (hm : m < (ofV L).length) : readS T z0 0 ((ofV L).take m) = (z0.L, 0, 50) := by
  obtain ⟨e, h1, h2, _⟩ := run_take T (run_of T L hl hs hT) m hm
  have h := read_run T ((ofV L).take m) (c := z0) 0 (fun b hb => encV_bit _ _ _ b (List.mem_of_mem_take hb)) h1 h2 []
  rw [List.append_nil] at h
  rw [h]
  rfl
end
end Go.Proofs.Ytckopdifjhjppaa
