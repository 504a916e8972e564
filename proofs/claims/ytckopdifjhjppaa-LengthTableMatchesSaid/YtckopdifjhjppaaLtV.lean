/- Tables of lengths as bits: which states are valid. Mathematics. -/
import Derived.Test.YtckopdifjhjppaaLtN
set_option linter.unusedVariables false
set_option linter.unusedSimpArgs false
namespace Go.Proofs.Ytckopdifjhjppaa

/-- The first length that is taken for a state. -/
def fstS (c : TS) : Int := if c.y = 0 then (if c.a = 1 then c.n - 1 else if c.a = 2 then c.n + 1 else c.n) else gl c.L 0
/-- The highest t bits of the first length. -/
def lowV (n : Int) : Nat → List Int
  | 0 => []
  | i + 1 => (n / 2 ^ i % 2) :: lowV n i
def bitsTo (c : TS) : List Int := encV (fstS c) c.L c.y.toNat ++ (if c.y < 258 then adjV (pv (fstS c) c.L c.y.toNat) c.n else []) ++ (if c.t = 5 then [1] else [])
section
variable (T : List Int → Bool)
/-- A state is valid, as the reference finds it. -/
def validS (c : TS) : Bool :=
  if c.n < 0 ∨ 15 < c.n ∨ c.y < 0 ∨ 258 < c.y then false
  else if 0 ≤ c.t ∧ c.t < 4 then decide (runS T z0 (lowV c.n c.t.toNat) = some c)
  else if ∃ s, s < c.y.toNat ∧ 15 < gl c.L s then false
  else if c.y = 0 ∧ (fstS c < 0 ∨ 15 < fstS c) then false
  else decide (runS T z0 (bitsTo c) = some c)
theorem lowV_bit (n : Int) : ∀ t, ∀ b ∈ lowV n t, bit b
  | 0, b, hb => by simp [lowV] at hb
  | i + 1, b, hb => by
    unfold lowV at hb
    rcases List.mem_cons.1 hb with rfl | hb
    · unfold bit; omega
    · exact lowV_bit n i b hb
theorem run_low (n : Int) (t : Int) (ht : 0 ≤ t ∧ t ≤ 3) (hn : 0 ≤ n ∧ n < 2 ^ t.toNat) : runS T z0 (lowV n t.toNat) = some ⟨z0.L, 0, t, n, 0⟩ := by
  have h1 : t = 0 ∨ t = 1 ∨ t = 2 ∨ t = 3 := by omega
  rcases h1 with rfl | rfl | rfl | rfl
  · have h2 : n < 1 := hn.2
    obtain rfl : n = 0 := by omega
    rfl
  · have h2 : n < 2 := hn.2
    have h3 : n = 0 ∨ n = 1 := by omega
    rcases h3 with rfl | rfl <;> rfl
  · have h2 : n < 4 := hn.2
    have h3 : n = 0 ∨ n = 1 ∨ n = 2 ∨ n = 3 := by omega
    rcases h3 with rfl | rfl | rfl | rfl <;> rfl
  · have h2 : n < 8 := hn.2
    have h3 : n = 0 ∨ n = 1 ∨ n = 2 ∨ n = 3 ∨ n = 4 ∨ n = 5 ∨ n = 6 ∨ n = 7 := by omega
    rcases h3 with rfl | rfl | rfl | rfl | rfl | rfl | rfl | rfl <;> rfl
theorem Lk_same {L : List Int} (h : L.length = 258) {k : Nat} (hk : k ≤ 258) (hz : ∀ s, k ≤ s → gl L s = 0) : Lk L k = L := by
  apply List.ext_getElem?
  intro i
  unfold Lk
  by_cases hi : i < k
  · rw [List.getElem?_append_left (by rw [List.length_take]; omega), List.getElem?_take, if_pos hi]
  · rw [List.getElem?_append_right (by rw [List.length_take]; omega), List.getElem?_replicate, List.length_take]
    by_cases h2 : i < 258
    · have := hz i (by omega)
      unfold gl at this
      rw [List.getD_eq_getElem?_getD, List.getElem?_eq_getElem (by omega)] at this
      rw [if_pos (by omega), List.getElem?_eq_getElem (by omega)]
      simp only [Option.getD_some] at this
      rw [this]
    · rw [if_neg (by omega), List.getElem?_eq_none (by omega)]
theorem adj_end (L : List Int) (y : Int) (p q : Int) (hp : 0 ≤ p ∧ p ≤ 15) (hq : 0 ≤ q ∧ q ≤ 15) (t a : Int) (hy : y = 258 → t = 4 ∧ q = p ∧ a = 0) (ha : y ≠ 258 → a = sgV p q) (ht : t = 4 ∨ t = 5) :
    runS T ⟨L, y, 4, p, 0⟩ ((if y < 258 then adjV p q else []) ++ (if t = 5 then [1] else [])) = (if y ≤ 258 then some ⟨L, y, t, q, a⟩ else runS T ⟨L, y, 4, p, 0⟩ ((if y < 258 then adjV p q else []) ++ (if t = 5 then [1] else []))) := by
  by_cases hy1 : y ≤ 258
  · rw [if_pos hy1]
    by_cases hy2 : y = 258
    · obtain ⟨rfl, rfl, rfl⟩ := hy hy2
      rw [if_neg (by omega), if_neg (by decide)]
      rfl
    · rw [if_pos (by omega), runS_append, run_adj T L y hy2 p q hp hq]
      rw [ha hy2]
      rcases ht with rfl | rfl
      · rw [if_neg (by decide)]; rfl
      · rw [if_pos rfl]
        show runS T ⟨L, y, 4, q, sgV p q⟩ [1] = _
        rw [run_one T ⟨L, y, 4, q, sgV p q⟩ 1 hy2 rfl]
        rfl
  · rw [if_neg hy1]
theorem sgV_of {p n a : Int} (h : a = 0 ∧ n = p ∨ a = 1 ∧ p < n ∨ a = 2 ∧ n < p) : a = sgV p n := by
  unfold sgV
  split
  · omega
  · split <;> omega
theorem pv_zero (f : Int) (L : List Int) : pv f L 0 = f := rfl
theorem Rch.fst {T : List Int → Bool} {f : Int} {k : Nat} {c : TS} (h : Rch T f k c) (h4 : 4 ≤ c.t) : 0 ≤ fstS c ∧ fstS c ≤ 15 ∧ (c.y = 258 → c.t = 4 ∧ c.n = pv (fstS c) c.L c.y.toNat ∧ c.a = 0) ∧ (c.y ≠ 258 → c.a = sgV (pv (fstS c) c.L c.y.toNat) c.n) := by
  have hw := h.way h4
  have hf := h.f0 h4
  have hn := h.n0
  have hy := h.y0
  by_cases h0 : c.y = 0
  · have e0 : c.y.toNat = 0 := by omega
    rw [e0, pv_zero] at hw
    rw [e0, pv_zero]
    have hF : 0 ≤ fstS c ∧ fstS c ≤ 15 ∧ (c.a = 0 ∧ c.n = fstS c ∨ c.a = 1 ∧ fstS c < c.n ∨ c.a = 2 ∧ c.n < fstS c) := by
      unfold fstS
      rw [if_pos h0]
      by_cases a1 : c.a = 1
      · rw [if_pos a1]; omega
      · rw [if_neg a1]
        by_cases a2 : c.a = 2
        · rw [if_pos a2]; omega
        · rw [if_neg a2]; omega
    exact ⟨hF.1, hF.2.1, fun e => by omega, fun _ => sgV_of hF.2.2⟩
  · have hg := h.old 0 (by omega)
    have hF : fstS c = gl c.L 0 := if_neg h0
    rw [hF]
    rw [pv_pos f (gl c.L 0) c.L (by omega)] at hw
    refine ⟨hg.1, hg.2, fun e => ?_, fun _ => sgV_of hw⟩
    obtain ⟨h1, h2, _⟩ := h.fin e
    exact ⟨h1, by omega, h2⟩
theorem bitsTo_bit (c : TS) : ∀ b ∈ bitsTo c, bit b := fun b hb => by
  unfold bitsTo at hb
  rcases List.mem_append.1 hb with hb | hb
  · rcases List.mem_append.1 hb with hb | hb
    · exact encV_bit _ _ _ b hb
    · split at hb
      · exact adjV_bit _ _ b hb
      · simp at hb
  · split at hb
    · rw [List.mem_singleton] at hb
      exact .inr hb
    · simp at hb
theorem valid_of {T : List Int → Bool} {f : Int} {k : Nat} {c : TS} (h : Rch T f k c) : validS T c = true := by
  have hn := h.n0
  have hy := h.y0
  have ht := h.t0
  unfold validS
  rw [if_neg (by omega)]
  by_cases h3 : 0 ≤ c.t ∧ c.t < 4
  · rw [if_pos h3]
    obtain ⟨l1, l2, l3, _⟩ := h.low (by omega)
    refine decide_eq_true ?_
    rw [run_low T c.n c.t ⟨h3.1, by omega⟩ ⟨hn.1, l3⟩]
    have hL : z0.L = c.L := by
      rw [← Lk_same h.len (k := 0) (by omega) (fun s _ => h.new s (by omega)), Lk_zero]
    congr 1
    exact TS.ext' hL l1.symm rfl rfl l2.symm
  · rw [if_neg h3, if_neg (fun ⟨s, hs, h15⟩ => by have := h.old s (by omega); omega)]
    have h4 : 4 ≤ c.t := by omega
    obtain ⟨f1, f2, f3, f4⟩ := h.fst h4
    rw [if_neg (by omega)]
    refine decide_eq_true ?_
    have hp : 0 ≤ pv (fstS c) c.L c.y.toNat ∧ pv (fstS c) c.L c.y.toNat ≤ 15 := by
      cases hk : c.y.toNat with
      | zero => exact ⟨f1, f2⟩
      | succ j => exact h.old j (by omega)
    unfold bitsTo
    rw [List.append_assoc, runS_append, run_enc T (fstS c) ⟨f1, f2⟩ c.L h.len c.y.toNat (by omega) (fun s hs => h.old s (by omega)) (fun e => (h.fin (by omega)).2.2), Lk_same h.len (by omega) (fun s hs => h.new s (by omega))]
    show runS T ⟨c.L, (c.y.toNat : Int), 4, pv (fstS c) c.L c.y.toNat, 0⟩ _ = _
    have e : (c.y.toNat : Int) = c.y := by omega
    rw [e]
    have := adj_end T c.L c.y (pv (fstS c) c.L c.y.toNat) c.n hp hn c.t c.a f3 f4 (by omega)
    rw [if_pos hy.2] at this
    exact this
theorem valid_iff {T : List Int → Bool} {c : TS} : validS T c = true ↔ ∃ f k, Rch T f k c ∧ Cnt f k c := by
  constructor
  · intro h
    unfold validS at h
    split at h
    · cases h
    · split at h
      · have hr := of_decide_eq_true h
        obtain ⟨g, h1, h2⟩ := Rch.run T _ (Rch.zero (T := T) 0) (fun e => absurd e (by show ¬ (4 : Int) ≤ 0; decide)) (lowV_bit _ _) hr
        exact ⟨g, _, h1, h2⟩
      · split at h
        · cases h
        · split at h
          · cases h
          · have hr := of_decide_eq_true h
            obtain ⟨g, h1, h2⟩ := Rch.run T _ (Rch.zero (T := T) 0) (fun e => absurd e (by show ¬ (4 : Int) ≤ 0; decide)) (bitsTo_bit c) hr
            exact ⟨g, _, h1, h2⟩
  · rintro ⟨f, k, h, _⟩
    exact valid_of h
/-- A step, as it is promised. -/
def stepS (c : TS) (b : Int) : TS × Bool × Int :=
  if validS T c = false ∨ c.y = 258 ∨ ¬ (b = 0 ∨ b = 1) then (z0, false, 2)
  else if wayB T c b = false then (z0, false, 100)
  else (wayS c b, decide ((wayS c b).y = 258), 0)
end
end Go.Proofs.Ytckopdifjhjppaa
