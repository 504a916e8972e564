/- Tallies and package-merge: the symbols in order, the lengths as 258 numbers, what they promise (mathematics; no program). -/
import Derived.Test.YtemjlmeakkknbaaPmN
set_option linter.unusedVariables false
set_option linter.unusedSimpArgs false
namespace Go.Proofs.Ytemjlmeakkknbaa

/-- A valid tally. -/
def VT (l : List Int) : Prop := ∀ z ∈ l, 0 ≤ z ∧ z ≤ 2147483647
instance (l : List Int) : Decidable (VT l) := inferInstanceAs (Decidable (∀ z ∈ l, 0 ≤ z ∧ z ≤ 2147483647))
theorem VT.get {l : List Int} (h : VT l) (i : Nat) : 0 ≤ l.getD i 0 ∧ l.getD i 0 ≤ 2147483647 := by
  by_cases hi : i < l.length
  · have := h _ (List.getElem_mem hi)
    simpa [List.getD_eq_getElem?_getD, hi] using this
  · simp [List.getD_eq_getElem?_getD, show l.length ≤ i by omega]

/-- The symbols below k that occur, with their counts. -/
def prK (l : List Int) : Nat → List (Int × Int)
  | 0 => []
  | k + 1 => prK l k ++ if 0 < l.getD k 0 then [((k : Int), l.getD k 0)] else []
theorem prK_yes (l : List Int) (k : Nat) (h : 0 < l.getD k 0) : prK l (k + 1) = prK l k ++ [((k : Int), l.getD k 0)] := by rw [prK, if_pos h]
theorem prK_no (l : List Int) (k : Nat) (h : ¬ 0 < l.getD k 0) : prK l (k + 1) = prK l k := by rw [prK, if_neg h, List.append_nil]
theorem prK_le (l : List Int) : ∀ k, (prK l k).length ≤ k
  | 0 => Nat.le_refl _
  | k + 1 => by
    have := prK_le l k
    rw [prK, List.length_append]
    split <;> simp <;> omega
theorem prK_mem {l : List Int} : ∀ {k : Nat} {x : Int × Int}, x ∈ prK l k → ∃ s : Nat, s < k ∧ x.1 = s ∧ x.2 = l.getD s 0 ∧ 0 < x.2
  | 0, x, h => by cases h
  | k + 1, x, h => by
    rw [prK] at h
    rcases List.mem_append.1 h with h | h
    · obtain ⟨s, h1, h2, h3⟩ := prK_mem h
      exact ⟨s, by omega, h2, h3⟩
    · split at h
      · rename_i hp
        simp only [List.mem_singleton] at h
        subst h
        exact ⟨k, by omega, rfl, rfl, hp⟩
      · cases h
theorem prK_at {l : List Int} : ∀ {k s : Nat}, s < k → 0 < l.getD s 0 → ((s : Int), l.getD s 0) ∈ prK l k
  | 0, s, h, _ => by omega
  | k + 1, s, h, h0 => by
    rw [prK]
    by_cases e : s = k
    · subst e
      rw [if_pos h0]
      exact List.mem_append_right _ (List.mem_singleton.2 rfl)
    · exact List.mem_append_left _ (prK_at (by omega) h0)
theorem prK_nodup (l : List Int) : ∀ k, ((prK l k).map (·.1)).Nodup
  | 0 => List.nodup_nil
  | k + 1 => by
    rw [prK]
    split
    · rw [List.map_append, List.nodup_append]
      refine ⟨prK_nodup l k, by simp, fun a ha b hb e => ?_⟩
      simp only [List.map_cons, List.map_nil, List.mem_singleton] at hb
      obtain ⟨x, hx, rfl⟩ := List.mem_map.1 ha
      obtain ⟨s, h1, h2, _⟩ := prK_mem hx
      omega
    · rw [List.append_nil]
      exact prK_nodup l k

/-- The order of a ranking: (symbol, count). -/
def rlt (p q : Int × Int) : Bool := if p.2 = q.2 then decide (p.1 < q.1) else decide (p.2 < q.2)
theorem rlt_iff (p q : Int × Int) : rlt p q = true ↔ p.2 < q.2 ∨ p.2 = q.2 ∧ p.1 < q.1 := by
  unfold rlt
  split <;> rw [decide_eq_true_eq] <;> omega
theorem rlt_no (p q : Int × Int) : rlt p q = false ↔ q.2 < p.2 ∨ p.2 = q.2 ∧ q.1 ≤ p.1 := by
  unfold rlt
  split <;> rw [decide_eq_false_iff_not] <;> omega
def insR (p : Int × Int) : List (Int × Int) → List (Int × Int)
  | [] => [p]
  | q :: l => if rlt q p = true then q :: insR p l else p :: q :: l
def sortR : List (Int × Int) → List (Int × Int)
  | [] => []
  | p :: l => insR p (sortR l)
theorem insR_perm (p : Int × Int) : ∀ l, (insR p l).Perm (p :: l)
  | [] => .refl _
  | q :: l => by
    unfold insR
    split
    · exact ((insR_perm p l).cons q).trans (List.Perm.swap p q l)
    · exact .refl _
theorem sortR_perm : ∀ l, (sortR l).Perm l
  | [] => .refl _
  | p :: l => (insR_perm p _).trans ((sortR_perm l).cons p)
/-- Not after. -/
def rle (p q : Int × Int) : Prop := rlt q p = false
theorem rle_iff (p q : Int × Int) : rle p q ↔ p.2 < q.2 ∨ p.2 = q.2 ∧ p.1 ≤ q.1 := by
  unfold rle
  rw [rlt_no]
  omega
theorem insR_sorted (p : Int × Int) : ∀ l, l.Pairwise rle → (insR p l).Pairwise rle
  | [], _ => by simp [insR]
  | q :: l, h => by
    rw [List.pairwise_cons] at h
    unfold insR
    split
    · rename_i hq
      rw [List.pairwise_cons]
      refine ⟨fun x hx => ?_, insR_sorted p l h.2⟩
      rcases List.mem_cons.1 ((insR_perm p l).mem_iff.1 hx) with rfl | hx
      · rw [rlt_iff] at hq
        rw [rle_iff]
        omega
      · exact h.1 x hx
    · rename_i hq
      rw [List.pairwise_cons]
      have hpq : rle p q := by unfold rle; simpa using hq
      refine ⟨fun x hx => ?_, List.pairwise_cons.2 h⟩
      rcases List.mem_cons.1 hx with rfl | hx
      · exact hpq
      · have := h.1 x hx
        rw [rle_iff] at this hpq ⊢
        omega
theorem sortR_sorted : ∀ l, (sortR l).Pairwise rle
  | [] => .nil
  | p :: l => insR_sorted p _ (sortR_sorted l)
theorem sort_unique {a b : List (Int × Int)} (ha : a.Pairwise rle) (hb : b.Pairwise rle) (h : a.Perm b) : a = b := by
  refine List.Perm.eq_of_pairwise (le := rle) (fun a b _ _ h1 h2 => ?_) ha hb h
  rw [rle_iff] at h1 h2
  exact Prod.ext (by omega) (by omega)

/-- The leaves of a tally. -/
def lvT (l : List Int) : List (Int × Int) := sortR (prK l l.length)
/-- Order's symbols. -/
def ordL (l : List Int) : List Int := (lvT l).map (·.1)
theorem lvT_perm (l : List Int) : (lvT l).Perm (prK l l.length) := sortR_perm _
theorem lvT_len (l : List Int) : (lvT l).length = (prK l l.length).length := (lvT_perm l).length_eq
theorem lvT_le (l : List Int) : (lvT l).length ≤ l.length := by rw [lvT_len]; exact prK_le l l.length
theorem lvT_mem {l : List Int} {x : Int × Int} (h : x ∈ lvT l) : ∃ s : Nat, s < l.length ∧ x.1 = s ∧ x.2 = l.getD s 0 ∧ 0 < x.2 := prK_mem ((lvT_perm l).mem_iff.1 h)
theorem lvT_at {l : List Int} {s : Nat} (h : s < l.length) (h0 : 0 < l.getD s 0) : ((s : Int), l.getD s 0) ∈ lvT l := (lvT_perm l).mem_iff.2 (prK_at h h0)
theorem lvT_sorted (l : List Int) : (lvT l).Pairwise rle := sortR_sorted _
theorem lvT_lvs (l : List Int) : Lvs (lvT l) where
  srt := (lvT_sorted l).imp fun h => by rw [rle_iff] at h; omega
  nng := fun x hx => by obtain ⟨s, _, _, _, h⟩ := lvT_mem hx; omega
  sym := fun x hx => by obtain ⟨s, _, h, _⟩ := lvT_mem hx; omega
  nodup := ((lvT_perm l).map (·.1)).nodup_iff.2 (prK_nodup l l.length)

/-! Sums over symbols. -/
def sumR (n : Nat) (f : Nat → Int) : Int := match n with
  | 0 => 0
  | n + 1 => sumR n f + f n
theorem sumR_succ (n : Nat) (f : Nat → Int) : sumR (n + 1) f = sumR n f + f n := rfl
theorem sumR_congr {n : Nat} {f g : Nat → Int} (h : ∀ s, s < n → f s = g s) : sumR n f = sumR n g := by
  induction n with
  | zero => rfl
  | succ n ih => rw [sumR_succ, sumR_succ, ih (fun s hs => h s (by omega)), h n (by omega)]
theorem sumR_le {n : Nat} {f g : Nat → Int} (h : ∀ s, s < n → f s ≤ g s) : sumR n f ≤ sumR n g := by
  induction n with
  | zero => exact Int.le_refl _
  | succ n ih =>
    have h1 := ih (fun s hs => h s (by omega))
    have h2 := h n (by omega)
    rw [sumR_succ, sumR_succ]
    omega
theorem sumR_zero {n : Nat} {f : Nat → Int} (h : ∀ s, s < n → f s = 0) : sumR n f = 0 := by
  induction n with
  | zero => rfl
  | succ n ih => rw [sumR_succ, ih (fun s hs => h s (by omega)), h n (by omega)]; rfl
theorem sumR_nng {n : Nat} {f : Nat → Int} (h : ∀ s, s < n → 0 ≤ f s) : 0 ≤ sumR n f := by
  have := sumR_le (n := n) (f := fun _ => 0) h
  rw [sumR_zero (fun _ _ => rfl)] at this
  exact this
theorem sumR_mul (n : Nat) (z : Int) (f : Nat → Int) : sumR n (fun s => z * f s) = z * sumR n f := by
  induction n with
  | zero => simp [sumR]
  | succ n ih => rw [sumR_succ, sumR_succ, ih, Int.mul_add]
theorem sumR_add (n : Nat) (f g : Nat → Int) : sumR n (fun s => f s + g s) = sumR n f + sumR n g := by
  induction n with
  | zero => rfl
  | succ n ih => rw [sumR_succ, sumR_succ, sumR_succ, ih]; omega
/-- One summand changed. -/
theorem sumR_upd {n i : Nat} (hi : i < n) {f g : Nat → Int} (h : ∀ s, s ≠ i → g s = f s) : sumR n g = sumR n f + (g i - f i) := by
  induction n with
  | zero => omega
  | succ n ih =>
    rw [sumR_succ, sumR_succ]
    by_cases e : i = n
    · subst e
      rw [sumR_congr (f := g) (g := f) (fun s hs => h s (by omega))]
      omega
    · rw [ih (by omega), h n (fun e2 => e e2.symm)]
      omega
/-- Sums over the leaves are sums over the symbols. -/
theorem sum_prK (l : List Int) (g : Int × Int → Int) : ∀ k, ((prK l k).map g).sum = sumR k fun s => if 0 < l.getD s 0 then g ((s : Int), l.getD s 0) else 0
  | 0 => rfl
  | k + 1 => by
    rw [prK, List.map_append, List.sum_append, sum_prK l g k, sumR_succ]
    split <;> simp
theorem sum_lvT (l : List Int) (g : Int × Int → Int) : ((lvT l).map g).sum = sumR l.length fun s => if 0 < l.getD s 0 then g ((s : Int), l.getD s 0) else 0 := by
  rw [sum_perm ((lvT_perm l).map g), sum_prK]
theorem len_sumR (l : List Int) : ((lvT l).length : Int) = sumR l.length fun s => if 0 < l.getD s 0 then 1 else 0 := by
  rw [← sum_lvT l (fun _ => 1), sum_const]
  omega

/-- The length of symbol s. -/
def lenV (l : List Int) (L s : Nat) : Nat := lnV (lvT l) L s
theorem lenV_zero {l : List Int} (L : Nat) {s : Nat} (h : ¬ 0 < l.getD s 0) : lenV l L s = 0 := by
  refine lnV_zero L (by omega) (fun x hx e => ?_)
  obtain ⟨s', _, h1, h2, h3⟩ := lvT_mem hx
  have : s' = s := by omega
  subst this
  omega
section
variable {l : List Int} {L : Nat} (hL : 1 ≤ L) (hn : (lvT l).length ≤ 2 ^ L)
include hL hn
theorem lenV_le (s : Nat) : lenV l L s ≤ L := lnV_le (lvT_lvs l) hL hn s (by omega)
theorem lenV_pos {s : Nat} (hs : s < l.length) (h0 : 0 < l.getD s 0) : 1 ≤ lenV l L s := lnV_pos (lvT_lvs l) hL hn (lvT_at hs h0)
theorem lenV_kraft (h2 : 2 ≤ (lvT l).length) : (sumR l.length fun s => if 0 < l.getD s 0 then ((2 ^ (L - lenV l L s) : Nat) : Int) else 0) = ((2 ^ L : Nat) : Int) := by
  rw [← lnV_kraft (lvT_lvs l) hL hn h2, sum_lvT]
  rfl
theorem lenV_kraft_le : (sumR l.length fun s => if 0 < l.getD s 0 then ((2 ^ (L - lenV l L s) : Nat) : Int) else 0) ≤ ((2 ^ L : Nat) : Int) := by
  by_cases h2 : 2 ≤ (lvT l).length
  · exact Int.le_of_eq (lenV_kraft hL hn h2)
  · have h1 := sumR_le (n := l.length) (f := fun s => if 0 < l.getD s 0 then ((2 ^ (L - lenV l L s) : Nat) : Int) else 0) (g := fun s => ((2 ^ L : Nat) : Int) * (if 0 < l.getD s 0 then 1 else 0)) (fun s hs => by
      show (if 0 < l.getD s 0 then ((2 ^ (L - lenV l L s) : Nat) : Int) else 0) ≤ ((2 ^ L : Nat) : Int) * (if 0 < l.getD s 0 then 1 else 0)
      split
      · have : 2 ^ (L - lenV l L s) ≤ 2 ^ L := Nat.pow_le_pow_right (by omega) (by omega)
        omega
      · omega)
    rw [sumR_mul, ← len_sumR] at h1
    have : (lvT l).length = 0 ∨ (lvT l).length = 1 := by omega
    rcases this with e | e
    · rw [e] at h1
      omega
    · rw [e] at h1
      omega
/-- No lengths within the limit that satisfy Kraft's inequality cost less. -/
theorem lenV_best (hv : VT l) (f : Nat → Nat) (hf : ∀ s, s < l.length → 0 < l.getD s 0 → 1 ≤ f s ∧ f s ≤ L)
    (hk : (sumR l.length fun s => if 0 < l.getD s 0 then ((2 ^ (L - f s) : Nat) : Int) else 0) ≤ ((2 ^ L : Nat) : Int)) :
    (sumR l.length fun s => l.getD s 0 * ((lenV l L s : Nat) : Int)) ≤ sumR l.length fun s => l.getD s 0 * ((f s : Nat) : Int) := by
  have h1 := lnV_best (lvT_lvs l) (L := L) (fun z => f z.toNat) hL hn (fun x hx => by
    obtain ⟨s, h1, h2, h3, h4⟩ := lvT_mem hx
    rw [h2, Int.toNat_natCast]
    exact hf s h1 (by omega)) (by
    rw [sum_lvT]
    exact hk)
  rw [sum_lvT, sum_lvT] at h1
  have e : ∀ g : Nat → Nat, (sumR l.length fun s => if 0 < l.getD s 0 then l.getD s 0 * ((g s : Nat) : Int) else 0) = sumR l.length fun s => l.getD s 0 * ((g s : Nat) : Int) := by
    intro g
    apply sumR_congr
    intro s hs
    have := (hv.get s).1
    by_cases h0 : 0 < l.getD s 0
    · rw [if_pos h0]
    · rw [if_neg h0, show l.getD s 0 = 0 by omega, Int.zero_mul]
  rw [← e, ← e]
  exact h1
end
theorem ordL_len (l : List Int) : (ordL l).length = (lvT l).length := by rw [ordL, List.length_map]
theorem ordL_at (l : List Int) (i : Nat) (hi : i < (lvT l).length) : ∃ s : Nat, (ordL l).getD i 0 = s ∧ s < l.length ∧ 1 ≤ l.getD s 0 ∧ (lvT l)[i] = ((s : Int), l.getD s 0) := by
  obtain ⟨s, h1, h2, h3, h4⟩ := lvT_mem (List.getElem_mem hi)
  refine ⟨s, ?_, h1, by omega, Prod.ext h2 h3⟩
  rw [ordL, List.getD_eq_getElem?_getD, List.getElem?_map, List.getElem?_eq_getElem hi]
  exact h2
theorem ordL_ord (l : List Int) (i : Nat) (hi : i + 1 < (lvT l).length) (p s : Nat) (hp : (ordL l).getD i 0 = p) (hs : (ordL l).getD (i + 1) 0 = s) : l.getD p 0 < l.getD s 0 ∨ l.getD p 0 = l.getD s 0 ∧ p < s := by
  obtain ⟨p', e1, _, _, e2⟩ := ordL_at l i (by omega)
  obtain ⟨s', k1, _, _, k2⟩ := ordL_at l (i + 1) hi
  obtain rfl : p' = p := by omega
  obtain rfl : s' = s := by omega
  have hso := List.pairwise_iff_getElem.1 (lvT_sorted l) i (i + 1) (by omega) hi (Nat.lt_succ_self i)
  rw [e2, k2, rle_iff] at hso
  have hne : p' ≠ s' := fun e => by
    have hn := List.pairwise_iff_getElem.1 (lvT_lvs l).nodup i (i + 1) (by rw [List.length_map]; omega) (by rw [List.length_map]; exact hi) (Nat.lt_succ_self i)
    apply hn
    rw [List.getElem_map, List.getElem_map, e2, k2, e]
  simp only at hso
  omega
theorem ordL_mono {l : List Int} {L : Nat} (hL : 1 ≤ L) (hn : (lvT l).length ≤ 2 ^ L) (i : Nat) (hi : i + 1 < (lvT l).length) (p s : Nat) (hp : (ordL l).getD i 0 = p) (hs : (ordL l).getD (i + 1) 0 = s) : lenV l L s ≤ lenV l L p := by
  obtain ⟨p', e1, _, _, e2⟩ := ordL_at l i (by omega)
  obtain ⟨s', k1, _, _, k2⟩ := ordL_at l (i + 1) hi
  obtain rfl : p' = p := by omega
  obtain rfl : s' = s := by omega
  have := lnV_mono (lvT_lvs l) hL hn i (i + 1) (by omega) hi
  rw [e2, k2] at this
  exact this

/-! The laws. -/
/-- A greater limit never leads to a greater total. -/
theorem total_limit {l : List Int} (hv : VT l) {a b : Nat} (ha : 1 ≤ a) (hab : a ≤ b) (hn : (lvT l).length ≤ 2 ^ a) :
    (sumR l.length fun s => l.getD s 0 * ((lenV l b s : Nat) : Int)) ≤ sumR l.length fun s => l.getD s 0 * ((lenV l a s : Nat) : Int) := by
  have hp : 2 ^ b = 2 ^ (b - a) * 2 ^ a := by rw [← Nat.pow_add]; congr 1; omega
  have hb : 2 ^ a ≤ 2 ^ b := Nat.pow_le_pow_right (by omega) hab
  refine lenV_best (by omega) (Nat.le_trans hn hb) hv (fun s => lenV l a s) (fun s hs h0 => ⟨lenV_pos ha hn hs h0, Nat.le_trans (lenV_le ha hn s) hab⟩) ?_
  have h1 := lenV_kraft_le ha hn
  have e : (sumR l.length fun s => if 0 < l.getD s 0 then ((2 ^ (b - lenV l a s) : Nat) : Int) else 0) = ((2 ^ (b - a) : Nat) : Int) * sumR l.length fun s => if 0 < l.getD s 0 then ((2 ^ (a - lenV l a s) : Nat) : Int) else 0 := by
    rw [← sumR_mul]
    apply sumR_congr
    intro s _
    have := lenV_le ha hn s
    by_cases h0 : 0 < l.getD s 0
    · simp only [if_pos h0]
      rw [← Int.natCast_mul, ← Nat.pow_add]
      congr 2
      omega
    · simp only [if_neg h0, Int.mul_zero]
  rw [e, hp, Int.natCast_mul]
  exact Int.mul_le_mul_of_nonneg_left h1 (Int.natCast_nonneg _)

/-- All weights doubled. -/
def dbl (x : Int × Int) : Int × Int := (x.1, 2 * x.2)
theorem pkR_dbl : ∀ l : List (Int × Int), pkR (l.map dbl) = (pkR l).map dbl
  | [] => rfl
  | [_] => rfl
  | a :: b :: r => by
    simp only [List.map_cons, pkR, pkR_dbl r, dbl, Int.mul_add]
theorem mgR_dbl (l p : List (Int × Int)) : mgR (l.map dbl) (p.map dbl) = (mgR l p).map dbl := by
  refine mgR_ind (Q := fun l p => mgR (l.map dbl) (p.map dbl) = (mgR l p).map dbl) (fun p => rfl) (fun l => by rw [mgR_nil', List.map_nil, mgR_nil']) (fun a l b p h ih => ?_) (fun a l b p h ih => ?_) l p
  · rw [mgR_le _ _ h, List.map_cons, List.map_cons, mgR_le _ _ (by show 2 * a.2 ≤ 2 * b.2; omega), List.map_cons, ← ih, List.map_cons]
  · rw [mgR_gt _ _ h, List.map_cons, List.map_cons, mgR_gt _ _ (by show ¬ 2 * a.2 ≤ 2 * b.2; omega), List.map_cons, ← ih, List.map_cons]
theorem rowR_dbl (lv : List (Int × Int)) : ∀ k, rowR (lv.map dbl) k = (rowR lv k).map dbl
  | 0 => rfl
  | k + 1 => by rw [rowR, rowR_dbl lv k, pkR_dbl, mgR_dbl]; rfl
theorem cntS_dbl (l : List (Int × Int)) (s : Int) : cntS (l.map dbl) s = cntS l s := by
  unfold cntS
  rw [List.countP_map]
  rfl
theorem pkN_dbl (l : List (Int × Int)) : pkN (l.map dbl) = pkN l := by
  unfold pkN
  rw [List.countP_map]
  rfl
theorem lnC_dbl (lv : List (Int × Int)) (s : Int) : ∀ k m, lnC (lv.map dbl) k m s = lnC lv k m s
  | 0, m => by rw [lnC, lnC, rowR_dbl, ← List.map_take, cntS_dbl]
  | k + 1, m => by rw [lnC, lnC, rowR_dbl, ← List.map_take, cntS_dbl, pkN_dbl, lnC_dbl lv s k]
theorem lnV_dbl (lv : List (Int × Int)) (L : Nat) (s : Int) : lnV (lv.map dbl) L s = lnV lv L s := by
  unfold lnV
  rw [List.length_map, cntS_dbl, lnC_dbl]
theorem insR_dbl (p : Int × Int) : ∀ l, insR (dbl p) (l.map dbl) = (insR p l).map dbl
  | [] => rfl
  | q :: l => by
    have e : rlt (dbl q) (dbl p) = rlt q p := by
      rw [Bool.eq_iff_iff, rlt_iff, rlt_iff]
      simp only [dbl]
      omega
    simp only [List.map_cons, insR, e]
    split
    · rw [List.map_cons, insR_dbl p l]
    · rfl
theorem sortR_dbl : ∀ l, sortR (l.map dbl) = (sortR l).map dbl
  | [] => rfl
  | p :: l => by rw [List.map_cons, sortR, sortR_dbl l, insR_dbl]; rfl
theorem prK_dbl {l m : List Int} (h : ∀ s : Nat, m.getD s 0 = 2 * l.getD s 0) : ∀ k, prK m k = (prK l k).map dbl
  | 0 => rfl
  | k + 1 => by
    have := h k
    rw [prK, prK, prK_dbl h k, List.map_append, this]
    by_cases h0 : 0 < l.getD k 0
    · rw [if_pos h0, if_pos (by omega)]
      rfl
    · rw [if_neg h0, if_neg (by omega)]
      rfl
theorem lvT_dbl {l m : List Int} (hlm : m.length = l.length) (h : ∀ s : Nat, m.getD s 0 = 2 * l.getD s 0) : lvT m = (lvT l).map dbl := by rw [lvT, prK_dbl h, sortR_dbl, hlm]; rfl
theorem lenV_dbl {l m : List Int} (hlm : m.length = l.length) (h : ∀ s : Nat, m.getD s 0 = 2 * l.getD s 0) (L s : Nat) : lenV m L s = lenV l L s := by
  unfold lenV
  rw [lvT_dbl hlm h, lnV_dbl]

/-- Two numbers change places. -/
def swp2 (i k s : Nat) : Nat := if s = i then k else if s = k then i else s
theorem sumR_swap {n i k : Nat} (hi : i < n) (hk : k < n) (f : Nat → Int) : sumR n (fun s => f (swp2 i k s)) = sumR n f := by
  by_cases e : i = k
  · subst e
    apply sumR_congr
    intro s _
    unfold swp2
    split
    · subst_vars; rfl
    · rfl
  · have h1 := sumR_upd hi (f := f) (g := fun s => if s = i then f k else f s) (fun s hs => if_neg hs)
    have h2 := sumR_upd hk (f := fun s => if s = i then f k else f s) (g := fun s => f (swp2 i k s)) (fun s hs => by
      show f (swp2 i k s) = if s = i then f k else f s
      unfold swp2
      by_cases h3 : s = i
      · rw [if_pos h3, if_pos h3]
      · rw [if_neg h3, if_neg h3, if_neg hs])
    have h3 : swp2 i k k = i := by unfold swp2; rw [if_neg (fun e2 => e e2.symm), if_pos rfl]
    have h4 : (if i = i then f k else f i) = f k := if_pos rfl
    have h5 : (if k = i then f k else f k) = f k := if_neg (fun e2 => e e2.symm)
    rw [h3, h5] at h2
    rw [h4] at h1
    rw [h2, h1]
    omega
theorem total_swap_le {l m : List Int} {i k : Nat} (hlm : m.length = l.length) (hi : i < l.length) (hk : k < l.length) (hm : ∀ s : Nat, m.getD s 0 = l.getD (swp2 i k s) 0) (hvm : VT m) {L : Nat} (hL : 1 ≤ L) (hn : (lvT l).length ≤ 2 ^ L) (hnm : (lvT m).length = (lvT l).length) :
    (sumR l.length fun s => m.getD s 0 * ((lenV m L s : Nat) : Int)) ≤ sumR l.length fun s => l.getD s 0 * ((lenV l L s : Nat) : Int) := by
  have h1 := lenV_best hL (by rw [hnm]; exact hn) hvm (fun s => lenV l L (swp2 i k s)) (fun s hs h0 => ?_) ?_
  · rw [hlm] at h1
    refine Int.le_trans h1 (Int.le_of_eq ?_)
    rw [← sumR_swap hi hk (fun s => l.getD s 0 * ((lenV l L s : Nat) : Int))]
    apply sumR_congr
    intro s _
    rw [hm s]
  · refine ⟨lenV_pos hL hn ?_ (by rw [← hm s]; exact h0), lenV_le hL hn _⟩
    unfold swp2
    split
    · exact hk
    · split
      · exact hi
      · exact hlm ▸ hs
  · rw [hlm]
    refine Int.le_trans (Int.le_of_eq ?_) (lenV_kraft_le hL hn)
    rw [← sumR_swap hi hk (fun s => if 0 < l.getD s 0 then ((2 ^ (L - lenV l L s) : Nat) : Int) else 0)]
    apply sumR_congr
    intro s _
    rw [hm s]
theorem lvT_swap_len {l m : List Int} {i k : Nat} (hlm : m.length = l.length) (hi : i < l.length) (hk : k < l.length) (hm : ∀ s : Nat, m.getD s 0 = l.getD (swp2 i k s) 0) : (lvT m).length = (lvT l).length := by
  have h1 := len_sumR m
  have h2 := len_sumR l
  rw [hlm] at h1
  rw [← sumR_swap hi hk (fun s => if 0 < l.getD s 0 then 1 else 0)] at h2
  have e : (sumR l.length fun s => if 0 < m.getD s 0 then (1 : Int) else 0) = sumR l.length fun s => if 0 < l.getD (swp2 i k s) 0 then (1 : Int) else 0 := by
    apply sumR_congr
    intro s _
    rw [hm s]
  rw [e] at h1
  omega
/-- Exchanging two counts does not change the total. -/
theorem total_swap {l m : List Int} {i k : Nat} (hlm : m.length = l.length) (hi : i < l.length) (hk : k < l.length) (hm : ∀ s : Nat, m.getD s 0 = l.getD (swp2 i k s) 0) (hv : VT l) (hvm : VT m) {L : Nat} (hL : 1 ≤ L) (hn : (lvT l).length ≤ 2 ^ L) :
    (sumR l.length fun s => m.getD s 0 * ((lenV m L s : Nat) : Int)) = sumR l.length fun s => l.getD s 0 * ((lenV l L s : Nat) : Int) := by
  have hnm := lvT_swap_len hlm hi hk hm
  have hl : ∀ s : Nat, l.getD s 0 = m.getD (swp2 i k s) 0 := fun s => by
    rw [hm]
    congr 1
    unfold swp2
    by_cases h1 : s = i
    · subst h1
      rw [if_pos rfl]
      by_cases h2 : k = s
      · rw [if_pos h2, h2]
      · rw [if_neg h2, if_pos rfl]
    · rw [if_neg h1]
      by_cases h2 : s = k
      · subst h2
        rw [if_pos rfl, if_pos rfl]
      · rw [if_neg h2, if_neg h1, if_neg h2]
  have h1 := total_swap_le hlm hi hk hm hvm hL hn hnm
  have h2 := total_swap_le hlm.symm (hlm ▸ hi) (hlm ▸ hk) hl hv hL (by rw [hnm]; exact hn) hnm.symm
  rw [hlm] at h2
  omega
/-- One symbol more does not decrease the total. -/
theorem total_more {l m : List Int} (hlm : m.length = l.length) (hm : ∀ s : Nat, m.getD s 0 = l.getD s 0 ∨ l.getD s 0 = 0) (hv : VT l) (hvm : VT m) {L : Nat} (hL : 1 ≤ L) (hn : (lvT l).length ≤ 2 ^ L) (hnm : (lvT m).length ≤ 2 ^ L) :
    (sumR l.length fun s => l.getD s 0 * ((lenV l L s : Nat) : Int)) ≤ sumR l.length fun s => m.getD s 0 * ((lenV m L s : Nat) : Int) := by
  have h1 := lenV_best hL hn hv (fun s => lenV m L s) (fun s hs h0 => ?_) ?_
  · refine Int.le_trans h1 (sumR_le fun s _ => ?_)
    refine Int.mul_le_mul_of_nonneg_right ?_ (Int.natCast_nonneg _)
    rcases hm s with e | e
    · rw [e]; exact Int.le_refl _
    · rw [e]; exact (hvm.get s).1
  · refine ⟨lenV_pos hL hnm (hlm ▸ hs) ?_, lenV_le hL hnm s⟩
    rcases hm s with e | e
    · rw [e]; exact h0
    · omega
  · have h3 := lenV_kraft_le hL hnm
    rw [hlm] at h3
    refine Int.le_trans (sumR_le fun s _ => ?_) h3
    show (if 0 < l.getD s 0 then ((2 ^ (L - lenV m L s) : Nat) : Int) else 0) ≤ if 0 < m.getD s 0 then ((2 ^ (L - lenV m L s) : Nat) : Int) else 0
    split
    · rw [if_pos]
      · exact Int.le_refl _
      · rcases hm s with e | e <;> omega
    · split
      · exact Int.natCast_nonneg _
      · exact Int.le_refl _
/-- Kraft's sum in units of 2^-15. -/
theorem lenV_sum {l : List Int} (hv : VT l) {L : Nat} (hL : 1 ≤ L) (hL15 : L ≤ 15) (hn : (lvT l).length ≤ 2 ^ L) (h2 : 2 ≤ (lvT l).length) :
    (sumR l.length fun s => if 0 < lenV l L s then ((2 ^ (15 - lenV l L s) : Nat) : Int) else 0) = 32768 := by
  have h1 := lenV_kraft hL hn h2
  have e : (sumR l.length fun s => if 0 < lenV l L s then ((2 ^ (15 - lenV l L s) : Nat) : Int) else 0) = ((2 ^ (15 - L) : Nat) : Int) * sumR l.length fun s => if 0 < l.getD s 0 then ((2 ^ (L - lenV l L s) : Nat) : Int) else 0 := by
    rw [← sumR_mul]
    apply sumR_congr
    intro s hs
    have h3 := lenV_le hL hn s
    by_cases h0 : 0 < l.getD s 0
    · have h4 := lenV_pos hL hn hs h0
      rw [if_pos h0, if_pos (by omega), ← Int.natCast_mul, ← Nat.pow_add]
      congr 2
      omega
    · rw [if_neg h0, lenV_zero L h0, if_neg (by omega), Int.mul_zero]
  rw [e, h1, ← Int.natCast_mul, ← Nat.pow_add, show 15 - L + L = 15 by omega]
  rfl
theorem lenV_sum1 {l : List Int} {L : Nat} (h1 : (lvT l).length = 1) :
    (sumR l.length fun s => if 0 < lenV l L s then ((2 ^ (15 - lenV l L s) : Nat) : Int) else 0) = 16384 := by
  have e : (sumR l.length fun s => if 0 < lenV l L s then ((2 ^ (15 - lenV l L s) : Nat) : Int) else 0) = sumR l.length fun s => 16384 * if 0 < l.getD s 0 then 1 else 0 := by
    apply sumR_congr
    intro s hs
    by_cases h0 : 0 < l.getD s 0
    · have e1 : lenV l L s = 1 := by
        unfold lenV lnV
        rw [if_pos (by omega)]
        exact cntS_mem (lvT_lvs l).nodup (lvT_at hs h0)
      rw [e1, if_pos h0]
      rfl
    · rw [if_neg h0, lenV_zero L h0]
      rfl
  rw [e, sumR_mul, ← len_sumR, h1]
  rfl
theorem lenV_count {l : List Int} {L : Nat} (hL : 1 ≤ L) (hn : (lvT l).length ≤ 2 ^ L) : (sumR l.length fun s => if 0 < lenV l L s then 1 else 0) = ((lvT l).length : Int) := by
  rw [len_sumR]
  apply sumR_congr
  intro s hs
  by_cases h0 : 0 < l.getD s 0
  · rw [if_pos h0, if_pos (show 0 < lenV l L s from lenV_pos hL hn hs h0)]
  · rw [if_neg h0, lenV_zero L h0]
    rfl
end Go.Proofs.Ytemjlmeakkknbaa
