/- The reference of package-merge (mathematics): insertion, rows with their packages' parts, what is counted. -/
import Derived.Test.YtemjlmeakkknbaaPmT
set_option linter.unusedVariables false
set_option linter.unusedSimpArgs false
namespace Go.Proofs.Ytemjlmeakkknbaa

/-! Order: each symbol is put behind those that are not heavier. -/
theorem sort_put {l : List (Int × Int)} {x : Int × Int} {j : Nat} (hs : ∀ a ∈ l, a.1 < x.1) (h1 : ∀ a ∈ (sortR l).take j, a.2 ≤ x.2) (h2 : ∀ b ∈ (sortR l).drop j, x.2 < b.2) :
    sortR (l ++ [x]) = (sortR l).take j ++ x :: (sortR l).drop j := by
  have hso := sortR_sorted l
  have hmem : ∀ a, a ∈ sortR l → a.1 < x.1 := fun a ha => hs a ((sortR_perm l).mem_iff.1 ha)
  refine sort_unique (sortR_sorted _) ?_ ?_
  · rw [List.pairwise_append]
    refine ⟨List.Pairwise.sublist (List.take_sublist _ _) hso, ?_, ?_⟩
    · rw [List.pairwise_cons]
      refine ⟨fun b hb => ?_, List.Pairwise.sublist (List.drop_sublist _ _) hso⟩
      rw [rle_iff]
      exact .inl (h2 b hb)
    · intro a ha b hb
      rcases List.mem_cons.1 hb with rfl | hb
      · rw [rle_iff]
        have := h1 a ha
        have := hmem a (List.mem_of_mem_take ha)
        omega
      · rw [rle_iff]
        have := h1 a ha
        have := h2 b hb
        omega
  · refine (sortR_perm _).trans ?_
    refine (List.perm_append_comm (l₁ := l) (l₂ := [x])).trans ?_
    refine List.Perm.trans ?_ (List.perm_middle (l₁ := (sortR l).take j) (a := x) (l₂ := (sortR l).drop j)).symm
    rw [List.take_append_drop]
    exact (sortR_perm l).symm.cons x
/-- Where the walk from the end stops. -/
theorem stop_at {l : List (Int × Int)} (h : Srt l) {x : Int} {j : Nat} (hj : j ≤ l.length) (hd : ∀ b ∈ l.drop j, x < b.2) (hs : j = 0 ∨ (l.getD (j - 1) (0, 0)).2 ≤ x) : ∀ a ∈ l.take j, a.2 ≤ x := by
  intro a ha
  rcases hs with rfl | hs
  · simp at ha
  · obtain ⟨i, hi, rfl⟩ := List.mem_take_iff_getElem.1 ha
    have hi' : i < j ∧ i < l.length := by omega
    rw [List.getD_eq_getElem?_getD, List.getElem?_eq_getElem (by omega), Option.getD_some] at hs
    by_cases e : i = j - 1
    · subst e
      exact hs
    · have := List.pairwise_iff_getElem.1 h i (j - 1) (by omega) (by omega) (by omega)
      omega
theorem drop_step {l : List (Int × Int)} {x : Int} {j : Nat} (hj : j < l.length) (hd : ∀ b ∈ l.drop (j + 1), x < b.2) (hx : x < (l.getD j (0, 0)).2) : ∀ b ∈ l.drop j, x < b.2 := by
  intro b hb
  rw [List.drop_eq_getElem_cons hj] at hb
  rcases List.mem_cons.1 hb with rfl | hb
  · rw [List.getD_eq_getElem?_getD, List.getElem?_eq_getElem hj] at hx
    exact hx
  · exact hd b hb

/-! Rows: packages are put one after the other. -/
def insW (x : Int × Int) : List (Int × Int) → List (Int × Int)
  | [] => [x]
  | b :: r => if b.2 ≤ x.2 then b :: insW x r else x :: b :: r
theorem insW_split {x : Int × Int} : ∀ (r : List (Int × Int)) (j : Nat), (∀ a ∈ r.take j, a.2 ≤ x.2) → (∀ b ∈ r.drop j, x.2 < b.2) → insW x r = r.take j ++ x :: r.drop j
  | [], j, _, _ => by simp [insW]
  | b :: r, 0, _, h2 => by
    have := h2 b (by simp)
    rw [insW, if_neg (by omega)]
    rfl
  | b :: r, j + 1, h1, h2 => by
    have h3 := h1 b (by simp)
    rw [insW, if_pos h3, insW_split r j (fun a ha => h1 a (by rw [List.take_succ_cons]; exact List.mem_cons_of_mem _ ha)) h2]
    rfl
theorem mgR_put {x : Int × Int} (l p : List (Int × Int)) : (∀ b ∈ p, b.2 ≤ x.2) → insW x (mgR l p) = mgR l (p ++ [x]) := by
  refine mgR_ind (Q := fun l p => (∀ b ∈ p, b.2 ≤ x.2) → insW x (mgR l p) = mgR l (p ++ [x])) ?_ ?_ ?_ ?_ l p
  · intro p h
    rw [mgR_nil, mgR_nil]
    induction p with
    | nil => rfl
    | cons b p ih =>
      rw [insW, if_pos (h b (by simp)), ih (fun c hc => h c (by simp [hc])), List.cons_append]
  · intro l _
    rw [mgR_nil', List.nil_append]
    induction l with
    | nil => rfl
    | cons a l ih =>
      by_cases h : a.2 ≤ x.2
      · rw [insW, if_pos h, mgR_le _ _ h, ih]
      · rw [insW, if_neg h, mgR_gt _ _ h, mgR_nil']
  · intro a l b p h ih hp
    have h3 : a.2 ≤ x.2 := Int.le_trans h (hp b (by simp))
    rw [mgR_le _ _ h, insW, if_pos h3, ih hp, List.cons_append, mgR_le _ _ h]
  · intro a l b p h ih hp
    rw [mgR_gt _ _ h, insW, if_pos (hp b (by simp)), ih (fun c hc => hp c (by simp [hc])), List.cons_append, mgR_gt _ _ h]
/-- A thing: an item and the two parts of a package. -/
abbrev Th := (Int × Int) × (Int × Int)
/-- The things of a row: packages are numbered as they come. -/
def tagL : Nat → List (Int × Int) → List Th
  | _, [] => []
  | p, x :: l => if 0 ≤ x.1 then (x, (0, 0)) :: tagL p l else (x, (2 * (p : Int), 2 * (p : Int) + 1)) :: tagL (p + 1) l
theorem tagL_cons (p : Nat) (x : Int × Int) (l : List (Int × Int)) : tagL p (x :: l) = if 0 ≤ x.1 then (x, (0, 0)) :: tagL p l else (x, (2 * (p : Int), 2 * (p : Int) + 1)) :: tagL (p + 1) l := rfl
theorem tagL_length : ∀ (p : Nat) (l : List (Int × Int)), (tagL p l).length = l.length
  | _, [] => rfl
  | p, x :: l => by
    unfold tagL
    split <;> simp [tagL_length]
theorem tagL_fst : ∀ (p : Nat) (l : List (Int × Int)), (tagL p l).map (·.1) = l
  | _, [] => rfl
  | p, x :: l => by
    unfold tagL
    split <;> simp [tagL_fst]
theorem tagL_append : ∀ (p : Nat) (a b : List (Int × Int)), tagL p (a ++ b) = tagL p a ++ tagL (p + pkN a) b
  | p, [], b => by simp [tagL, pkN]
  | p, x :: a, b => by
    have e : pkN (x :: a) = pkN a + if 0 ≤ x.1 then 0 else 1 := by
      unfold pkN
      rw [List.countP_cons]
      by_cases h : 0 ≤ x.1 <;> simp [h]
    rw [List.cons_append, tagL_cons, tagL_cons]
    by_cases h : 0 ≤ x.1
    · rw [if_pos h, if_pos h, tagL_append p a b, e, if_pos h, Nat.add_zero, List.cons_append]
    · rw [if_neg h, if_neg h, tagL_append (p + 1) a b, e, if_neg h, List.cons_append, show p + 1 + pkN a = p + (pkN a + 1) by omega]
theorem tagL_leaves (p : Nat) : ∀ {l : List (Int × Int)}, (∀ x ∈ l, 0 ≤ x.1) → tagL p l = l.map fun x => (x, (0, 0))
  | [], _ => rfl
  | x :: l, h => by
    unfold tagL
    rw [if_pos (h x (by simp)), tagL_leaves p (fun y hy => h y (by simp [hy]))]
    rfl
theorem tagL_take (p : Nat) : ∀ (l : List (Int × Int)) (j : Nat), (tagL p l).take j = tagL p (l.take j) := by
  intro l j
  have h := tagL_append p (l.take j) (l.drop j)
  rw [List.take_append_drop] at h
  rw [h]
  by_cases hj : j ≤ l.length
  · rw [List.take_append_of_le_length (by rw [tagL_length, List.length_take]; omega), List.take_of_length_le (by rw [tagL_length, List.length_take]; omega)]
  · rw [List.take_of_length_le (by rw [List.length_append, tagL_length, tagL_length, List.length_take, List.length_drop]; omega), List.drop_of_length_le (by omega)]
    simp [tagL]
theorem pkN_zero {l : List (Int × Int)} (h : ∀ x ∈ l, 0 ≤ x.1) : pkN l = 0 := by
  have h1 := lf_pk l
  rw [lfN_all h] at h1
  omega
/-- One package put into a row. -/
theorem tag_put {lv p : List (Int × Int)} (hlv : ∀ y ∈ lv, 0 ≤ y.1) (hp : ∀ b ∈ p, b.1 = -1) {x : Int × Int} (hx : x.1 = -1) (hxp : ∀ b ∈ p, b.2 ≤ x.2) {j : Nat}
    (h1 : ∀ a ∈ (mgR lv p).take j, a.2 ≤ x.2) (h2 : ∀ b ∈ (mgR lv p).drop j, x.2 < b.2) :
    tagL 0 (mgR lv (p ++ [x])) = (tagL 0 (mgR lv p)).take j ++ (x, (2 * (p.length : Int), 2 * (p.length : Int) + 1)) :: (tagL 0 (mgR lv p)).drop j := by
  have hB : ∀ b ∈ (mgR lv p).drop j, 0 ≤ b.1 := by
    intro b hb
    rcases List.mem_append.1 ((mgR_perm _ _).mem_iff.1 (List.mem_of_mem_drop hb)) with h | h
    · exact hlv b h
    · have := hxp b h
      have := h2 b hb
      omega
  have hN : pkN ((mgR lv p).take j) = p.length := by
    have e1 : pkN (mgR lv p) = pkN ((mgR lv p).take j) + pkN ((mgR lv p).drop j) := by rw [← pkN_append, List.take_append_drop]
    have e2 : pkN (mgR lv p) = p.length := by
      rw [pkN_perm (mgR_perm lv p), pkN_append, pkN_zero hlv]
      have h3 := lf_pk p
      rw [lfN_none hp] at h3
      omega
    rw [pkN_zero hB] at e1
    omega
  have hd : (tagL 0 (mgR lv p)).drop j = ((mgR lv p).drop j).map fun y => (y, (0, 0)) := by
    have e := tagL_append 0 ((mgR lv p).take j) ((mgR lv p).drop j)
    rw [List.take_append_drop, tagL_leaves _ hB] at e
    by_cases hj : j ≤ (mgR lv p).length
    · rw [e, List.drop_append_of_le_length (by rw [tagL_length, List.length_take]; omega), List.drop_of_length_le (by rw [tagL_length, List.length_take]; omega)]
      rfl
    · rw [List.drop_of_length_le (by rw [tagL_length]; omega), List.drop_of_length_le (by omega)]
      rfl
  rw [← mgR_put lv p hxp, insW_split _ j h1 h2, tagL_append, Nat.zero_add, hN, tagL_take, hd]
  congr 1
  unfold tagL
  rw [if_neg (by omega), tagL_leaves _ hB]

/-! What is counted. -/
/-- The leaves of item i of row k, symbol s. -/
def cT (lv : List (Int × Int)) : Nat → Nat → Int → Nat
  | 0, i, s => if ((rowR lv 0).getD i (-1, 0)).1 = s then 1 else 0
  | k + 1, i, s => if 0 ≤ ((rowR lv (k + 1)).getD i (-1, 0)).1 then (if ((rowR lv (k + 1)).getD i (-1, 0)).1 = s then 1 else 0)
      else cT lv k (2 * pkN ((rowR lv (k + 1)).take i)) s + cT lv k (2 * pkN ((rowR lv (k + 1)).take i) + 1) s
def sumT (lv : List (Int × Int)) (k : Nat) : Nat → Int → Nat
  | 0, _ => 0
  | m + 1, s => sumT lv k m s + cT lv k m s
theorem take_succ_getD {l : List (Int × Int)} {m : Nat} (hm : m < l.length) (d : Int × Int) : l.take (m + 1) = l.take m ++ [l.getD m d] := by
  rw [List.take_add_one, List.getElem?_eq_getElem hm, List.getD_eq_getElem?_getD, List.getElem?_eq_getElem hm]
  rfl
theorem cntS_snoc (l : List (Int × Int)) (x : Int × Int) (s : Int) : cntS (l ++ [x]) s = cntS l s + if x.1 = s then 1 else 0 := by
  rw [cntS_append, cntS_cons]
  simp [cntS]
theorem pkN_snoc (l : List (Int × Int)) (x : Int × Int) : pkN (l ++ [x]) = pkN l + if 0 ≤ x.1 then 0 else 1 := by
  rw [pkN_append]
  unfold pkN
  rw [List.countP_cons, List.countP_nil]
  by_cases h : 0 ≤ x.1 <;> simp [h]
theorem sumT_is {lv : List (Int × Int)} (hlv : ∀ y ∈ lv, 0 ≤ y.1) {s : Int} (hs : 0 ≤ s) : ∀ k m, m ≤ (rowR lv k).length → sumT lv k m s = lnC lv k m s
  | 0, m, hm => by
    induction m with
    | zero => simp [sumT, lnC, cntS]
    | succ m ih =>
      have hm' : m < (rowR lv 0).length := by omega
      rw [sumT, ih (by omega), lnC, lnC, take_succ_getD hm' (-1, 0), cntS_snoc]
      rfl
  | k + 1, m, hm => by
    have key : ∀ m, m ≤ (rowR lv (k + 1)).length → sumT lv (k + 1) m s = cntS ((rowR lv (k + 1)).take m) s + sumT lv k (2 * pkN ((rowR lv (k + 1)).take m)) s := by
      intro m
      induction m with
      | zero => intro _; simp [sumT, cntS, pkN]
      | succ m ih =>
        intro hm
        have hm' : m < (rowR lv (k + 1)).length := by omega
        rw [sumT, ih (by omega), take_succ_getD hm' (-1, 0), cntS_snoc, pkN_snoc, cT]
        by_cases h : 0 ≤ ((rowR lv (k + 1)).getD m (-1, 0)).1
        · rw [if_pos h, if_pos h]
          simp only [Nat.add_zero]
          omega
        · rw [if_neg h, if_neg h, if_neg (by omega), show 2 * (pkN ((rowR lv (k + 1)).take m) + 1) = 2 * pkN ((rowR lv (k + 1)).take m) + 1 + 1 by omega, sumT, sumT]
          omega
    have hroom : 2 * pkN ((rowR lv (k + 1)).take m) ≤ (rowR lv k).length := by
      have h1 : pkN ((rowR lv (k + 1)).take m) ≤ pkN (rowR lv (k + 1)) := by
        have := pkN_append ((rowR lv (k + 1)).take m) ((rowR lv (k + 1)).drop m)
        rw [List.take_append_drop] at this
        omega
      have h2 : pkN (rowR lv (k + 1)) = (rowR lv k).length / 2 := by
        rw [rowR, pkN_perm (mgR_perm _ _), pkN_append, pkN_zero hlv, Nat.zero_add, ← pkR_length]
        have h3 := lf_pk (pkR (rowR lv k))
        rw [lfN_none (pkR_sym _)] at h3
        omega
      omega
    rw [key m hm, sumT_is hlv hs k _ hroom, lnC]
theorem cT_le {lv : List (Int × Int)} (k : Nat) (s : Int) : ∀ {i m : Nat}, i < m → cT lv k i s ≤ sumT lv k m s := by
  intro i m h
  induction m with
  | zero => omega
  | succ m ih =>
    rw [sumT]
    by_cases e : i = m
    · subst e
      omega
    · have := ih (by omega)
      omega
/-- Which parts a package has. -/
theorem tagL_at (p : Nat) : ∀ (l : List (Int × Int)) (i : Nat) (hi : i < l.length), (tagL p l)[i]? = some (l[i], if 0 ≤ l[i].1 then (0, 0) else (2 * ((p + pkN (l.take i) : Nat) : Int), 2 * ((p + pkN (l.take i) : Nat) : Int) + 1))
  | [], i, hi => by simp at hi
  | x :: l, 0, _ => by
    unfold tagL
    by_cases h : 0 ≤ x.1 <;> simp [h, pkN]
  | x :: l, i + 1, hi => by
    have e : pkN ((x :: l).take (i + 1)) = pkN (l.take i) + if 0 ≤ x.1 then 0 else 1 := by
      rw [List.take_succ_cons]
      unfold pkN
      rw [List.countP_cons]
      by_cases h : 0 ≤ x.1 <;> simp [h]
    have hi' : i < l.length := by simpa using hi
    rw [tagL_cons]
    by_cases h : 0 ≤ x.1
    · rw [if_pos h] at e ⊢
      rw [e, List.getElem?_cons_succ, tagL_at p l i hi']
      rfl
    · rw [if_neg h] at e ⊢
      rw [e, List.getElem?_cons_succ, tagL_at (p + 1) l i hi', show p + 1 + pkN (l.take i) = p + (pkN (l.take i) + 1) by omega]
      rfl
end Go.Proofs.Ytemjlmeakkknbaa
