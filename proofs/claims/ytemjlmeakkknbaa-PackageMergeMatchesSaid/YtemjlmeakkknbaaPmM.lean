/- Mathematics of package-merge: rows of leaves and packages, which of them are taken, that the lengths are optimal (imports nothing). -/
set_option linter.unusedVariables false
set_option linter.unusedSimpArgs false
namespace Go.Proofs.Ytemjlmeakkknbaa

/-! An item: (symbol, weight); a package's symbol is -1. -/
def wS (l : List (Int × Int)) : Int := (l.map (·.2)).sum
theorem wS_nil : wS [] = 0 := rfl
theorem wS_cons (a : Int × Int) (l : List (Int × Int)) : wS (a :: l) = a.2 + wS l := by simp [wS]
theorem wS_append (a b : List (Int × Int)) : wS (a ++ b) = wS a + wS b := by simp [wS, List.sum_append]
theorem sum_perm {a b : List Int} (h : a.Perm b) : a.sum = b.sum := by
  induction h with
  | nil => rfl
  | cons x _ ih => simp only [List.sum_cons, ih]
  | swap x y l => simp only [List.sum_cons]; omega
  | trans _ _ h1 h2 => exact h1.trans h2
theorem wS_perm {a b : List (Int × Int)} (h : a.Perm b) : wS a = wS b := sum_perm (h.map _)

/-- The items in pairs; a last one that is alone is dropped. -/
def pkR : List (Int × Int) → List (Int × Int)
  | a :: b :: r => (-1, a.2 + b.2) :: pkR r
  | [] => []
  | [_] => []
def mgIn (a : Int × Int) (l : List (Int × Int)) (f : List (Int × Int) → List (Int × Int)) : List (Int × Int) → List (Int × Int)
  | [] => a :: l
  | b :: p => if a.2 ≤ b.2 then a :: f (b :: p) else b :: mgIn a l f p
/-- Two rows merged; of equal weight the first one's items come first. -/
def mgR : List (Int × Int) → List (Int × Int) → List (Int × Int)
  | [], p => p
  | a :: l, p => mgIn a l (mgR l) p
theorem mgR_nil (p : List (Int × Int)) : mgR [] p = p := rfl
theorem mgR_nil' (l : List (Int × Int)) : mgR l [] = l := by cases l <;> rfl
theorem mgR_le {a b : Int × Int} (l p : List (Int × Int)) (h : a.2 ≤ b.2) : mgR (a :: l) (b :: p) = a :: mgR l (b :: p) := by simp [mgR, mgIn, h]
theorem mgR_gt {a b : Int × Int} (l p : List (Int × Int)) (h : ¬ a.2 ≤ b.2) : mgR (a :: l) (b :: p) = b :: mgR (a :: l) p := by simp [mgR, mgIn, h]
/-- Row k + 1 of these leaves. -/
def rowR (lv : List (Int × Int)) : Nat → List (Int × Int)
  | 0 => lv
  | k + 1 => mgR lv (pkR (rowR lv k))

theorem pkR_length : ∀ l : List (Int × Int), (pkR l).length = l.length / 2
  | [] => rfl
  | [_] => by simp [pkR]
  | a :: b :: r => by simp only [pkR, List.length_cons, pkR_length r]; omega
/-- Rows are merged from these two. -/
theorem mgR_ind {Q : List (Int × Int) → List (Int × Int) → Prop} (h1 : ∀ p, Q [] p) (h2 : ∀ l, Q l [])
    (h3 : ∀ a l b p, a.2 ≤ b.2 → Q l (b :: p) → Q (a :: l) (b :: p)) (h4 : ∀ a l b p, ¬ a.2 ≤ b.2 → Q (a :: l) p → Q (a :: l) (b :: p)) : ∀ l p, Q l p := by
  intro l
  induction l with
  | nil => exact h1
  | cons a l ih =>
    intro p
    induction p with
    | nil => exact h2 _
    | cons b p ihp =>
      by_cases h : a.2 ≤ b.2
      · exact h3 a l b p h (ih _)
      · exact h4 a l b p h ihp
theorem mgR_perm (l p : List (Int × Int)) : (mgR l p).Perm (l ++ p) := by
  refine mgR_ind (Q := fun l p => (mgR l p).Perm (l ++ p)) (fun p => .refl _) (fun l => by rw [mgR_nil', List.append_nil]) (fun a l b p h ih => ?_) (fun a l b p h ih => ?_) l p
  · rw [mgR_le _ _ h]
    exact ih.cons a
  · rw [mgR_gt _ _ h]
    exact (ih.cons b).trans List.perm_middle.symm
theorem mgR_length (l p : List (Int × Int)) : (mgR l p).length = l.length + p.length := by rw [(mgR_perm l p).length_eq, List.length_append]

/-- Ordered by weight. -/
def Srt (l : List (Int × Int)) : Prop := l.Pairwise fun a b => a.2 ≤ b.2
/-- No weight below 0. -/
def Nng (l : List (Int × Int)) : Prop := ∀ x ∈ l, 0 ≤ x.2
theorem mgR_srt (l p : List (Int × Int)) : Srt l → Srt p → Srt (mgR l p) := by
  refine mgR_ind (Q := fun l p => Srt l → Srt p → Srt (mgR l p)) (fun p _ h => h) (fun l h _ => by rw [mgR_nil']; exact h) (fun a l b p h ih h1 h2 => ?_) (fun a l b p h ih h1 h2 => ?_) l p
  · rw [mgR_le _ _ h]
    obtain ⟨k1, k2⟩ := List.pairwise_cons.1 h1
    refine List.pairwise_cons.2 ⟨fun x hx => ?_, ih k2 h2⟩
    rcases List.mem_append.1 ((mgR_perm _ _).mem_iff.1 hx) with hx | hx
    · exact k1 x hx
    · rcases List.mem_cons.1 hx with rfl | hx
      · exact h
      · exact Int.le_trans h ((List.pairwise_cons.1 h2).1 x hx)
  · rw [mgR_gt _ _ h]
    obtain ⟨k1, k2⟩ := List.pairwise_cons.1 h2
    refine List.pairwise_cons.2 ⟨fun x hx => ?_, ih h1 k2⟩
    rcases List.mem_append.1 ((mgR_perm _ _).mem_iff.1 hx) with hx | hx
    · rcases List.mem_cons.1 hx with rfl | hx
      · omega
      · have := (List.pairwise_cons.1 h1).1 x hx
        omega
    · exact k1 x hx
theorem mgR_nng {l p : List (Int × Int)} (h1 : Nng l) (h2 : Nng p) : Nng (mgR l p) := fun x hx => by
  rcases List.mem_append.1 ((mgR_perm _ _).mem_iff.1 hx) with hx | hx
  · exact h1 x hx
  · exact h2 x hx
theorem pkR_nng : ∀ {l : List (Int × Int)}, Nng l → Nng (pkR l)
  | [], _ => fun x hx => by simp [pkR] at hx
  | [_], _ => fun x hx => by simp [pkR] at hx
  | a :: b :: r, h => fun x hx => by
    rw [pkR] at hx
    rcases List.mem_cons.1 hx with rfl | hx
    · have h1 := h a (by simp)
      have h2 := h b (by simp)
      show 0 ≤ a.2 + b.2
      omega
    · exact pkR_nng (l := r) (fun y hy => h y (by simp [hy])) x hx
theorem pkR_ge (m : Int) : ∀ (l : List (Int × Int)), (∀ x ∈ l, m ≤ x.2) → ∀ x ∈ pkR l, m + m ≤ x.2
  | [], _ => fun x hx => by simp [pkR] at hx
  | [_], _ => fun x hx => by simp [pkR] at hx
  | a :: b :: r, h => fun x hx => by
    rw [pkR] at hx
    rcases List.mem_cons.1 hx with rfl | hx
    · have h1 := h a (by simp)
      have h2 := h b (by simp)
      show m + m ≤ a.2 + b.2
      omega
    · exact pkR_ge m r (fun y hy => h y (by simp [hy])) x hx
theorem pkR_srt : ∀ {l : List (Int × Int)}, Srt l → Srt (pkR l)
  | [], _ => .nil
  | [_], _ => .nil
  | a :: b :: r, h => by
    obtain ⟨h1, h2⟩ := List.pairwise_cons.1 h
    obtain ⟨h3, h4⟩ := List.pairwise_cons.1 h2
    rw [pkR]
    refine List.pairwise_cons.2 ⟨fun x hx => ?_, pkR_srt h4⟩
    have h5 := pkR_ge b.2 r h3 x hx
    have h6 := h1 b (by simp)
    show a.2 + b.2 ≤ x.2
    omega
theorem rowR_srt {lv : List (Int × Int)} (h : Srt lv) : ∀ k, Srt (rowR lv k)
  | 0 => h
  | k + 1 => mgR_srt _ _ h (pkR_srt (rowR_srt h k))
theorem rowR_nng {lv : List (Int × Int)} (h : Nng lv) : ∀ k, Nng (rowR lv k)
  | 0 => h
  | k + 1 => mgR_nng h (pkR_nng (rowR_nng h k))
theorem pkR_sym : ∀ (l : List (Int × Int)), ∀ x ∈ pkR l, x.1 = -1
  | [] => fun x hx => by simp [pkR] at hx
  | [_] => fun x hx => by simp [pkR] at hx
  | a :: b :: r => fun x hx => by
    rw [pkR] at hx
    rcases List.mem_cons.1 hx with rfl | hx
    · rfl
    · exact pkR_sym r x hx

theorem wS_nng {l : List (Int × Int)} (h : Nng l) : 0 ≤ wS l := by
  induction l with
  | nil => exact Int.le_refl _
  | cons a l ih =>
    rw [wS_cons]
    have h1 := h a (by simp)
    have h2 := ih (fun x hx => h x (by simp [hx]))
    omega
theorem Nng.take {l : List (Int × Int)} (h : Nng l) (m : Nat) : Nng (l.take m) := fun x hx => h x (List.mem_of_mem_take hx)
theorem wS_take_mono {l : List (Int × Int)} (h : Nng l) {i j : Nat} (hij : i ≤ j) : wS (l.take i) ≤ wS (l.take j) := by
  induction l generalizing i j with
  | nil => simp
  | cons a l ih =>
    have ha := h a (by simp)
    have hl : Nng l := fun x hx => h x (by simp [hx])
    cases i with
    | zero =>
      rw [List.take_zero]
      exact wS_nng (h.take j)
    | succ i =>
      obtain ⟨j, rfl⟩ : ∃ j', j = j' + 1 := ⟨j - 1, by omega⟩
      rw [List.take_succ_cons, List.take_succ_cons, wS_cons, wS_cons]
      have := ih hl (show i ≤ j by omega)
      omega
/-- One item more weighs at least as much as the lightest. -/
theorem wS_take_succ {l : List (Int × Int)} {x : Int} (h : ∀ y ∈ l, x ≤ y.2) {j : Nat} (hj : j < l.length) : x + wS (l.take j) ≤ wS (l.take (j + 1)) := by
  rw [List.take_add_one, List.getElem?_eq_getElem hj, Option.toList_some, wS_append, wS_cons, wS_nil]
  have := h _ (List.getElem_mem hj)
  omega
theorem Srt.head {a : Int × Int} {l : List (Int × Int)} (h : Srt (a :: l)) : ∀ y ∈ a :: l, a.2 ≤ y.2 := fun y hy => by
  rcases List.mem_cons.1 hy with rfl | hy
  · exact Int.le_refl _
  · exact (List.pairwise_cons.1 h).1 y hy
/-- The first items of a merged row are the lightest. -/
theorem mgR_best (l p : List (Int × Int)) : Srt l → Srt p → ∀ i j, i ≤ l.length → j ≤ p.length → wS ((mgR l p).take (i + j)) ≤ wS (l.take i) + wS (p.take j) := by
  refine mgR_ind (Q := fun l p => Srt l → Srt p → ∀ i j, i ≤ l.length → j ≤ p.length → wS ((mgR l p).take (i + j)) ≤ wS (l.take i) + wS (p.take j)) ?_ ?_ ?_ ?_ l p
  · intro p _ _ i j hi hj
    obtain rfl : i = 0 := by simpa using hi
    simp [mgR_nil, wS_nil]
  · intro l _ _ i j hi hj
    obtain rfl : j = 0 := by simpa using hj
    simp [mgR_nil', wS_nil]
  · intro a l b p h ih h1 h2 i j hi hj
    have hl := (List.pairwise_cons.1 h1).2
    rw [mgR_le _ _ h]
    cases i with
    | succ i =>
      have := ih hl h2 i j (by simpa using hi) hj
      rw [show i + 1 + j = (i + j) + 1 by omega, List.take_succ_cons, List.take_succ_cons, wS_cons, wS_cons]
      omega
    | zero =>
      cases j with
      | zero => simp [wS_nil]
      | succ j =>
        have := ih hl h2 0 j (by omega) (by omega)
        have h4 := wS_take_succ (x := a.2) (fun y hy => Int.le_trans h (h2.head y hy)) (show j < (b :: p).length by omega)
        rw [Nat.zero_add, List.take_zero, wS_nil] at this ⊢
        rw [List.take_succ_cons, wS_cons]
        omega
  · intro a l b p h ih h1 h2 i j hi hj
    have hp := (List.pairwise_cons.1 h2).2
    rw [mgR_gt _ _ h]
    cases j with
    | succ j =>
      have := ih h1 hp i j hi (by simpa using hj)
      rw [show i + (j + 1) = (i + j) + 1 by omega, List.take_succ_cons, List.take_succ_cons (a := b), wS_cons, wS_cons]
      omega
    | zero =>
      cases i with
      | zero => simp [wS_nil]
      | succ i =>
        have := ih h1 hp i 0 (by omega) (by omega)
        have h4 := wS_take_succ (x := b.2) (fun y hy => Int.le_trans (by omega) (h1.head y hy)) (show i < (a :: l).length by omega)
        rw [Nat.add_zero, List.take_zero, wS_nil] at this ⊢
        rw [List.take_succ_cons (a := b), wS_cons]
        omega
theorem pkR_take : ∀ (l : List (Int × Int)) (m : Nat), 2 * m ≤ l.length → wS ((pkR l).take m) = wS (l.take (2 * m))
  | [], m, h => by simp [pkR]
  | [_], m, h => by
    obtain rfl : m = 0 := by simp at h; omega
    rfl
  | a :: b :: r, 0, h => rfl
  | a :: b :: r, m + 1, h => by
    have := pkR_take r m (by simp at h; omega)
    rw [pkR, List.take_succ_cons, wS_cons, this, show 2 * (m + 1) = 2 * m + 1 + 1 by omega, List.take_succ_cons, List.take_succ_cons, wS_cons, wS_cons]
    show a.2 + b.2 + _ = _
    omega

/-! What any lengths cost: c k of the leaves are taken from row k. -/
def wdC (c : Nat → Nat) : Nat → Nat
  | 0 => c 0
  | k + 1 => wdC c k + c (k + 1) * 2 ^ (k + 1)
def csC (lv : List (Int × Int)) (c : Nat → Nat) : Nat → Int
  | 0 => wS (lv.take (c 0))
  | k + 1 => csC lv c k + wS (lv.take (c (k + 1)))
theorem csC_nng {lv : List (Int × Int)} (h : Nng lv) (c : Nat → Nat) : ∀ k, 0 ≤ csC lv c k
  | 0 => wS_nng (h.take _)
  | k + 1 => by
    have h1 := csC_nng h c k
    have h2 := wS_nng (h.take (c (k + 1)))
    rw [csC]
    omega
theorem rowR_length (lv : List (Int × Int)) : ∀ k, lv.length ≤ (rowR lv k).length
  | 0 => Nat.le_refl _
  | k + 1 => by rw [rowR, mgR_length]; omega
theorem low_bound {lv : List (Int × Int)} (hs : Srt lv) (hn : Nng lv) (c : Nat → Nat) (hc : ∀ k, c k ≤ lv.length) :
    ∀ k m, m * 2 ^ k ≤ wdC c k → m ≤ (rowR lv k).length ∧ wS ((rowR lv k).take m) ≤ csC lv c k := by
  intro k
  induction k with
  | zero =>
    intro m h
    rw [Nat.pow_zero, Nat.mul_one, wdC] at h
    exact ⟨Nat.le_trans h (hc 0), wS_take_mono hn h⟩
  | succ k ih =>
    intro m h
    rw [wdC] at h
    have hcc := hc (k + 1)
    rw [csC]
    generalize c (k + 1) = cc at h hcc ⊢
    have hlen := rowR_length lv (k + 1)
    by_cases hm : m ≤ cc
    · refine ⟨by omega, ?_⟩
      have h1 := mgR_best lv (pkR (rowR lv k)) hs (pkR_srt (rowR_srt hs k)) m 0 (by omega) (Nat.zero_le _)
      have h2 := wS_take_mono hn hm
      have h3 := csC_nng hn c k
      rw [List.take_zero, wS_nil, Nat.add_zero] at h1
      show wS ((mgR lv (pkR (rowR lv k))).take m) ≤ _
      omega
    · obtain ⟨m', rfl⟩ : ∃ m', m = cc + m' := ⟨m - cc, by omega⟩
      have e : (cc + m') * 2 ^ (k + 1) = 2 * m' * 2 ^ k + cc * 2 ^ (k + 1) := by
        rw [Nat.add_mul, Nat.pow_succ, Nat.mul_comm (2 ^ k) 2, ← Nat.mul_assoc m', Nat.mul_comm m' 2]
        omega
      obtain ⟨h1, h2⟩ := ih (2 * m') (by omega)
      have hp := pkR_length (rowR lv k)
      have h3 := mgR_best lv (pkR (rowR lv k)) hs (pkR_srt (rowR_srt hs k)) cc m' hcc (by omega)
      have h4 := pkR_take (rowR lv k) m' h1
      refine ⟨?_, ?_⟩
      · rw [rowR, mgR_length, hp]
        omega
      · show wS ((mgR lv (pkR (rowR lv k))).take (cc + m')) ≤ _
        omega

/-! The first items of a merged row: how many leaves, how many packages. -/
def lfN (l : List (Int × Int)) : Nat := l.countP fun x => decide (0 ≤ x.1)
def pkN (l : List (Int × Int)) : Nat := l.countP fun x => !decide (0 ≤ x.1)
theorem lf_pk (l : List (Int × Int)) : lfN l + pkN l = l.length := by
  unfold lfN pkN
  induction l with
  | nil => rfl
  | cons a l ih =>
    rw [List.countP_cons, List.countP_cons, List.length_cons]
    cases decide (0 ≤ a.1) <;> simp <;> omega
theorem lfN_perm {a b : List (Int × Int)} (h : a.Perm b) : lfN a = lfN b := h.countP_eq _
theorem pkN_perm {a b : List (Int × Int)} (h : a.Perm b) : pkN a = pkN b := h.countP_eq _
/-- What the first m items of a merged row are. -/
theorem mgR_split (l p : List (Int × Int)) : Srt l → Srt p → ∀ m, m ≤ l.length + p.length → ∃ i j, i + j = m ∧ i ≤ l.length ∧ j ≤ p.length ∧ ((mgR l p).take m).Perm (l.take i ++ p.take j) ∧ (∀ a ∈ l.drop i, ∀ b ∈ p.take j, b.2 < a.2) := by
  refine mgR_ind (Q := fun l p => Srt l → Srt p → ∀ m, m ≤ l.length + p.length → ∃ i j, i + j = m ∧ i ≤ l.length ∧ j ≤ p.length ∧ ((mgR l p).take m).Perm (l.take i ++ p.take j) ∧ (∀ a ∈ l.drop i, ∀ b ∈ p.take j, b.2 < a.2)) ?_ ?_ ?_ ?_ l p
  · intro p _ _ m hm
    exact ⟨0, m, by omega, Nat.le_refl _, by simpa using hm, by simp [mgR_nil], fun a ha => by simp at ha⟩
  · intro l _ _ m hm
    exact ⟨m, 0, by omega, by simpa using hm, Nat.le_refl _, by simp [mgR_nil'], fun a ha b hb => by simp at hb⟩
  · intro a l b p h ih h1 h2 m hm
    cases m with
    | zero => exact ⟨0, 0, rfl, Nat.zero_le _, Nat.zero_le _, by simp, fun a ha b hb => by simp at hb⟩
    | succ m =>
      obtain ⟨i, j, e1, e2, e3, e4, e5⟩ := ih (List.pairwise_cons.1 h1).2 h2 m (by simp at hm ⊢; omega)
      refine ⟨i + 1, j, by omega, by simpa using e2, e3, ?_, e5⟩
      rw [mgR_le _ _ h, List.take_succ_cons, List.take_succ_cons]
      exact e4.cons a
  · intro a l b p h ih h1 h2 m hm
    cases m with
    | zero => exact ⟨0, 0, rfl, Nat.zero_le _, Nat.zero_le _, by simp, fun a ha b hb => by simp at hb⟩
    | succ m =>
      obtain ⟨i, j, e1, e2, e3, e4, e5⟩ := ih h1 (List.pairwise_cons.1 h2).2 m (by simp at hm ⊢; omega)
      refine ⟨i, j + 1, by omega, e2, by simpa using e3, ?_, fun x hx y hy => ?_⟩
      · rw [mgR_gt _ _ h, List.take_succ_cons, List.take_succ_cons]
        exact (e4.cons b).trans List.perm_middle.symm
      · rw [List.take_succ_cons] at hy
        rcases List.mem_cons.1 hy with rfl | hy
        · have := h1.head x (List.mem_of_mem_drop hx)
          omega
        · exact e5 x hx y hy

/-- The leaves: symbols from 0 on, each once, ordered by weight. -/
structure Lvs (lv : List (Int × Int)) : Prop where
  srt : Srt lv
  nng : Nng lv
  sym : ∀ x ∈ lv, 0 ≤ x.1
  nodup : (lv.map (·.1)).Nodup
theorem lfN_all {l : List (Int × Int)} (h : ∀ x ∈ l, 0 ≤ x.1) : lfN l = l.length := by
  unfold lfN
  rw [List.countP_eq_length]
  intro x hx
  exact decide_eq_true (h x hx)
theorem lfN_none {l : List (Int × Int)} (h : ∀ x ∈ l, x.1 = -1) : lfN l = 0 := by
  unfold lfN
  rw [List.countP_eq_zero]
  intro x hx
  rw [h x hx]
  decide
theorem lfN_append (a b : List (Int × Int)) : lfN (a ++ b) = lfN a + lfN b := List.countP_append
theorem pkN_append (a b : List (Int × Int)) : pkN (a ++ b) = pkN a + pkN b := List.countP_append
/-- The first m items of row k. -/
theorem row_split {lv : List (Int × Int)} (h : Lvs lv) (k m : Nat) (hm : m ≤ (rowR lv (k + 1)).length) :
    ∃ i j, i = lfN ((rowR lv (k + 1)).take m) ∧ j = pkN ((rowR lv (k + 1)).take m) ∧ i + j = m ∧ i ≤ lv.length ∧ 2 * j ≤ (rowR lv k).length ∧
      ((rowR lv (k + 1)).take m).Perm (lv.take i ++ (pkR (rowR lv k)).take j) ∧ (∀ a ∈ lv.drop i, ∀ b ∈ (pkR (rowR lv k)).take j, b.2 < a.2) := by
  rw [rowR, mgR_length] at hm
  obtain ⟨i, j, e1, e2, e3, e4, e5⟩ := mgR_split lv (pkR (rowR lv k)) h.srt (pkR_srt (rowR_srt h.srt k)) m hm
  have hl := lfN_perm e4
  have hp := lf_pk ((rowR lv (k + 1)).take m)
  rw [lfN_append, lfN_all (fun x hx => h.sym x (List.mem_of_mem_take hx)), lfN_none (fun x hx => pkR_sym _ x (List.mem_of_mem_take hx)), List.length_take, Nat.min_eq_left e2, Nat.add_zero] at hl
  have hlen : ((rowR lv (k + 1)).take m).length = m := by
    rw [List.length_take, rowR, mgR_length]
    omega
  have hq := pkR_length (rowR lv k)
  rw [hlen] at hp
  have hl' : lfN ((rowR lv (k + 1)).take m) = i := hl
  exact ⟨i, j, hl'.symm, by omega, e1, e2, by omega, e4, e5⟩
end Go.Proofs.Ytemjlmeakkknbaa
