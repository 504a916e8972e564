/- Mathematics of package-merge: the lengths that the first 2N - 2 items give: Kraft's sum, the total, that no other lengths cost less. -/
import Derived.Test.YtemjlmeakkknbaaPmM
set_option linter.unusedVariables false
set_option linter.unusedSimpArgs false
namespace Go.Proofs.Ytemjlmeakkknbaa

/-- How often a symbol occurs. -/
def cntS (l : List (Int × Int)) (s : Int) : Nat := l.countP fun x => x.1 == s
theorem cntS_append (a b : List (Int × Int)) (s : Int) : cntS (a ++ b) s = cntS a s + cntS b s := List.countP_append
theorem cntS_perm {a b : List (Int × Int)} (h : a.Perm b) (s : Int) : cntS a s = cntS b s := h.countP_eq _
theorem cntS_cons (a : Int × Int) (l : List (Int × Int)) (s : Int) : cntS (a :: l) s = cntS l s + if a.1 = s then 1 else 0 := by
  unfold cntS
  rw [List.countP_cons]
  by_cases h : a.1 = s <;> simp [h]
theorem cntS_zero {l : List (Int × Int)} {s : Int} : cntS l s = 0 ↔ ∀ x ∈ l, x.1 ≠ s := by
  unfold cntS
  rw [List.countP_eq_zero]
  constructor
  · intro h x hx e
    exact h x hx (by simp [e])
  · intro h x hx e
    exact h x hx (by simpa using e)
theorem cntS_pk {l : List (Int × Int)} (h : ∀ x ∈ l, x.1 = -1) {s : Int} (hs : 0 ≤ s) : cntS l s = 0 := cntS_zero.2 fun x hx e => by
  have := h x hx
  omega
theorem cntS_le_one {l : List (Int × Int)} (h : (l.map (·.1)).Nodup) (s : Int) : cntS l s ≤ 1 := by
  induction l with
  | nil => simp [cntS]
  | cons a l ih =>
    rw [List.map_cons, List.nodup_cons] at h
    rw [cntS_cons]
    by_cases e : a.1 = s
    · have : cntS l s = 0 := cntS_zero.2 fun x hx e2 => h.1 (by rw [e, ← e2]; exact List.mem_map.2 ⟨x, hx, rfl⟩)
      rw [if_pos e, this]
      omega
    · rw [if_neg e]
      exact ih h.2
theorem cntS_take_le (l : List (Int × Int)) (a : Nat) (s : Int) : cntS (l.take a) s ≤ cntS l s := by
  have := cntS_append (l.take a) (l.drop a) s
  rw [List.take_append_drop] at this
  omega
theorem cntS_mem {l : List (Int × Int)} (h : (l.map (·.1)).Nodup) {x : Int × Int} (hx : x ∈ l) : cntS l x.1 = 1 := by
  have h1 := cntS_le_one h x.1
  have h2 : cntS l x.1 ≠ 0 := fun e => cntS_zero.1 e x hx rfl
  omega
theorem nodup_take {l : List (Int × Int)} (h : (l.map (·.1)).Nodup) (a : Nat) : ((l.take a).map (·.1)).Nodup := by
  rw [List.map_take]
  exact List.Sublist.nodup (List.take_sublist _ _) h
theorem drop_not {l : List (Int × Int)} (h : (l.map (·.1)).Nodup) {a : Nat} {x : Int × Int} (hx : x ∈ l.drop a) : cntS (l.take a) x.1 = 0 := by
  have h1 := cntS_append (l.take a) (l.drop a) x.1
  rw [List.take_append_drop] at h1
  have h2 := cntS_le_one h x.1
  have h3 : cntS (l.drop a) x.1 ≠ 0 := fun e => cntS_zero.1 e x hx rfl
  omega
/-- Sums over the leaves of what is counted once for each of the first a. -/
theorem sum_first {lv : List (Int × Int)} (h : (lv.map (·.1)).Nodup) (g : Int × Int → Int) (a : Nat) :
    (lv.map fun x => g x * (cntS (lv.take a) x.1 : Int)).sum = ((lv.take a).map g).sum := by
  have e : lv.map (fun x => g x * (cntS (lv.take a) x.1 : Int)) = (lv.take a ++ lv.drop a).map (fun x => g x * (cntS (lv.take a) x.1 : Int)) := by rw [List.take_append_drop]
  rw [e, List.map_append, List.sum_append]
  have e1 : (lv.take a).map (fun x => g x * (cntS (lv.take a) x.1 : Int)) = (lv.take a).map g := by
    apply List.map_congr_left
    intro x hx
    rw [cntS_mem (nodup_take h a) hx]
    omega
  have e2 : (lv.drop a).map (fun x => g x * (cntS (lv.take a) x.1 : Int)) = (lv.drop a).map (fun _ => (0 : Int)) := by
    apply List.map_congr_left
    intro x hx
    rw [drop_not h hx]
    omega
  have e3 : ∀ l : List (Int × Int), (l.map (fun _ => (0 : Int))).sum = 0 := by
    intro l
    induction l with
    | nil => rfl
    | cons a l ih => rw [List.map_cons, List.sum_cons, ih]; rfl
  rw [e1, e2, e3]
  omega
theorem sum_add (l : List (Int × Int)) (f g : Int × Int → Int) : (l.map fun x => f x + g x).sum = (l.map f).sum + (l.map g).sum := by
  induction l with
  | nil => rfl
  | cons a l ih => simp only [List.map_cons, List.sum_cons, ih]; omega
theorem sum_const (l : List (Int × Int)) (z : Int) : (l.map fun _ => z).sum = l.length * z := by
  induction l with
  | nil => simp
  | cons a l ih =>
    simp only [List.map_cons, List.sum_cons, ih, List.length_cons, Int.natCast_add, Int.add_mul]
    omega
theorem sum_le {l : List (Int × Int)} {f g : Int × Int → Int} (h : ∀ x ∈ l, f x ≤ g x) : (l.map f).sum ≤ (l.map g).sum := by
  induction l with
  | nil => exact Int.le_refl _
  | cons a l ih =>
    have h1 := h a (by simp)
    have h2 := ih (fun x hx => h x (by simp [hx]))
    simp only [List.map_cons, List.sum_cons]
    omega
theorem sum_eq {l : List (Int × Int)} {f g : Int × Int → Int} (h : ∀ x ∈ l, f x = g x) : (l.map f).sum = (l.map g).sum := by
  rw [List.map_congr_left h]

/-- How often a symbol is counted: the first m items of row k, and below. -/
def lnC (lv : List (Int × Int)) : Nat → Nat → Int → Nat
  | 0, m, s => cntS ((rowR lv 0).take m) s
  | k + 1, m, s => cntS ((rowR lv (k + 1)).take m) s + lnC lv k (2 * pkN ((rowR lv (k + 1)).take m)) s
/-- The widths. -/
def wiC (lv : List (Int × Int)) : Nat → Nat → Int → Nat
  | 0, m, s => cntS ((rowR lv 0).take m) s
  | k + 1, m, s => cntS ((rowR lv (k + 1)).take m) s * 2 ^ (k + 1) + wiC lv k (2 * pkN ((rowR lv (k + 1)).take m)) s

theorem row_leaf {lv : List (Int × Int)} : ∀ k, ∀ x ∈ rowR lv k, 0 ≤ x.1 → x ∈ lv
  | 0 => fun x hx _ => hx
  | k + 1 => fun x hx h0 => by
    rcases List.mem_append.1 ((mgR_perm _ _).mem_iff.1 hx) with hx | hx
    · exact hx
    · have := pkR_sym _ x hx
      omega
theorem pk_heavy {x : Int × Int} : ∀ (l : List (Int × Int)) (j : Nat), Nng l → x ∈ l.take (2 * j) → 2 * j ≤ l.length → ∃ b ∈ (pkR l).take j, x.2 ≤ b.2
  | [], j, _, hx, _ => by simp at hx
  | [_], j, _, hx, hl => by
    obtain rfl : j = 0 := by simp at hl; omega
    simp at hx
  | a :: b :: r, 0, _, hx, _ => by simp at hx
  | a :: b :: r, j + 1, hn, hx, hl => by
    rw [show 2 * (j + 1) = 2 * j + 1 + 1 by omega, List.take_succ_cons, List.take_succ_cons] at hx
    have h1 := hn a (by simp)
    have h2 := hn b (by simp)
    rw [pkR, List.take_succ_cons]
    rcases List.mem_cons.1 hx with rfl | hx
    · exact ⟨_, List.mem_cons_self, by show x.2 ≤ x.2 + b.2; omega⟩
    · rcases List.mem_cons.1 hx with rfl | hx
      · exact ⟨_, List.mem_cons_self, by show x.2 ≤ a.2 + x.2; omega⟩
      · obtain ⟨y, hy, h3⟩ := pk_heavy r j (fun y hy => hn y (by simp [hy])) hx (by simp at hl; omega)
        exact ⟨y, List.mem_cons_of_mem _ hy, h3⟩
theorem row_cnt {lv : List (Int × Int)} {T : List (Int × Int)} {i j k : Nat} (h : T.Perm (lv.take i ++ (pkR (rowR lv k)).take j)) {s : Int} (hs : 0 ≤ s) : cntS T s = cntS (lv.take i) s := by
  rw [cntS_perm h, cntS_append, cntS_pk (fun x hx => pkR_sym _ x (List.mem_of_mem_take hx)) hs, Nat.add_zero]
/-- A symbol that is not counted in a row is not counted in the row before it. -/
theorem nested {lv : List (Int × Int)} (h : Lvs lv) (k m : Nat) (hm : m ≤ (rowR lv (k + 1)).length) {s : Int} (hs : 0 ≤ s) (h0 : cntS ((rowR lv (k + 1)).take m) s = 0) :
    cntS ((rowR lv k).take (2 * pkN ((rowR lv (k + 1)).take m))) s = 0 := by
  obtain ⟨i, j, _, hj, _, _, h2j, hp, hcut⟩ := row_split h k m hm
  rw [row_cnt hp hs] at h0
  rw [← hj]
  rw [cntS_zero]
  intro x hx e
  have hxl := row_leaf k x (List.mem_of_mem_take hx) (by omega)
  obtain ⟨b, hb, h1⟩ := pk_heavy _ j (rowR_nng h.nng k) hx h2j
  have hxd : x ∈ lv.drop i := by
    rw [← List.take_append_drop i lv] at hxl
    rcases List.mem_append.1 hxl with h2 | h2
    · exact absurd e (cntS_zero.1 h0 x h2)
    · exact h2
  have := hcut x hxd b hb
  omega
/-- What the first m items of row k give. -/
structure Gd (lv : List (Int × Int)) (k m : Nat) : Prop where
  z : ∀ s, 0 ≤ s → cntS ((rowR lv k).take m) s = 0 → lnC lv k m s = 0 ∧ wiC lv k m s = 0
  le : ∀ s, 0 ≤ s → lnC lv k m s ≤ k + 1
  w : ∀ s, 0 ≤ s → wiC lv k m s + 2 ^ (k + 1 - lnC lv k m s) = 2 ^ (k + 1)
  sw : (lv.map fun x => ((wiC lv k m x.1 : Nat) : Int)).sum = ((m * 2 ^ k : Nat) : Int)
  sc : (lv.map fun x => x.2 * ((lnC lv k m x.1 : Nat) : Int)).sum = wS ((rowR lv k).take m)
  mono : ∀ p q (hp : p ≤ q) (hq : q < lv.length), lnC lv k m (lv[q]'hq).1 ≤ lnC lv k m (lv[p]'(by omega)).1
theorem cnt_mono {lv : List (Int × Int)} (h : Lvs lv) (i p q : Nat) (hp : p ≤ q) (hq : q < lv.length) : cntS (lv.take i) (lv[q]'hq).1 ≤ cntS (lv.take i) (lv[p]'(by omega)).1 := by
  by_cases hqi : q < i
  · have h1 : lv[p]'(by omega) ∈ lv.take i := by
      rw [List.mem_take_iff_getElem]
      exact ⟨p, by omega, rfl⟩
    rw [cntS_mem (nodup_take h.nodup i) h1]
    exact cntS_le_one (nodup_take h.nodup i) _
  · have h1 : lv[q]'hq ∈ lv.drop i := by
      rw [List.mem_drop_iff_getElem]
      exact ⟨q - i, by omega, by congr 1; omega⟩
    rw [drop_not h.nodup h1]
    exact Nat.zero_le _
theorem greedy {lv : List (Int × Int)} (h : Lvs lv) : ∀ k m, m ≤ (rowR lv k).length → Gd lv k m := by
  intro k
  induction k with
  | zero =>
    intro m hm
    have h1 : ∀ s, cntS (lv.take m) s ≤ 1 := cntS_le_one (nodup_take h.nodup m)
    refine ⟨fun s hs h0 => ⟨h0, h0⟩, fun s hs => h1 s, fun s hs => ?_, ?_, ?_, fun p q hp hq => cnt_mono h m p q hp hq⟩
    · show cntS (lv.take m) s + 2 ^ (0 + 1 - cntS (lv.take m) s) = 2 ^ (0 + 1)
      have := h1 s
      generalize cntS (lv.take m) s = c at this ⊢
      have : c = 0 ∨ c = 1 := by omega
      rcases this with rfl | rfl <;> rfl
    · have e := sum_first h.nodup (fun _ => 1) m
      rw [sum_const, List.length_take, Nat.min_eq_left (show m ≤ lv.length from hm)] at e
      simp only [Int.one_mul] at e
      show (lv.map fun x => ((cntS (lv.take m) x.1 : Nat) : Int)).sum = _
      rw [e, Nat.pow_zero]
      omega
    · exact sum_first h.nodup (fun x => x.2) m
  | succ k ih =>
    intro m hm
    obtain ⟨i, j, hi, hj, hij, hin, h2j, hp, hcut⟩ := row_split h k m hm
    have G := ih (2 * j) h2j
    have hc : ∀ s, 0 ≤ s → cntS ((rowR lv (k + 1)).take m) s = cntS (lv.take i) s := fun s hs => row_cnt hp hs
    have hln : ∀ s, 0 ≤ s → lnC lv (k + 1) m s = cntS (lv.take i) s + lnC lv k (2 * j) s := fun s hs => by rw [lnC, ← hj, hc s hs]
    have hwi : ∀ s, 0 ≤ s → wiC lv (k + 1) m s = cntS (lv.take i) s * 2 ^ (k + 1) + wiC lv k (2 * j) s := fun s hs => by rw [wiC, ← hj, hc s hs]
    have h1 : ∀ s, cntS (lv.take i) s ≤ 1 := cntS_le_one (nodup_take h.nodup i)
    have hz : ∀ s, 0 ≤ s → cntS (lv.take i) s = 0 → lnC lv k (2 * j) s = 0 ∧ wiC lv k (2 * j) s = 0 := fun s hs h0 => by
      have := nested h k m hm hs (by rw [hc s hs]; exact h0)
      rw [← hj] at this
      exact G.z s hs this
    refine ⟨fun s hs h0 => ?_, fun s hs => ?_, fun s hs => ?_, ?_, ?_, fun p q hpq hq => ?_⟩
    · rw [hc s hs] at h0
      obtain ⟨e1, e2⟩ := hz s hs h0
      rw [hln s hs, hwi s hs, h0, e1, e2]
      simp
    · have := h1 s
      have := G.le s hs
      rw [hln s hs]
      omega
    · have h2 := h1 s
      have h3 := G.w s hs
      have h4 := G.le s hs
      have h5 := hz s hs
      rw [hln s hs, hwi s hs]
      generalize cntS (lv.take i) s = c at h2 h5 ⊢
      have hc01 : c = 0 ∨ c = 1 := by omega
      rcases hc01 with rfl | rfl
      · obtain ⟨e1, e2⟩ := h5 rfl
        rw [e1, e2]
        simp
      · rw [show k + 1 + 1 - (1 + lnC lv k (2 * j) s) = k + 1 - lnC lv k (2 * j) s by omega]
        have : 2 ^ (k + 1 + 1) = 2 ^ (k + 1) + 2 ^ (k + 1) := by rw [Nat.pow_succ 2 (k + 1)]; omega
        omega
    · have e1 : (lv.map fun x => ((wiC lv (k + 1) m x.1 : Nat) : Int)).sum = (lv.map fun x => ((2 ^ (k + 1) : Nat) : Int) * (cntS (lv.take i) x.1 : Int) + ((wiC lv k (2 * j) x.1 : Nat) : Int)).sum := by
        apply sum_eq
        intro x hx
        rw [hwi x.1 (h.sym x hx), Int.natCast_add, Int.natCast_mul, Int.mul_comm]
      rw [e1, sum_add, sum_first h.nodup (fun _ => ((2 ^ (k + 1) : Nat) : Int)) i, G.sw, sum_const, List.length_take, Nat.min_eq_left hin, ← Int.natCast_mul, ← Int.natCast_add]
      congr 1
      rw [← hij, Nat.add_mul, Nat.pow_succ, Nat.mul_comm (2 ^ k) 2, ← Nat.mul_assoc j, Nat.mul_comm j 2]
    · have e1 : (lv.map fun x => x.2 * ((lnC lv (k + 1) m x.1 : Nat) : Int)).sum = (lv.map fun x => x.2 * (cntS (lv.take i) x.1 : Int) + x.2 * ((lnC lv k (2 * j) x.1 : Nat) : Int)).sum := by
        apply sum_eq
        intro x hx
        rw [hln x.1 (h.sym x hx), Int.natCast_add, Int.mul_add]
      rw [e1, sum_add, sum_first h.nodup (fun x => x.2) i, G.sc, ← pkR_take _ j h2j, wS_perm hp, wS_append]
      rfl
    · have hs : ∀ p (hp : p < lv.length), 0 ≤ (lv[p]'hp).1 := fun p hp => h.sym _ (List.getElem_mem hp)
      rw [hln _ (hs q hq), hln _ (hs p (by omega))]
      have := cnt_mono h i p q hpq hq
      have := G.mono p q hpq hq
      omega

/-- A row has the items that are asked for. -/
theorem row_room (lv : List (Int × Int)) : ∀ k, lv.length * 2 ^ (k + 1) < ((rowR lv k).length + 1) * 2 ^ k + lv.length
  | 0 => by
    rw [Nat.pow_zero]
    show lv.length * 2 ^ (0 + 1) < (lv.length + 1) * 1 + lv.length
    omega
  | k + 1 => by
    have ih := row_room lv k
    rw [rowR, mgR_length, pkR_length]
    generalize (rowR lv k).length = r at ih ⊢
    generalize lv.length = n at ih ⊢
    have h1 : r + 1 ≤ 2 * (r / 2 + 1) := by omega
    have h2 : (r + 1) * 2 ^ k ≤ 2 * (r / 2 + 1) * 2 ^ k := Nat.mul_le_mul_right _ h1
    have h3 : (n + r / 2 + 1) * 2 ^ (k + 1) = n * 2 ^ (k + 1) + 2 * (r / 2 + 1) * 2 ^ k := by
      rw [Nat.add_assoc, Nat.add_mul, Nat.pow_succ, Nat.mul_comm (2 ^ k) 2, ← Nat.mul_assoc (r / 2 + 1), Nat.mul_comm (r / 2 + 1) 2]
    have h4 : n * 2 ^ (k + 1 + 1) = n * 2 ^ (k + 1) + n * 2 ^ (k + 1) := by rw [Nat.pow_succ 2 (k + 1), ← Nat.mul_assoc]; omega
    omega
theorem row_enough {lv : List (Int × Int)} {L : Nat} (hL : 1 ≤ L) (hn : lv.length ≤ 2 ^ L) : 2 * lv.length - 2 ≤ (rowR lv (L - 1)).length := by
  obtain ⟨k, rfl⟩ : ∃ k, L = k + 1 := ⟨L - 1, by omega⟩
  have h := row_room lv k
  rw [Nat.add_sub_cancel]
  generalize (rowR lv k).length = r at h ⊢
  generalize lv.length = n at h hn ⊢
  rcases Nat.lt_or_ge r (2 * n - 2) with hlt | hge
  · exfalso
    have h1 : (r + 1) * 2 ^ k ≤ (2 * n - 2) * 2 ^ k := Nat.mul_le_mul_right _ (by omega)
    have h2 : (2 * n - 2) * 2 ^ k + 2 ^ (k + 1) = n * 2 ^ (k + 1) := by
      obtain ⟨n', rfl⟩ : ∃ n', n = n' + 1 := ⟨n - 1, by omega⟩
      rw [show 2 * (n' + 1) - 2 = 2 * n' by omega, Nat.pow_succ, Nat.add_mul, Nat.mul_comm (2 ^ k) 2, ← Nat.mul_assoc, Nat.mul_comm n' 2]
      omega
    omega
  · exact hge

/-- The length of a symbol. -/
def lnV (lv : List (Int × Int)) (L : Nat) (s : Int) : Nat := if lv.length < 2 then cntS lv s else lnC lv (L - 1) (2 * lv.length - 2) s

section
variable {lv : List (Int × Int)} (h : Lvs lv) {L : Nat} (hL : 1 ≤ L) (hn : lv.length ≤ 2 ^ L)
include h hL hn
theorem lnV_le (s : Int) (hs : 0 ≤ s) : lnV lv L s ≤ L := by
  unfold lnV
  split
  · have := cntS_le_one h.nodup s
    omega
  · have := (greedy h (L - 1) _ (row_enough hL hn)).le s hs
    omega
theorem lnV_kraft (h2 : 2 ≤ lv.length) : (lv.map fun x => ((2 ^ (L - lnV lv L x.1) : Nat) : Int)).sum = ((2 ^ L : Nat) : Int) := by
  have G := greedy h (L - 1) _ (row_enough hL hn)
  have e0 : ∀ x ∈ lv, ((2 ^ (L - lnV lv L x.1) : Nat) : Int) + ((wiC lv (L - 1) (2 * lv.length - 2) x.1 : Nat) : Int) = ((2 ^ L : Nat) : Int) := by
    intro x hx
    have h3 := G.w x.1 (h.sym x hx)
    have e1 : lnV lv L x.1 = lnC lv (L - 1) (2 * lv.length - 2) x.1 := if_neg (by omega)
    rw [Nat.sub_add_cancel hL, ← e1] at h3
    rw [← Int.natCast_add]
    congr 1
    omega
  have e1 := sum_eq e0
  rw [sum_add, G.sw, sum_const, ← Int.natCast_mul] at e1
  have e2 : (2 * lv.length - 2) * 2 ^ (L - 1) + 2 ^ L = lv.length * 2 ^ L := by
    obtain ⟨k, rfl⟩ : ∃ k, L = k + 1 := ⟨L - 1, by omega⟩
    obtain ⟨n', hn'⟩ : ∃ n', lv.length = n' + 1 := ⟨lv.length - 1, by omega⟩
    rw [hn', Nat.add_sub_cancel, show 2 * (n' + 1) - 2 = 2 * n' by omega, Nat.pow_succ, Nat.add_mul, Nat.mul_comm (2 ^ k) 2, ← Nat.mul_assoc, Nat.mul_comm n' 2]
    omega
  omega
theorem lnV_pos {x : Int × Int} (hx : x ∈ lv) : 1 ≤ lnV lv L x.1 := by
  by_cases h2 : lv.length < 2
  · unfold lnV
    rw [if_pos h2, cntS_mem h.nodup hx]
    exact Nat.le_refl 1
  · have hk := lnV_kraft h hL hn (by omega)
    rcases Nat.eq_zero_or_pos (lnV lv L x.1) with h0 | h0
    · exfalso
      obtain ⟨a, b, e⟩ := List.append_of_mem hx
      have hpos : ∀ l : List (Int × Int), (l.length : Int) ≤ (l.map fun x => ((2 ^ (L - lnV lv L x.1) : Nat) : Int)).sum := by
        intro l
        have := sum_le (l := l) (f := fun _ => (1 : Int)) (g := fun x => ((2 ^ (L - lnV lv L x.1) : Nat) : Int)) (fun x _ => by
          have : 0 < 2 ^ (L - lnV lv L x.1) := Nat.pow_pos (by omega)
          omega)
        rw [sum_const] at this
        omega
      have hsum : (lv.map fun x => ((2 ^ (L - lnV lv L x.1) : Nat) : Int)).sum = (a.map fun x => ((2 ^ (L - lnV lv L x.1) : Nat) : Int)).sum + (((2 ^ (L - lnV lv L x.1) : Nat) : Int) + (b.map fun x => ((2 ^ (L - lnV lv L x.1) : Nat) : Int)).sum) := by
        have := congrArg (fun l => (l.map fun x => ((2 ^ (L - lnV lv L x.1) : Nat) : Int)).sum) e
        simpa [List.sum_append] using this
      have hlen := congrArg List.length e
      rw [List.length_append, List.length_cons] at hlen
      rw [h0, Nat.sub_zero, hk] at hsum
      have h3 := hpos a
      have h4 := hpos b
      omega
    · exact h0
theorem lnV_mono (p q : Nat) (hp : p ≤ q) (hq : q < lv.length) : lnV lv L (lv[q]'hq).1 ≤ lnV lv L (lv[p]'(by omega)).1 := by
  unfold lnV
  by_cases h2 : lv.length < 2
  · obtain rfl : p = q := by omega
    exact Nat.le_refl _
  · rw [if_neg h2, if_neg h2]
    exact (greedy h (L - 1) _ (row_enough hL hn)).mono p q hp hq
end
theorem cnt_row_zero {lv : List (Int × Int)} {s : Int} (h0 : 0 ≤ s) (hs : ∀ x ∈ lv, x.1 ≠ s) (k m : Nat) : cntS ((rowR lv k).take m) s = 0 := by
  rw [cntS_zero]
  intro x hx e
  exact hs x (row_leaf k x (List.mem_of_mem_take hx) (by omega)) e
theorem lnC_zero {lv : List (Int × Int)} {s : Int} (h0 : 0 ≤ s) (hs : ∀ x ∈ lv, x.1 ≠ s) : ∀ k m, lnC lv k m s = 0
  | 0, m => cnt_row_zero h0 hs 0 m
  | k + 1, m => by rw [lnC, cnt_row_zero h0 hs, lnC_zero h0 hs k]
theorem lnV_zero {lv : List (Int × Int)} (L : Nat) {s : Int} (h0 : 0 ≤ s) (hs : ∀ x ∈ lv, x.1 ≠ s) : lnV lv L s = 0 := by
  unfold lnV
  split
  · exact cntS_zero.2 hs
  · exact lnC_zero h0 hs _ _

/-! No lengths cost less. -/
theorem sub_best : ∀ {s lv : List (Int × Int)}, s.Sublist lv → Srt lv → wS (lv.take s.length) ≤ wS s := by
  intro s lv hs
  induction hs with
  | slnil => intro _; exact Int.le_refl _
  | cons a hs ih =>
    rename_i l1 l2
    intro h
    have h1 := ih (List.pairwise_cons.1 h).2
    have hl := hs.length_le
    by_cases h0 : l1.length = 0
    · rw [h0] at h1 ⊢
      exact h1
    · obtain ⟨c, hc⟩ : ∃ c, l1.length = c + 1 := ⟨l1.length - 1, by omega⟩
      rw [hc] at h1 ⊢
      rw [List.take_succ_cons, wS_cons]
      have := wS_take_succ (x := a.2) (List.pairwise_cons.1 h).1 (show c < l2.length by omega)
      omega
  | cons_cons a hs ih =>
    intro h
    have h1 := ih (List.pairwise_cons.1 h).2
    rw [List.length_cons, List.take_succ_cons, wS_cons, wS_cons]
    omega
theorem wS_filter (l : List (Int × Int)) (q : Int × Int → Bool) : wS (l.filter q) = (l.map fun x => x.2 * (if q x = true then 1 else 0)).sum := by
  induction l with
  | nil => rfl
  | cons a l ih =>
    rw [List.filter_cons, List.map_cons, List.sum_cons, ← ih]
    by_cases h : q a = true
    · rw [if_pos h, if_pos h, wS_cons]; omega
    · rw [if_neg h, if_neg h]; omega
theorem countP_sum (l : List (Int × Int)) (q : Int × Int → Bool) (z : Int) : ((l.countP q : Nat) : Int) * z = (l.map fun x => if q x = true then z else 0).sum := by
  induction l with
  | nil => simp
  | cons a l ih =>
    rw [List.countP_cons, List.map_cons, List.sum_cons, ← ih]
    by_cases h : q a = true
    · rw [if_pos h, if_pos h, Int.natCast_add, Int.add_mul]; omega
    · rw [if_neg h, if_neg h]; simp
/-- From which rows a symbol of length F is taken, for the limit L. -/
def wdX (L F : Nat) : Nat → Nat
  | 0 => if L ≤ F then 1 else 0
  | k + 1 => wdX L F k + if L ≤ F + (k + 1) then 2 ^ (k + 1) else 0
def csX (L F : Nat) : Nat → Nat
  | 0 => if L ≤ F then 1 else 0
  | k + 1 => csX L F k + if L ≤ F + (k + 1) then 1 else 0
theorem wdX_val {L F : Nat} (h : F ≤ L) : ∀ k, k < L → (L ≤ F + k → wdX L F k + 2 ^ (L - F) = 2 ^ (k + 1)) ∧ (¬ L ≤ F + k → wdX L F k = 0)
  | 0, _ => by
    refine ⟨fun h1 => ?_, fun h1 => if_neg (by omega)⟩
    obtain rfl : L = F := by omega
    rw [wdX, if_pos (Nat.le_refl _), Nat.sub_self]
  | k + 1, hk => by
    obtain ⟨h1, h2⟩ := wdX_val h k (by omega)
    rw [wdX]
    refine ⟨fun h3 => ?_, fun h3 => by rw [if_neg h3, h2 (by omega)]⟩
    rw [if_pos h3]
    have e : 2 ^ (k + 1 + 1) = 2 ^ (k + 1) + 2 ^ (k + 1) := by rw [Nat.pow_succ 2 (k + 1)]; omega
    by_cases h4 : L ≤ F + k
    · have := h1 h4
      omega
    · rw [h2 h4, show L - F = k + 1 by omega]
      omega
theorem csX_val {L F : Nat} (h : F ≤ L) : ∀ k, k < L → csX L F k = F + k + 1 - L
  | 0, hk => by
    rw [csX]
    split <;> omega
  | k + 1, hk => by
    rw [csX, csX_val h k (by omega)]
    split <;> omega
section
variable {lv : List (Int × Int)} (h : Lvs lv) {L : Nat} (f : Int → Nat)
/-- How many leaves are taken from row k. -/
def takN (lv : List (Int × Int)) (L : Nat) (f : Int → Nat) (k : Nat) : Nat := lv.countP fun x => decide (L ≤ f x.1 + k)
theorem wdC_sum : ∀ k, ((wdC (takN lv L f) k : Nat) : Int) = (lv.map fun x => ((wdX L (f x.1) k : Nat) : Int)).sum
  | 0 => by
    have := countP_sum lv (fun x => decide (L ≤ f x.1 + 0)) 1
    rw [Int.mul_one] at this
    rw [wdC, takN, this]
    apply sum_eq
    intro x _
    rw [wdX]
    by_cases h : L ≤ f x.1 <;> simp [h]
  | k + 1 => by
    rw [wdC, Int.natCast_add, wdC_sum k, Int.natCast_mul, takN, countP_sum, ← sum_add]
    apply sum_eq
    intro x _
    rw [wdX]
    by_cases h : L ≤ f x.1 + (k + 1) <;> simp [h]
include h
theorem tak_best (k : Nat) : wS (lv.take (takN lv L f k)) ≤ (lv.map fun x => x.2 * (if L ≤ f x.1 + k then 1 else 0)).sum := by
  have h1 := sub_best (s := lv.filter fun x => decide (L ≤ f x.1 + k)) List.filter_sublist h.srt
  rw [← List.countP_eq_length_filter, wS_filter] at h1
  have e : (lv.map fun x => x.2 * (if decide (L ≤ f x.1 + k) = true then (1 : Int) else 0)) = lv.map fun x => x.2 * (if L ≤ f x.1 + k then (1 : Int) else 0) := by
    apply List.map_congr_left
    intro x _
    by_cases h : L ≤ f x.1 + k <;> simp [h]
  rw [e] at h1
  exact h1
theorem csC_sum : ∀ k, csC lv (takN lv L f) k ≤ (lv.map fun x => x.2 * ((csX L (f x.1) k : Nat) : Int)).sum
  | 0 => by
    have h1 := tak_best h f (L := L) 0
    rw [csC]
    refine Int.le_trans h1 (Int.le_of_eq ?_)
    apply sum_eq
    intro x _
    rw [csX]
    by_cases h : L ≤ f x.1 <;> simp [h]
  | k + 1 => by
    have h1 := tak_best h f (L := L) (k + 1)
    have h2 := csC_sum k
    rw [csC]
    have e : (lv.map fun x => x.2 * ((csX L (f x.1) (k + 1) : Nat) : Int)).sum = (lv.map fun x => x.2 * ((csX L (f x.1) k : Nat) : Int)).sum + (lv.map fun x => x.2 * (if L ≤ f x.1 + (k + 1) then (1 : Int) else 0)).sum := by
      rw [← sum_add]
      apply sum_eq
      intro x _
      rw [csX, Int.natCast_add, Int.mul_add]
      by_cases h : L ≤ f x.1 + (k + 1) <;> simp [h]
    rw [e]
    omega
/-- The lengths are the best. -/
theorem lnV_best (hL : 1 ≤ L) (hn : lv.length ≤ 2 ^ L) (hf : ∀ x ∈ lv, 1 ≤ f x.1 ∧ f x.1 ≤ L) (hk : (lv.map fun x => ((2 ^ (L - f x.1) : Nat) : Int)).sum ≤ ((2 ^ L : Nat) : Int)) :
    (lv.map fun x => x.2 * ((lnV lv L x.1 : Nat) : Int)).sum ≤ (lv.map fun x => x.2 * ((f x.1 : Nat) : Int)).sum := by
  by_cases h2 : lv.length < 2
  · apply sum_le
    intro x hx
    have e : lnV lv L x.1 = 1 := by
      unfold lnV
      rw [if_pos h2, cntS_mem h.nodup hx]
    rw [e]
    have h3 := (hf x hx).1
    exact Int.mul_le_mul_of_nonneg_left (by omega) (h.nng x hx)
  · have G := greedy h (L - 1) _ (row_enough hL hn)
    have e1 : (lv.map fun x => x.2 * ((lnV lv L x.1 : Nat) : Int)).sum = wS ((rowR lv (L - 1)).take (2 * lv.length - 2)) := by
      rw [← G.sc]
      apply sum_eq
      intro x _
      unfold lnV
      rw [if_neg h2]
    rw [e1]
    have hw : (2 * lv.length - 2) * 2 ^ (L - 1) ≤ wdC (takN lv L f) (L - 1) := by
      have e2 := wdC_sum (lv := lv) (L := L) f (L - 1)
      have e3 : ∀ x ∈ lv, ((wdX L (f x.1) (L - 1) : Nat) : Int) + ((2 ^ (L - f x.1) : Nat) : Int) = ((2 ^ L : Nat) : Int) := by
        intro x hx
        obtain ⟨h3, h4⟩ := hf x hx
        have := (wdX_val h4 (L - 1) (by omega)).1 (by omega)
        rw [Nat.sub_add_cancel hL] at this
        rw [← Int.natCast_add, this]
      have e4 := sum_eq e3
      rw [sum_add, sum_const, ← e2, ← Int.natCast_mul] at e4
      have e5 : (2 * lv.length - 2) * 2 ^ (L - 1) + 2 ^ L = lv.length * 2 ^ L := by
        obtain ⟨k, rfl⟩ : ∃ k, L = k + 1 := ⟨L - 1, by omega⟩
        obtain ⟨n', hn'⟩ : ∃ n', lv.length = n' + 1 := ⟨lv.length - 1, by omega⟩
        rw [hn', Nat.add_sub_cancel, show 2 * (n' + 1) - 2 = 2 * n' by omega, Nat.pow_succ, Nat.add_mul, Nat.mul_comm (2 ^ k) 2, ← Nat.mul_assoc, Nat.mul_comm n' 2]
        omega
      omega
    have h5 := (low_bound h.srt h.nng (takN lv L f) (fun k => List.countP_le_length) (L - 1) _ hw).2
    have h6 := csC_sum h f (L := L) (L - 1)
    refine Int.le_trans h5 (Int.le_trans h6 (Int.le_of_eq ?_))
    apply sum_eq
    intro x hx
    rw [csX_val (hf x hx).2 (L - 1) (by omega), show f x.1 + (L - 1) + 1 - L = f x.1 by omega]
end
end Go.Proofs.Ytemjlmeakkknbaa
