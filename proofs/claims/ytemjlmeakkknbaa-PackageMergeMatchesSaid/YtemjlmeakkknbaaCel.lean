/- Laws over any program: slices of several cells an element (structs, slices) in memory of the call's own; append; reading. -/
import Derived.Test.YtemjlmeakkknbaaGen
import Derived.Laws.MakeOwn
set_option linter.unusedVariables false
set_option linter.unusedSimpArgs false
namespace Go.Proofs.Ytemjlmeakkknbaa
open Go.RowKit

/-- A slice's elements as cells in memory. -/
def CS (w : World) (sp : Option Addr) (cs : List Value) : Prop := cs = [] ∨ ∃ g o, sp = some ⟨g, o, none⟩ ∧ ∀ j v, cs[j]? = some v → w.cell? ⟨g, o + j, none⟩ = some v
theorem CS.nil (w : World) (sp : Option Addr) : CS w sp [] := .inl rfl
theorem CS.ch {S : Nat → Prop} {w w' : World} {sp : Option Addr} {cs : List Value} (h : CS w sp cs) (hc : Ch S w w') (hn : ∀ x, sp = some x → ¬ S x.block) : CS w' sp cs := by
  rcases h with h | ⟨g, o, hx, hcl⟩
  · exact .inl h
  · exact .inr ⟨g, o, hx, fun j v hj => hc.cell (hcl j v hj) (hn ⟨g, o, none⟩ hx)⟩
theorem CS.on {w w' : World} {sp : Option Addr} {cs : List Value} (h : CS w sp cs) (hb : Below w.heap.size w w') : CS w' sp cs := h.ch (Ch.of_below (S := fun _ => False) hb) (fun _ _ e => e)
theorem CS.lt {w : World} {sp : Option Addr} {cs : List Value} (h : CS w sp cs) (hl : 0 < cs.length) : ∃ g o, sp = some ⟨g, o, none⟩ ∧ g < w.heap.size := by
  rcases h with rfl | ⟨g, o, hx, hcl⟩
  · simp at hl
  · exact ⟨g, o, hx, World.block_lt_of_cell? w _ (hcl 0 cs[0] (by simp))⟩
theorem CS.pos {w : World} {sp : Option Addr} {cs : List Value} (h : CS w sp cs) (hl : 0 < cs.length) : ∃ g o, sp = some ⟨g, o, none⟩ ∧ ∀ j v, cs[j]? = some v → w.cell? ⟨g, o + j, none⟩ = some v := by
  rcases h with rfl | h
  · simp at hl
  · exact h
theorem CS.take {w : World} {sp : Option Addr} {cs : List Value} (h : CS w sp cs) (n : Nat) : CS w sp (cs.take n) := by
  rcases h with rfl | ⟨g, o, hx, hcl⟩
  · exact .inl (by simp)
  · refine .inr ⟨g, o, hx, fun j v hj => hcl j v ?_⟩
    rw [List.getElem?_take] at hj
    split at hj
    · exact hj
    · cases hj
theorem CS.drop {w : World} {g o : Nat} {cs : List Value} (h : CS w (some ⟨g, o, none⟩) cs) (n : Nat) : CS w (some ⟨g, o + n, none⟩) (cs.drop n) := by
  rcases h with rfl | ⟨g', o', hx, hcl⟩
  · exact .inl (by simp)
  · injection hx with hx
    injection hx with h1 h2 _
    subst h1 h2
    refine .inr ⟨g, o + n, rfl, fun j v hj => ?_⟩
    rw [Nat.add_assoc]
    exact hcl (n + j) v (by rw [List.getElem?_drop] at hj; exact hj)
theorem CS.lit {w : World} {g : Nat} {cs : Array Value} {t : TypeId} {fr : Nat × Nat} (h : w.heap[g]? = some (.cells cs t fr)) : CS w (some ⟨g, 0, none⟩) cs.toList :=
  .inr ⟨g, 0, rfl, fun j v hj => by
    rw [Nat.zero_add]
    simp only [World.cell?, h]
    rw [Array.getElem?_toList] at hj
    exact hj⟩
theorem CS.news {w : World} {g o : Nat} {cs : List Value} (h : CS w (some ⟨g, o, none⟩) cs) : ∀ j u, cs[j]? = some u → w.cell? ((⟨g, o, none⟩ : Addr).add j) = some u := by
  intro j u hj
  rw [add_lit]
  rcases h with rfl | ⟨g', o', hx, hcl⟩
  · simp at hj
  · injection hx with hx
    injection hx with h1 h2 _
    subst h1 h2
    exact hcl j u hj

/-- Elements of z cells each. -/
theorem flat_length {α : Type} (f : α → List Value) (z : Nat) (hf : ∀ x, (f x).length = z) : ∀ l : List α, (l.flatMap f).length = l.length * z
  | [] => by simp
  | a :: l => by rw [List.flatMap_cons, List.length_append, hf, flat_length f z hf l, List.length_cons, Nat.add_mul]; omega
theorem flat_get {α : Type} (f : α → List Value) (z : Nat) (hf : ∀ x, (f x).length = z) : ∀ (l : List α) (j i : Nat) (hj : j < l.length), i < z → (l.flatMap f)[j * z + i]? = (f l[j])[i]?
  | [], j, i, hj, _ => by simp at hj
  | a :: l, 0, i, _, hi => by
    rw [List.flatMap_cons, Nat.zero_mul, Nat.zero_add, List.getElem?_append_left (by rw [hf]; exact hi)]
    rfl
  | a :: l, j + 1, i, hj, hi => by
    rw [List.flatMap_cons, List.getElem?_append_right (by rw [hf, Nat.add_mul]; omega), hf, show (j + 1) * z + i - z = j * z + i by rw [Nat.add_mul]; omega, flat_get f z hf l j i (by simpa using hj) hi]
    rfl
theorem flat_drop {α : Type} (f : α → List Value) (z : Nat) (hf : ∀ x, (f x).length = z) : ∀ (l : List α) (k : Nat), (l.flatMap f).drop (k * z) = (l.drop k).flatMap f
  | [], k => by simp
  | a :: l, 0 => by simp
  | a :: l, k + 1 => by
    rw [List.flatMap_cons, List.drop_succ_cons, ← flat_drop f z hf l k, List.drop_append, hf, List.drop_of_length_le (by rw [hf, Nat.add_mul]; omega), List.nil_append]
    congr 1
    rw [Nat.add_mul]
    omega
theorem flat_take {α : Type} (f : α → List Value) (z : Nat) (hf : ∀ x, (f x).length = z) : ∀ (l : List α) (k : Nat), (l.flatMap f).take (k * z) = (l.take k).flatMap f
  | [], k => by simp
  | a :: l, 0 => by simp
  | a :: l, k + 1 => by
    rw [List.flatMap_cons, List.take_succ_cons, List.flatMap_cons, ← flat_take f z hf l k, List.take_append, hf, List.take_of_length_le (by rw [hf, Nat.add_mul]; omega)]
    congr 2
    rw [Nat.add_mul]
    omega

/-- A slice of the call's own that owns its row A; n elements, cells cs, capacity c. -/
def OwnC (w : World) (E : TypeId) (z : Nat) (A : Option Nat) (c n : Nat) (cs : List Value) : Prop := w.ownsRow 0 E z (.slice (ad0 A) n c) n cs
section
variable {w w' : World} {E : TypeId} {z : Nat} {A : Option Nat} {c n : Nat} {cs : List Value}
theorem OwnC.nil (w : World) (E : TypeId) (z : Nat) : OwnC w E z none 0 0 [] := World.ownsRow_nil _ _ _ _
theorem OwnC.len (h : OwnC w E z A c n cs) : cs.length = n * z := h.1
theorem OwnC.lt (h : OwnC w E z A c n cs) {g : Nat} (hg : A = some g) : g < w.heap.size := (World.ownsRow.lt h g (by rw [ownBlock_ad0]; exact hg)).2
theorem OwnC.row {g : Nat} (h : OwnC w E z (some g) c n cs) : ∃ cur, w.heap[g]? = some (.cells cur E (0, 0)) ∧ n ≤ c ∧ c ≤ maxLen ∧ cur.size = c * z ∧ cur.toList.take (n * z) = cs := by
  rcases h.2 with ⟨h1, h2⟩ | ⟨g', cap, cur, h1, h2, h3, h4, h5, h6, h7⟩
  · simp [ad0] at h1
  · simp only [ad0, Option.map_some, Value.slice.injEq, Option.some.injEq, Addr.mk.injEq] at h1
    obtain ⟨⟨rfl, _⟩, _, rfl⟩ := h1
    exact ⟨cur, h3, h4, h5, h6, h7⟩
theorem OwnC.cap (h : OwnC w E z A c n cs) : n ≤ c ∧ c ≤ maxLen := by
  rcases h.2 with ⟨h1, h2⟩ | ⟨g, cap, cur, h1, h2, h3, h4, h5, _⟩
  · simp only [Value.slice.injEq] at h1
    obtain ⟨_, h3, rfl⟩ := h1
    exact ⟨by omega, by unfold maxLen; omega⟩
  · simp only [Value.slice.injEq] at h1
    obtain ⟨_, _, rfl⟩ := h1
    exact ⟨h4, h5⟩
theorem OwnC.isNone (h : OwnC w E z none c n cs) : n = 0 ∧ c = 0 ∧ cs = [] := by
  rcases h.2 with ⟨h1, h2⟩ | ⟨g, cap, cur, h1, _⟩
  · simp only [Value.slice.injEq] at h1
    subst h2
    exact ⟨rfl, h1.2.2, List.eq_nil_of_length_eq_zero (by rw [h.len]; simp)⟩
  · simp [ad0] at h1
theorem OwnC.src (h : OwnC w E z A c n cs) : CS w (ad0 A) cs := by
  cases A with
  | none => exact .inl h.isNone.2.2
  | some g =>
    obtain ⟨cur, h1, _, _, _, h2⟩ := h.row
    refine .inr ⟨g, 0, rfl, fun j v hj => ?_⟩
    rw [Nat.zero_add]
    simp only [World.cell?, h1]
    rw [← h2, List.getElem?_take] at hj
    split at hj
    · rw [Array.getElem?_toList] at hj
      exact hj
    · cases hj
theorem OwnC.frozen {g : Nat} (h : OwnC w E z (some g) c n cs) (j : Nat) : w.frozen? ⟨g, j, none⟩ = false := by
  obtain ⟨cur, h1, _⟩ := h.row
  simp [World.frozen?, h1]
theorem OwnC.ch {S : Nat → Prop} (h : OwnC w E z A c n cs) (hc : Ch S w w') (hn : ∀ g, A = some g → ¬ S g) : OwnC w' E z A c n cs := by
  refine ⟨h.1, ?_⟩
  rcases h.2 with h1 | ⟨g, cap, cur, h1, h2, h3, r⟩
  · exact .inl h1
  · refine .inr ⟨g, cap, cur, h1, h2, hc.heap h3 (hn g ?_), r⟩
    have := congrArg Value.ownBlock h1
    rw [ownBlock_ad0] at this
    exact this
theorem OwnC.on (h : OwnC w E z A c n cs) (hb : Below w.heap.size w w') : OwnC w' E z A c n cs := h.ch (Ch.of_below (S := fun _ => False) hb) (fun _ _ e => e)
theorem OwnC.alloc (h : OwnC w E z A c n cs) (o : Obj) : OwnC (w.alloc o) E z A c n cs := h.on ((Below.refl _ _).alloc (Nat.le_refl _) _)
/-- A new row that has just been made. -/
theorem OwnC.made {g : Nat} {cur : Array Value} (hg : w.heap[g]? = some (.cells cur E (0, 0))) (hm : c ≤ maxLen) (hn : n ≤ c) (hs : cur.size = c * z) (hc : cur.toList.take (n * z) = cs) : OwnC w E z (some g) c n cs :=
  ⟨by rw [← hc, List.length_take, Array.length_toList, hs]; exact Nat.min_eq_left (Nat.mul_le_mul_right _ hn), .inr ⟨g, c, cur, rfl, Nat.zero_le _, hg, hn, hm, hs, hc⟩⟩
/-- A store of one element's cell. -/
theorem OwnC.set {g : Nat} (h : OwnC w E z (some g) c n cs) (j : Nat) (v : Value) : OwnC (w.setCell ⟨g, j, .none⟩ v) E z (some g) c n (cs.set j v) := by
  obtain ⟨cur, h1, h2, h3, h4, h5⟩ := h.row
  refine OwnC.made (cur := cur.setIfInBounds j v) (by simp [World.setCell, Array.getElem?_modify, h1]) h3 h2 (by simpa using h4) ?_
  rw [← h5, Array.toList_setIfInBounds, List.take_set]
end
theorem ownC_mk {w : World} {E : TypeId} {z : Nat} {v : Value} {n : Nat} {cs : List Value} (h : w.ownsRow 0 E z v n cs) : ∃ A c, v = .slice (ad0 A) n c ∧ OwnC w E z A c n cs := by
  rcases h.2 with ⟨rfl, h2⟩ | ⟨g, cap, cur, rfl, _⟩
  · subst h2
    exact ⟨none, 0, rfl, h⟩
  · exact ⟨some g, cap, rfl, h⟩

section
variable {P : Program}
/-- append(s, t...), s of the call's own. -/
theorem run_appendC (w : World) (t ty E : TypeId) (zv : Value) (z b : Nat) (ht : P.underlying t = some (.slice E)) (hI : (P.info? E).map (fun i => (i.zero, i.size, i.bytes)) = some (some zv, z, b)) (hzv : zv.cells.size = z) (hz : 0 < z)
    (A : Option Nat) (c n : Nat) (cs : List Value) (hown : OwnC w E z A c n cs) (sp : Option Addr) (m c2 : Nat) (cs2 : List Value) (hl2 : cs2.length = m * z) (hsrc : CS w sp cs2) (h1 : ∀ u ∈ cs2, u.oneCell' = true)
    (h63 : n + m ≤ maxLen) (hby : (n + m) * b ≤ 140737488355328) :
    ∃ A' c' w', (Builtin.append_ #[t, t] ty #[.slice (ad0 A) n c, .slice sp m c2]).run P w = .ok (.slice (ad0 A') (n + m) c') w' ∧ OwnC w' E z A' c' (n + m) (cs ++ cs2) ∧ w.grownBy w' A ∧ (A' = A ∨ A' = some w.heap.size) := by
  obtain ⟨i, hi, hz0, hz1, hz2⟩ := info_parts hI
  by_cases h0 : m = 0
  · subst h0
    have := List.eq_nil_of_length_eq_zero (by simpa using hl2)
    subst this
    exact ⟨A, c, w, by rw [Nat.add_zero]; exact run_append_none w t ty E i ht hi A n c hown.cap.1 sp c2, by rw [List.append_nil]; exact hown, grownBy_refl _ _, .inl rfl⟩
  · obtain ⟨sg, so, rfl, hc⟩ := hsrc.pos (by rw [hl2]; exact Nat.mul_pos (by omega) hz)
    obtain ⟨v', w', e1, e2, e3, _, e5⟩ := run_append_own_at (P := P) w 0 t ty E i zv z b ht hi hz0 hz1 hz2 hzv hz (.slice (ad0 A) n c) n cs hown ⟨sg, so, none⟩ m c2 cs2 hl2 (by
      intro j u hj
      rw [add_lit]
      exact hc j u hj) h1 h63 hby (Nat.zero_le _)
    obtain ⟨A', c', rfl, h6⟩ := ownC_mk e2
    rw [ownBlock_ad0] at e3 e5
    rw [ownBlock_ad0] at e5
    exact ⟨A', c', w', e1, h6, e3, e5⟩

theorem wpList_appendC {ops : Array Oper} {rest : List Oper} {o : Oper} {a : Act} {w : World} {Q : Exit → Act → World → Prop} (hgd : o.guard = none) (s x : Operand) (t : TypeId)
    (ho : o.op = .call { callee := .builtin .append, args := #[s, x], argTypes := #[t, t] })
    (E : TypeId) (zv : Value) (z b : Nat) (ht : P.underlying t = some (.slice E)) (hI : (P.info? E).map (fun i => (i.zero, i.size, i.bytes)) = some (some zv, z, b)) (hzv : zv.cells.size = z) (hz : 0 < z)
    (A : Option Nat) (c n : Nat) (cs : List Value) (hs : a.eval s = .slice (ad0 A) n c) (hown : OwnC w E z A c n cs) (sp : Option Addr) (m c2 : Nat) (hx : a.eval x = .slice sp m c2) (cs2 : List Value) (hl2 : cs2.length = m * z) (hsrc : CS w sp cs2) (h1 : ∀ u ∈ cs2, u.oneCell' = true)
    (h63 : n + m ≤ maxLen) (hby : (n + m) * b ≤ 140737488355328)
    (h : ∀ A' c' w', OwnC w' E z A' c' (n + m) (cs ++ cs2) → w.grownBy w' A → (A' = A ∨ A' = some w.heap.size) → wpList P ops Q rest (a.put o.dst (.slice (ad0 A') (n + m) c')) w') : wpList P ops Q (o :: rest) a w := by
  obtain ⟨A', c', w', e1, e2, e3, e4⟩ := run_appendC (P := P) w t o.type E zv z b ht hI hzv hz A c n cs hown sp m c2 cs2 hl2 hsrc h1 h63 hby
  refine wpList_ran hgd _ w' ?_ (h A' c' w' e2 e3 e4)
  simp [execOp, ho, resolve, invoke, builtin, hs, hx, e1, Result.andThen]
/-- .. as an operation whose order is drawn. -/
theorem op_appendC {ops : Array Oper} {o : Oper} {a : Act} {w : World} {K : Act → World → Prop} {Q : Exit → Act → World → Prop} (hgd : o.guard = none) (s x : Operand) (t : TypeId)
    (ho : o.op = .call { callee := .builtin .append, args := #[s, x], argTypes := #[t, t] })
    (E : TypeId) (zv : Value) (z b : Nat) (ht : P.underlying t = some (.slice E)) (hI : (P.info? E).map (fun i => (i.zero, i.size, i.bytes)) = some (some zv, z, b)) (hzv : zv.cells.size = z) (hz : 0 < z)
    (A : Option Nat) (c n : Nat) (cs : List Value) (hs : a.eval s = .slice (ad0 A) n c) (hown : OwnC w E z A c n cs) (sp : Option Addr) (m c2 : Nat) (hx : a.eval x = .slice sp m c2) (cs2 : List Value) (hl2 : cs2.length = m * z) (hsrc : CS w sp cs2) (h1 : ∀ u ∈ cs2, u.oneCell' = true)
    (h63 : n + m ≤ maxLen) (hby : (n + m) * b ≤ 140737488355328)
    (h : ∀ A' c' w', OwnC w' E z A' c' (n + m) (cs ++ cs2) → w.grownBy w' A → (A' = A ∨ A' = some w.heap.size) → K (a.put o.dst (.slice (ad0 A') (n + m) c')) w') :
    if Region.wanted o (yielded ops a.tmps) = true then Oper.wp P o a w K Q else K (a.put o.dst undef) w := by
  obtain ⟨A', c', w', e1, e2, e3, e4⟩ := run_appendC (P := P) w t o.type E zv z b ht hI hzv hz A c n cs hown sp m c2 cs2 hl2 hsrc h1 h63 hby
  rw [if_pos (by simp [Region.wanted, hgd])]
  unfold Oper.wp
  rw [show (execOp a.eval o).run P w = .ok (.value (.slice (ad0 A') (n + m) c')) w' by simp [execOp, ho, resolve, invoke, builtin, hs, hx, e1, Result.andThen], Oper.upon_value]
  exact h A' c' w' e2 e3 e4
theorem OwnC.drewN {w : World} {E : TypeId} {z : Nat} {A : Option Nat} {c n : Nat} {cs : List Value} (h : OwnC w E z A c n cs) (k : Nat) : OwnC (w.drewN k) E z A c n cs :=
  h.on ⟨rfl, rfl, rfl, Nat.le_refl _, fun _ _ => rfl⟩
end
end Go.Proofs.Ytemjlmeakkknbaa
