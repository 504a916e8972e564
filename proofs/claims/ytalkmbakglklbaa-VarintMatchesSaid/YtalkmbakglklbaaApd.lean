/- Laws over any program: append as one operation of a region that draws (XAny). -/
import Derived.Test.YtalkmbakglklbaaAny
import Derived.Test.YtalkmbakglklbaaWin
set_option linter.unusedVariables false
set_option linter.unusedSimpArgs false
namespace Go.Proofs.Ytalkmbakglklbaa
open Go.RowKit

/-- append(s, t...), s a window, as an operation whose order is drawn. -/
theorem op_appendW {P : Program} {ops : Array Oper} {o : Oper} {a : Act} {w : World} {K : Act → World → Prop} {Q : Exit → Act → World → Prop} (hgd : o.guard = none) (s x : Operand) (t : TypeId)
    (ho : o.op = .call { callee := .builtin .append, args := #[s, x], argTypes := #[t, t] })
    (E : TypeId) (k : IntKind) (b : Nat) (ht : P.underlying t = some (.slice E)) (hI : (P.info? E).map (fun i => (i.zero, i.size, i.bytes)) = some (some (.int k 0), 1, b))
    (ad : Option Addr) (c : Nat) (l : List Int) (n : Nat) (hn : l.length = n) (hs : a.eval s = .slice ad n c) (hown : WinS w k E ad c l) (sp : Option Addr) (m c2 : Nat) (hx : a.eval x = .slice sp m c2) (l2 : List Int) (hl2 : l2.length = m) (hsrc : Src w k sp l2)
    (h63 : n + m ≤ maxLen) (hby : (n + m) * b ≤ 140737488355328)
    (h : ∀ a' c' w', WinS w' k E a' c' (l ++ l2) → w.grownBy w' (blk ad) → (blk a' = blk ad ∨ blk a' = some w.heap.size) → K (a.put o.dst (.slice a' (n + m) c')) w') :
    if Region.wanted o (yielded ops a.tmps) = true then Oper.wp P o a w K Q else K (a.put o.dst undef) w := by
  obtain ⟨A', c', w', h1, h2, h3, h4⟩ := run_appendW (P := P) w t o.type E k b ht hI ad c l n hn hown sp m c2 l2 hl2 hsrc h63 hby
  rw [if_pos (by simp [Region.wanted, hgd])]
  unfold Oper.wp
  rw [show (execOp a.eval o).run P w = .ok (.value (.slice A' (n + m) c')) w' by simp [execOp, ho, resolve, invoke, builtin, hs, hx, h1, Result.andThen], Oper.upon_value]
  exact h A' c' w' h2 h3 h4
/-- append(s, t...), s empty and with no room: no block changes. -/
theorem run_append_new {P : Program} (w : World) (t ty E : TypeId) (k : IntKind) (b : Nat) (ht : P.underlying t = some (.slice E)) (hI : (P.info? E).map (fun i => (i.zero, i.size, i.bytes)) = some (some (.int k 0), 1, b))
    (g : Nat) (hown : WinS w k E (some ⟨g, 0, none⟩) 0 []) (sp : Option Addr) (m c2 : Nat) (l2 : List Int) (hl2 : l2.length = m) (hsrc : Src w k sp l2) (h63 : m ≤ maxLen) (hby : m * b ≤ 140737488355328) :
    ∃ a' c' w', (Builtin.append_ #[t, t] ty #[.slice (some ⟨g, 0, none⟩) 0 0, .slice sp m c2]).run P w = .ok (.slice a' m c') w' ∧ WinS w' k E a' c' l2 ∧ Below w.heap.size w w' ∧ (∀ q, blk a' = some q → q = g ∨ w.heap.size ≤ q) := by
  obtain ⟨i, hi, hz0, hz1, hz2⟩ := info_parts hI
  by_cases h0 : m = 0
  · subst h0
    have := List.eq_nil_of_length_eq_zero hl2
    subst this
    exact ⟨some ⟨g, 0, none⟩, 0, w, run_append_zero w t ty E i ht hi _ 0 0 (Nat.le_refl _) sp c2, hown, Below.refl _ _, fun q hq => by injection hq with hq; exact .inl hq.symm⟩
  · rcases hsrc with rfl | ⟨sg, so, rfl, hc⟩
    · simp at hl2
      omega
    · have hnews : ∀ j u, (l2.map (Value.int k))[j]? = some u → w.cell? ((⟨sg, so, none⟩ : Addr).add j) = some u := by
        intro j u hj
        have hjn : j < l2.length := by
          have := (List.getElem?_eq_some_iff.1 hj).1
          simpa using this
        rw [add_lit, hc j hjn]
        simp only [List.getElem?_map, List.getElem?_eq_getElem hjn] at hj
        rw [← hj]
        simp [hjn]
      obtain ⟨v', w', e1, e2, e3⟩ := run_append_arg_grows (P := P) w t ty E i (.int k 0) 1 b ht hi hz0 hz1 hz2 rfl (by decide) ⟨g, 0, none⟩ 0 0 [] (by simp) (by simp) ⟨sg, so, none⟩ m c2 (l2.map (Value.int k)) (by simp [hl2]) hnews (by omega) (by omega) (by rw [Nat.zero_add]; exact hby)
      rw [List.nil_append, Nat.zero_add] at e2
      rcases e2.2 with ⟨_, h1⟩ | ⟨g', cap, cur, hv, hg, hh, h1, h2, h3, h4⟩
      · omega
      · refine ⟨some ⟨g', 0, none⟩, cap, w', by rw [e1, hv], .inr ⟨g', 0, cur, rfl, hh, by omega, h2, by omega, fun j hj => ?_⟩, ⟨e3.os, e3.tape, e3.output, e3.size, fun q hq => e3.block q hq (by simp)⟩, fun q hq => by injection hq with hq; exact .inr (hq ▸ hg)⟩
        have : (cur.toList.take (m * 1))[j]? = (l2.map (Value.int k))[j]? := by rw [h4]
        rw [List.getElem?_take, if_pos (by omega), List.getElem?_map, List.getElem?_eq_getElem hj] at this
        rw [Nat.zero_add]
        simpa [hj] using this
/-- .. as an operation whose order is drawn. -/
theorem op_append_new {P : Program} {ops : Array Oper} {o : Oper} {a : Act} {w : World} {K : Act → World → Prop} {Q : Exit → Act → World → Prop} (hgd : o.guard = none) (s x : Operand) (t : TypeId)
    (ho : o.op = .call { callee := .builtin .append, args := #[s, x], argTypes := #[t, t] })
    (E : TypeId) (k : IntKind) (b : Nat) (ht : P.underlying t = some (.slice E)) (hI : (P.info? E).map (fun i => (i.zero, i.size, i.bytes)) = some (some (.int k 0), 1, b))
    (g : Nat) (hs : a.eval s = .slice (some ⟨g, 0, none⟩) 0 0) (hown : WinS w k E (some ⟨g, 0, none⟩) 0 []) (sp : Option Addr) (m c2 : Nat) (hx : a.eval x = .slice sp m c2) (l2 : List Int) (hl2 : l2.length = m) (hsrc : Src w k sp l2)
    (h63 : m ≤ maxLen) (hby : m * b ≤ 140737488355328)
    (h : ∀ a' c' w', WinS w' k E a' c' l2 → Below w.heap.size w w' → (∀ q, blk a' = some q → q = g ∨ w.heap.size ≤ q) → K (a.put o.dst (.slice a' m c')) w') :
    if Region.wanted o (yielded ops a.tmps) = true then Oper.wp P o a w K Q else K (a.put o.dst undef) w := by
  obtain ⟨A', c', w', h1, h2, h3, h4⟩ := run_append_new (P := P) w t o.type E k b ht hI g hown sp m c2 l2 hl2 hsrc h63 hby
  rw [if_pos (by simp [Region.wanted, hgd])]
  unfold Oper.wp
  rw [show (execOp a.eval o).run P w = .ok (.value (.slice A' m c')) w' by simp [execOp, ho, resolve, invoke, builtin, hs, hx, h1, Result.andThen], Oper.upon_value]
  exact h A' c' w' h2 h3 h4
/-- A new slice with no room. -/
def NewP (k : IntKind) (E : TypeId) (B : Nat) (v : Value) (w : World) : Prop := ∃ g, v = .slice (some ⟨g, 0, none⟩) 0 0 ∧ WinS w k E (some ⟨g, 0, none⟩) 0 [] ∧ B ≤ g
theorem NewP_mono (k : IntKind) (E : TypeId) (B : Nat) : MonoV (NewP k E B) := fun v w w' h hb => by
  obtain ⟨g, h1, h2, h3⟩ := h
  exact ⟨g, h1, h2.below hb, h3⟩
/-- A slice of integers of the call's own, as a value: elements l, not below block B. -/
def AppP (k : IntKind) (E : TypeId) (B : Nat) (l : List Int) (v : Value) (w : World) : Prop := ∃ a c, v = .slice a l.length c ∧ WinS w k E a c l ∧ ∀ g, blk a = some g → B ≤ g
theorem AppP_mono (k : IntKind) (E : TypeId) (B : Nat) (l : List Int) : MonoV (AppP k E B l) := fun v w w' h hb => by
  obtain ⟨a, c, h1, h2, h3⟩ := h
  exact ⟨a, c, h1, h2.below hb, h3⟩
/-- A slice of integers, as a value: elements l, capacity c. -/
def SrcP (k : IntKind) (l : List Int) (m c : Nat) (v : Value) (w : World) : Prop := ∃ a, v = .slice a m c ∧ Src w k a l
theorem SrcP_mono (k : IntKind) (l : List Int) (m c : Nat) : MonoV (SrcP k l m c) := fun v w w' h hb => by
  obtain ⟨a, h1, h2⟩ := h
  exact ⟨a, h1, h2.below hb⟩
/-- A slice from n on, where it came in. -/
theorem Src.slc {w : World} {k : IntKind} {g o : Nat} {l : List Int} (h : Src w k (some ⟨g, o, none⟩) l) (n c : Nat) (hn : n ≤ l.length) (hc : l.length ≤ c) : Src w k (if c = n then some ⟨g, o, none⟩ else some ⟨g, o + n, none⟩) (l.drop n) := by
  by_cases e : c = n
  · rw [List.drop_eq_nil_of_le (by omega)]
    exact .inl rfl
  · rw [if_neg e]
    rcases h with rfl | ⟨g', o', e1, hcl⟩
    · exact .inl (by simp)
    · injection e1 with e1
      injection e1 with e1 e2 _
      subst e1 e2
      refine .inr ⟨g, o + n, rfl, fun j hj => ?_⟩
      rw [List.length_drop] at hj
      have := hcl (n + j) (by omega)
      rw [show o + n + j = o + (n + j) by omega, this]
      simp [List.getD_eq_getElem?_getD, List.getElem?_drop]
end Go.Proofs.Ytalkmbakglklbaa
