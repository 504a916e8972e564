/- Laws over any program: a slice of integers that lies anywhere in a row of the call's own (a window); append onto it, slicing of it. -/
import Derived.Test.YtaemmeofchonaaaCh
import Derived.ArgAppend
set_option linter.unusedVariables false
set_option linter.unusedSimpArgs false
namespace Go.Proofs.Ytaemmeofchonaaa
open Go.RowKit

/-- The block of a slice's address. -/
def blk (a : Option Addr) : Option Nat := a.map (·.block)
theorem blk_none : blk none = none := rfl
theorem blk_some (x : Addr) : blk (some x) = some x.block := rfl
theorem ownBlock_blk (a : Option Addr) (n c : Nat) : (Value.slice a n c).ownBlock = blk a := by cases a <;> rfl

/-- A slice of integers in a row of the call's own; elements l, capacity c. -/
def WinS (w : World) (k : IntKind) (E : TypeId) (a : Option Addr) (c : Nat) (l : List Int) : Prop :=
  (a = none ∧ l = [] ∧ c = 0) ∨
  ∃ g o cur, a = some ⟨g, o, none⟩ ∧ w.heap[g]? = some (.cells cur E (0, 0)) ∧ l.length ≤ c ∧ c ≤ maxLen ∧ o + c ≤ cur.size ∧ ∀ j, j < l.length → cur[o + j]? = some (.int k (l.getD j 0))

section
variable {w w' : World} {k : IntKind} {E : TypeId} {a : Option Addr} {c : Nat} {l : List Int}
theorem WinS.nil (w : World) (k : IntKind) (E : TypeId) : WinS w k E none 0 [] := .inl ⟨rfl, rfl, rfl⟩
theorem WinS.cap (h : WinS w k E a c l) : l.length ≤ c ∧ c ≤ maxLen := by
  rcases h with ⟨rfl, rfl, rfl⟩ | ⟨g, o, cur, rfl, h1, h2, h3, _⟩
  · exact ⟨Nat.le_refl _, by unfold maxLen; omega⟩
  · exact ⟨h2, h3⟩
theorem WinS.src (h : WinS w k E a c l) : Src w k a l := by
  rcases h with ⟨rfl, rfl, rfl⟩ | ⟨g, o, cur, rfl, h1, h2, h3, h4, h5⟩
  · exact .inl rfl
  · exact .inr ⟨g, o, rfl, fun j hj => by simp only [World.cell?, h1]; exact h5 j hj⟩
theorem WinS.lt (h : WinS w k E a c l) {g : Nat} (hg : blk a = some g) : g < w.heap.size := by
  rcases h with ⟨rfl, rfl, rfl⟩ | ⟨g', o, cur, rfl, h1, _⟩
  · cases hg
  · injection hg with hg
    subst hg
    exact (Array.getElem?_eq_some_iff.1 h1).1
theorem WinS.row (h : WinS w k E a c l) {g : Nat} (hg : blk a = some g) : ∃ cur, w.heap[g]? = some (.cells cur E (0, 0)) := by
  rcases h with ⟨rfl, rfl, rfl⟩ | ⟨g', o, cur, rfl, h1, _⟩
  · cases hg
  · injection hg with hg
    subst hg
    exact ⟨cur, h1⟩
theorem WinS.ch {S : Nat → Prop} (h : WinS w k E a c l) (hc : Ch S w w') (hn : ∀ g, blk a = some g → ¬ S g) : WinS w' k E a c l := by
  rcases h with h | ⟨g, o, cur, rfl, h1, r⟩
  · exact .inl h
  · exact .inr ⟨g, o, cur, rfl, hc.heap h1 (hn g rfl), r⟩
theorem WinS.below (h : WinS w k E a c l) (hb : Below w.heap.size w w') : WinS w' k E a c l := h.ch (Ch.of_below (S := fun _ => False) hb) (fun _ _ e => e)
theorem WinS.alloc (h : WinS w k E a c l) (o : Obj) : WinS (w.alloc o) k E a c l := h.below ((Below.refl _ _).alloc (Nat.le_refl _) _)
/-- The rest of a window. -/
theorem WinS.drop (h : WinS w k E a c l) (n : Nat) (hn : n ≤ l.length) : WinS w k E (if c = n then a else a.map (·.add n)) (c - n) (l.drop n) := by
  rcases h with ⟨rfl, rfl, rfl⟩ | ⟨g, o, cur, rfl, h1, h2, h3, h4, h5⟩
  · simp at hn
    subst hn
    exact .inl ⟨rfl, rfl, rfl⟩
  · by_cases hc : c = n
    · rw [if_pos hc]
      refine .inr ⟨g, o, cur, rfl, h1, by rw [List.length_drop]; omega, by unfold maxLen at *; omega, by omega, fun j hj => ?_⟩
      rw [List.length_drop] at hj
      omega
    · rw [if_neg hc]
      refine .inr ⟨g, o + n, cur, by rw [Option.map_some, add_lit], h1, by rw [List.length_drop]; omega, by unfold maxLen at *; omega, by omega, fun j hj => ?_⟩
      rw [List.length_drop] at hj
      have := h5 (n + j) (by omega)
      rw [show o + n + j = o + (n + j) by omega, this]
      simp [List.getD_eq_getElem?_getD, List.getElem?_drop]
theorem WinS.dropBlk (a : Option Addr) (c n : Nat) : blk (if c = n then a else a.map (·.add n)) = blk a := by
  by_cases h : c = n
  · rw [if_pos h]
  · rw [if_neg h]
    cases a with
    | none => rfl
    | some x =>
      simp only [blk, Option.map_some, Addr.add]
      split <;> rfl
theorem WinS.of_own {A : Option Nat} (h : OwnS w k E A c l) : WinS w k E (ad0 A) c l := by
  cases A with
  | none =>
    have hl : l = [] := by
      by_cases hl : 0 < l.length
      · obtain ⟨g, h1⟩ := h.pos hl
        cases h1
      · exact List.eq_nil_of_length_eq_zero (by omega)
    subst hl
    have := h.2
    rcases this with ⟨h1, h2⟩ | ⟨g, cap, cur, h1, _⟩
    · simp [ad0] at h1
      exact .inl ⟨rfl, rfl, h1⟩
    · simp [ad0] at h1
  | some g =>
    obtain ⟨cur, h1, h2, h3, h4, h5⟩ := h.row
    exact .inr ⟨g, 0, cur, rfl, h1, h2, h3, by omega, fun j hj => by rw [Nat.zero_add]; exact h5 j hj⟩
theorem blk_ad0 (A : Option Nat) : blk (ad0 A) = A := by cases A <;> rfl
end

section
variable {P : Program}
theorem run_append_zero (w : World) (t ty E : TypeId) (i : TypeInfo) (ht : P.underlying t = some (.slice E)) (hi : P.info? E = some i) (a : Option Addr) (n c : Nat) (hn : n ≤ c) (sp : Option Addr) (c2 : Nat) :
    (Builtin.append_ #[t, t] ty #[.slice a n c, .slice sp 0 c2]).run P w = .ok (.slice a n c) w := by
  cases a <;> cases sp <;> simp [Builtin.append_, run_underlying ht, sizeOf, typeInfo, hi, Builtin.lenOf, Builtin.firstCells, loadCells, loadCellsFrom, storeCells, hn]

/-- append(s, t...), both of integers, s a window. -/
theorem run_appendW (w : World) (t ty E : TypeId) (k : IntKind) (b : Nat) (ht : P.underlying t = some (.slice E)) (hI : (P.info? E).map (fun i => (i.zero, i.size, i.bytes)) = some (some (.int k 0), 1, b))
    (a : Option Addr) (c : Nat) (l : List Int) (n : Nat) (hn : l.length = n) (hown : WinS w k E a c l) (sp : Option Addr) (m c2 : Nat) (l2 : List Int) (hl2 : l2.length = m) (hsrc : Src w k sp l2)
    (h63 : n + m ≤ maxLen) (hby : (n + m) * b ≤ 140737488355328) :
    ∃ a' c' w', (Builtin.append_ #[t, t] ty #[.slice a n c, .slice sp m c2]).run P w = .ok (.slice a' (n + m) c') w' ∧ WinS w' k E a' c' (l ++ l2) ∧ w.grownBy w' (blk a) ∧ (blk a' = blk a ∨ blk a' = some w.heap.size) := by
  subst hn
  obtain ⟨i, hi, hz0, hz1, hz2⟩ := info_parts hI
  by_cases h0 : m = 0
  · subst h0
    have := List.eq_nil_of_length_eq_zero hl2
    subst this
    exact ⟨a, c, w, by rw [Nat.add_zero]; exact run_append_zero w t ty E i ht hi a l.length c hown.cap.1 sp c2, by rw [List.append_nil]; exact hown, grownBy_refl _ _, .inl rfl⟩
  · rcases hsrc with rfl | ⟨sg, so, rfl, hc⟩
    · simp at hl2
      omega
    · have hnews : ∀ j u, (l2.map (Value.int k))[j]? = some u → w.cell? ((⟨sg, so, none⟩ : Addr).add j) = some u := by
        intro j u hj
        have hjn : j < l2.length := by
          have := (List.getElem?_eq_some_iff.1 hj).1
          simpa using this
        rw [add_lit, hc j hjn]
        simp only [List.getElem?_map, List.getElem?_eq_getElem hjn] at hj
        rw [← hj]
        simp [hjn]
      have h1 : ∀ u ∈ l2.map (Value.int k), u.oneCell' = true := by
        intro u hu
        simp only [List.mem_map] at hu
        obtain ⟨z, _, rfl⟩ := hu
        rfl
      rcases hown with ⟨rfl, rfl, rfl⟩ | ⟨g, o, cur, rfl, hg, hlc, hcm, hoc, hcl⟩
      · obtain ⟨v', w', e1, e2, e3, _, e5⟩ := run_append_own_at (P := P) w 0 t ty E i (.int k 0) 1 b ht hi hz0 hz1 hz2 rfl (by decide) (.slice none 0 0) 0 [] (World.ownsRow_nil w 0 E 1) ⟨sg, so, none⟩ m c2 (l2.map (Value.int k)) (by simp [hl2]) hnews h1 (by simpa using h63) (by simpa using hby) (Nat.zero_le _)
        rw [List.nil_append] at e2
        obtain ⟨A', c', rfl, h6⟩ := ownS_mk (l := l2) e2 (by rw [hl2, Nat.zero_add])
        refine ⟨ad0 A', c', w', by rw [List.length_nil, Nat.zero_add, e1, hl2], by rw [List.nil_append]; exact WinS.of_own h6, e3, ?_⟩
        rw [ownBlock_ad0] at e5
        rw [blk_ad0]
        exact e5
      · by_cases hroom : l.length + m ≤ c
        · have hf := run_firstCells_some (P := P) w i.size m ⟨sg, so, none⟩ m c2 (l2.map (Value.int k)) (by rw [hz1]; simp [hl2]) hnews
          have hst := run_storeCells_at P g (o + l.length) E (l2.map (Value.int k)) 0 cur w hg (by simp [hl2]; omega) h1
          simp only [Nat.add_zero] at hst
          rw [hz1] at hf
          refine ⟨some ⟨g, o, none⟩, c, w.setRow g (cur.toList.take (o + l.length) ++ l2.map (Value.int k) ++ cur.toList.drop (o + l.length + (l2.map (Value.int k)).length)).toArray, ?_, ?_, setRow_grown w g _, .inl rfl⟩
          · simp [Builtin.append_, run_underlying ht, sizeOf, typeInfo, hi, Builtin.lenOf, hroom, hf, add_lit, hz1, hst]
          · refine .inr ⟨g, o, _, rfl, setRow_heap w g cur _ E _ hg, by rw [List.length_append, hl2]; exact hroom, hcm, ?_, fun j hj => ?_⟩
            · simp [hl2]
              omega
            · rw [List.length_append, hl2] at hj
              rw [List.getElem?_toArray]
              by_cases hjl : j < l.length
              · rw [List.append_assoc, List.getElem?_append_left (by simp; omega), List.getElem?_take, if_pos (by omega), Array.getElem?_toList, hcl j hjl]
                simp [List.getD_eq_getElem?_getD, List.getElem?_append_left hjl]
              · rw [List.append_assoc, List.getElem?_append_right (by simp; omega), List.getElem?_append_left (by simp; omega)]
                simp only [List.length_take, Array.length_toList, List.getElem?_map, List.getD_eq_getElem?_getD]
                rw [List.getElem?_append_right (by omega), Nat.min_eq_left (by omega), show o + j - (o + l.length) = j - l.length by omega, List.getElem?_eq_getElem (by omega)]
                rfl
        · obtain ⟨v', w', e1, e2, e3⟩ := run_append_arg_grows (P := P) w t ty E i (.int k 0) 1 b ht hi hz0 hz1 hz2 rfl (by decide) ⟨g, o, none⟩ l.length c (l.map (Value.int k)) (by simp) (by
            intro j u hj
            have hjn : j < l.length := by
              have := (List.getElem?_eq_some_iff.1 hj).1
              simpa using this
            rw [add_lit]
            simp only [World.cell?, hg]
            rw [hcl j hjn]
            simp only [List.getElem?_map, List.getElem?_eq_getElem hjn] at hj
            rw [← hj]
            simp [hjn]) ⟨sg, so, none⟩ m c2 (l2.map (Value.int k)) (by simp [hl2]) hnews (by omega) h63 hby
          rw [← List.map_append] at e2
          have hlt : v'.ownBlock = some w.heap.size ∨ v'.ownBlock = none := by
            rcases e2.2 with ⟨rfl, _⟩ | ⟨g', cap, cur', rfl, h2, h3, _⟩
            · exact .inr rfl
            · exact .inl (by
                have hr := run_append_grow (P := P) w t ty E i (.int k 0) ht hi hz0 ⟨g, o, none⟩ l.length c (l.map (Value.int k)) (by rw [hz1]; simp) (by
                  intro j u hj
                  have hjn : j < l.length := by
                    have := (List.getElem?_eq_some_iff.1 hj).1
                    simpa using this
                  rw [add_lit]
                  simp only [World.cell?, hg]
                  rw [hcl j hjn]
                  simp only [List.getElem?_map, List.getElem?_eq_getElem hjn] at hj
                  rw [← hj]
                  simp [hjn]) ⟨sg, so, none⟩ m c2 (l2.map (Value.int k)) (by rw [hz1]; simp [hl2]) hnews (by omega) (by unfold maxLen at h63; omega) (by rw [hz2]; exact growslice_fits (by omega) hby)
                rw [e1] at hr
                injection hr with hr _
                injection hr with hr _
                injection hr with hr
                rw [hr]
                rfl)
          have e2' : w'.ownsRow 0 E 1 v' (l.length + m) ((l ++ l2).map (Value.int k)) := by
            refine ⟨e2.1, ?_⟩
            rcases e2.2 with h | ⟨g', cap, cur', h1, h2, r⟩
            · exact .inl h
            · exact .inr ⟨g', cap, cur', h1, Nat.zero_le _, r⟩
          obtain ⟨A', c', rfl, h6⟩ := ownS_mk e2' (by rw [List.length_append, hl2])
          refine ⟨ad0 A', c', w', by rw [e1, List.length_append, hl2], WinS.of_own h6, ⟨e3.os, e3.tape, e3.output, e3.size, fun q hq _ => e3.block q hq (by simp)⟩, ?_⟩
          rw [ownBlock_ad0] at hlt
          rw [blk_ad0]
          rcases hlt with h | h
          · exact .inr h
          · subst h
            rcases h6.2 with ⟨h8, h9⟩ | ⟨g', cap, cur', h8, _⟩
            · simp [hl2] at h9
              omega
            · simp [ad0] at h8

theorem wpList_appendW {ops : Array Oper} {rest : List Oper} {o : Oper} {a : Act} {w : World} {Q : Exit → Act → World → Prop} (hgd : o.guard = none) (s x : Operand) (t : TypeId)
    (ho : o.op = .call { callee := .builtin .append, args := #[s, x], argTypes := #[t, t] })
    (E : TypeId) (k : IntKind) (b : Nat) (ht : P.underlying t = some (.slice E)) (hI : (P.info? E).map (fun i => (i.zero, i.size, i.bytes)) = some (some (.int k 0), 1, b))
    (ad : Option Addr) (c : Nat) (l : List Int) (n : Nat) (hn : l.length = n) (hs : a.eval s = .slice ad n c) (hown : WinS w k E ad c l) (sp : Option Addr) (m c2 : Nat) (hx : a.eval x = .slice sp m c2) (l2 : List Int) (hl2 : l2.length = m) (hsrc : Src w k sp l2)
    (h63 : n + m ≤ maxLen) (hby : (n + m) * b ≤ 140737488355328)
    (h : ∀ a' c' w', WinS w' k E a' c' (l ++ l2) → w.grownBy w' (blk ad) → (blk a' = blk ad ∨ blk a' = some w.heap.size) → wpList P ops Q rest (a.put o.dst (.slice a' (n + m) c')) w') : wpList P ops Q (o :: rest) a w := by
  obtain ⟨A', c', w', h1, h2, h3, h4⟩ := run_appendW (P := P) w t o.type E k b ht hI ad c l n hn hown sp m c2 l2 hl2 hsrc h63 hby
  refine wpList_ran hgd _ w' ?_ (h A' c' w' h2 h3 h4)
  simp [execOp, ho, resolve, invoke, builtin, hs, hx, h1, Result.andThen]
end
end Go.Proofs.Ytaemmeofchonaaa
