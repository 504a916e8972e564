/- Laws over any program: which blocks a step may change; slices of integers in memory of the call's own; append. -/
import Derived.Test.YtaemmeofchonaaaLib
import Derived.Maps.AppendAt
set_option linter.unusedVariables false
set_option linter.unusedSimpArgs false
namespace Go.Proofs.Ytaemmeofchonaaa
open Go.RowKit

/-- All old blocks outside S are as they were. -/
structure Ch (S : Nat → Prop) (w w' : World) : Prop where
  os : w'.os = w.os
  tape : w'.tape = w.tape
  output : w'.output = w.output
  size : w.heap.size ≤ w'.heap.size
  block : ∀ k, k < w.heap.size → ¬ S k → w'.heap[k]? = w.heap[k]?

theorem Ch.refl (S : Nat → Prop) (w : World) : Ch S w w := ⟨rfl, rfl, rfl, Nat.le_refl _, fun _ _ _ => rfl⟩
theorem Ch.trans {S S' : Nat → Prop} {a b c : World} (h : Ch S a b) (k : Ch S' b c) (hs : ∀ i, i < a.heap.size → S' i → S i) : Ch S a c :=
  ⟨k.os.trans h.os, k.tape.trans h.tape, k.output.trans h.output, Nat.le_trans h.size k.size,
   fun i hi hn => (k.block i (Nat.lt_of_lt_of_le hi h.size) (fun e => hn (hs i hi e))).trans (h.block i hi hn)⟩
theorem Ch.mono {S S' : Nat → Prop} {w w' : World} (h : Ch S w w') (hs : ∀ i, i < w.heap.size → S i → S' i) : Ch S' w w' :=
  ⟨h.os, h.tape, h.output, h.size, fun i hi hn => h.block i hi (fun e => hn (hs i hi e))⟩
theorem Ch.of_below {S : Nat → Prop} {w w' : World} (h : Below w.heap.size w w') : Ch S w w' := ⟨h.os, h.tape, h.output, h.size, fun k hk _ => h.block k hk⟩
theorem Ch.of_below' {S : Nat → Prop} {B : Nat} {w w' : World} (h : Below B w w') (hB : w.heap.size ≤ B) : Ch S w w' := Ch.of_below (h.mono hB)
theorem Ch.ofB {B : Nat} {w w' : World} (h : Below B w w') : Ch (fun k => B ≤ k) w w' := ⟨h.os, h.tape, h.output, h.size, fun k _ hn => h.block k (by omega)⟩
theorem Ch.below {S : Nat → Prop} {B : Nat} {w w' : World} (h : Ch S w w') (hB : B ≤ w.heap.size) (hS : ∀ k, S k → B ≤ k) : Below B w w' :=
  ⟨h.os, h.tape, h.output, h.size, fun k hk => h.block k (by omega) (fun e => by have := hS k e; omega)⟩
theorem Ch.of_grown {S : Nat → Prop} {w w' : World} {r : Option Nat} (h : w.grownBy w' r) (hr : ∀ k, r = some k → S k) : Ch S w w' :=
  ⟨h.os, h.tape, h.output, h.size, fun k hk hn => h.block k hk (fun e => hn (hr k e.symm))⟩
theorem Ch.heap {S : Nat → Prop} {w w' : World} (h : Ch S w w') {g : Nat} {o : Obj} (hg : w.heap[g]? = some o) (hn : ¬ S g) : w'.heap[g]? = some o :=
  (h.block g (Array.getElem?_eq_some_iff.1 hg).1 hn).trans hg
theorem Ch.cell {S : Nat → Prop} {w w' : World} (h : Ch S w w') {a : Addr} {v : Value} (hc : w.cell? a = some v) (hn : ¬ S a.block) : w'.cell? a = some v :=
  (World.cell?_of_block (h.block a.block (World.block_lt_of_cell? w a hc) hn)).trans hc
theorem Ch.src {S : Nat → Prop} {w w' : World} {k : IntKind} {sp : Option Addr} {l : List Int} (h : Ch S w w') (hs : Src w k sp l) (hn : ∀ a, sp = some a → ¬ S a.block) : Src w' k sp l := by
  rcases hs with hs | ⟨g, o, hx, hc⟩
  · exact .inl hs
  · exact .inr ⟨g, o, hx, fun j hj => h.cell (hc j hj) (hn ⟨g, o, none⟩ hx)⟩
theorem Ch.drew {S : Nat → Prop} {w w' : World} (h : Ch S w w') : Ch S w w'.drew := ⟨h.os, h.tape, h.output, h.size, h.block⟩
theorem Ch.drewN {S : Nat → Prop} {w w' : World} (h : Ch S w w') (n : Nat) : Ch S w (w'.drewN n) := ⟨h.os, h.tape, h.output, h.size, h.block⟩
theorem Ch.alloc {S : Nat → Prop} {w w' : World} (h : Ch S w w') (o : Obj) : Ch S w (w'.alloc o) :=
  ⟨h.os, h.tape, h.output, Nat.le_trans h.size (by simp), fun k hk hn => (Below.heap_alloc w' o k (Nat.lt_of_lt_of_le hk h.size)).trans (h.block k hk hn)⟩
theorem Ch.setCell {S : Nat → Prop} {w w' : World} (h : Ch S w w') (a : Addr) (v : Value) (hs : S a.block ∨ w.heap.size ≤ a.block) : Ch S w (w'.setCell a v) :=
  ⟨h.os, h.tape, h.output, by simpa using h.size, fun k hk hn => by
    rw [Below.heap_setCell _ _ _ _ (by rintro rfl; rcases hs with hs | hs; · exact hn hs
                                       · omega)]
    exact h.block k hk hn⟩
theorem Ch.grown {S : Nat → Prop} {w w' w'' : World} {r : Option Nat} (h : Ch S w w') (k : w'.grownBy w'' r) (hr : ∀ g, r = some g → S g ∨ w.heap.size ≤ g) : Ch S w w'' :=
  h.trans (Ch.of_grown (S := fun i => r = some i) k (fun g e => e)) (fun i hi e => by rcases hr i e with h1 | h1; · exact h1
                                                                                      · omega)
theorem Ch.thenBelow {S : Nat → Prop} {w w' w'' : World} (h : Ch S w w') (k : Below w'.heap.size w' w'') : Ch S w w'' := h.trans (Ch.of_below (S := fun _ => False) k) (fun _ _ e => e.elim)

/-- The address of a row's beginning. -/
def ad0 (A : Option Nat) : Option Addr := A.map fun g => ⟨g, 0, none⟩
theorem ad0_some (g : Nat) : ad0 (some g) = some ⟨g, 0, none⟩ := rfl
theorem ad0_none : ad0 none = none := rfl

/-- A slice of integers that owns its row A; elements l, capacity c. -/
def OwnS (w : World) (k : IntKind) (E : TypeId) (A : Option Nat) (c : Nat) (l : List Int) : Prop := w.ownsRow 0 E 1 (.slice (ad0 A) l.length c) l.length (l.map (Value.int k))
theorem ownBlock_ad0 (A : Option Nat) (n c : Nat) : (Value.slice (ad0 A) n c).ownBlock = A := by cases A <;> rfl

section
variable {w w' : World} {k : IntKind} {E : TypeId} {A : Option Nat} {c : Nat} {l : List Int}
theorem OwnS.nil (w : World) (k : IntKind) (E : TypeId) : OwnS w k E none 0 [] := World.ownsRow_nil _ _ _ _
theorem OwnS.lt (h : OwnS w k E A c l) {g : Nat} (hg : A = some g) : g < w.heap.size := (World.ownsRow.lt h g (by rw [ownBlock_ad0]; exact hg)).2
theorem OwnS.pos (h : OwnS w k E A c l) (hl : 0 < l.length) : ∃ g, A = some g := by
  rcases h.2 with ⟨h1, h2⟩ | ⟨g, cap, cur, h1, _⟩
  · omega
  · cases A with
    | none => simp [ad0] at h1
    | some g => exact ⟨g, rfl⟩
theorem OwnS.row {g : Nat} (h : OwnS w k E (some g) c l) : ∃ cur, w.heap[g]? = some (.cells cur E (0, 0)) ∧ l.length ≤ c ∧ c ≤ maxLen ∧ cur.size = c ∧ ∀ j, j < l.length → cur[j]? = some (.int k (l.getD j 0)) := by
  rcases h.2 with ⟨h1, h2⟩ | ⟨g', cap, cur, h1, h2, h3, h4, h5, h6, h7⟩
  · simp [ad0] at h1
  · simp only [ad0, Option.map_some, Value.slice.injEq, Option.some.injEq, Addr.mk.injEq] at h1
    obtain ⟨⟨rfl, _⟩, _, rfl⟩ := h1
    refine ⟨cur, h3, h4, h5, by omega, fun j hj => ?_⟩
    have : (cur.toList.take (l.length * 1))[j]? = (l.map (Value.int k))[j]? := by rw [h7]
    rw [List.getElem?_take, if_pos (by omega), List.getElem?_map, List.getElem?_eq_getElem hj] at this
    simpa [hj] using this
theorem OwnS.cap (h : OwnS w k E A c l) : l.length ≤ c ∧ c ≤ maxLen := by
  rcases h.2 with ⟨h1, h2⟩ | ⟨g, cap, cur, h1, h2, h3, h4, h5, _⟩
  · simp only [Value.slice.injEq] at h1
    obtain ⟨_, h3, rfl⟩ := h1
    exact ⟨by omega, by unfold maxLen; omega⟩
  · simp only [Value.slice.injEq] at h1
    obtain ⟨_, _, rfl⟩ := h1
    exact ⟨h4, h5⟩
theorem OwnS.src (h : OwnS w k E A c l) : Src w k (ad0 A) l := by
  cases A with
  | none =>
    by_cases hl : 0 < l.length
    · obtain ⟨g, h1⟩ := h.pos hl
      cases h1
    · exact .inl (List.eq_nil_of_length_eq_zero (by omega))
  | some g =>
    obtain ⟨cur, h1, _, _, _, h2⟩ := h.row
    exact .inr ⟨g, 0, rfl, fun j hj => by simp only [World.cell?, h1, Nat.zero_add]; exact h2 j hj⟩
theorem OwnS.cell {g : Nat} (h : OwnS w k E (some g) c l) (j : Nat) (hj : j < l.length) : w.cell? ⟨g, j, none⟩ = some (.int k (l.getD j 0)) := by
  obtain ⟨cur, h1, _, _, _, h2⟩ := h.row
  simp only [World.cell?, h1]
  exact h2 j hj
theorem OwnS.frozen {g : Nat} (h : OwnS w k E (some g) c l) (j : Nat) : w.frozen? ⟨g, j, none⟩ = false := by
  obtain ⟨cur, h1, _⟩ := h.row
  simp [World.frozen?, h1]
theorem OwnS.keep {row : Option Nat} (h : OwnS w k E A c l) (hg : w.grownBy w' row) (hr : ∀ g, A = some g → row ≠ some g) : OwnS w' k E A c l := by
  refine World.ownsRow.kept h hg ?_
  rw [ownBlock_ad0]
  cases A with
  | none => exact .inl rfl
  | some g => exact .inr (fun e => hr g rfl e.symm)
theorem OwnS.ch {S : Nat → Prop} (h : OwnS w k E A c l) (hc : Ch S w w') (hn : ∀ g, A = some g → ¬ S g) : OwnS w' k E A c l := by
  refine ⟨h.1, ?_⟩
  rcases h.2 with h1 | ⟨g, cap, cur, h1, h2, h3, r⟩
  · exact .inl h1
  · refine .inr ⟨g, cap, cur, h1, h2, hc.heap h3 (hn g ?_), r⟩
    have := congrArg Value.ownBlock h1
    rw [ownBlock_ad0] at this
    exact this
theorem OwnS.below (h : OwnS w k E A c l) (hb : Below w.heap.size w w') : OwnS w' k E A c l := h.ch (Ch.of_below (S := fun _ => False) hb) (fun _ _ e => e)
theorem OwnS.alloc (h : OwnS w k E A c l) (o : Obj) : OwnS (w.alloc o) k E A c l := World.ownsRow.alloc h o
/-- A store into the row. -/
theorem OwnS.set {g : Nat} (h : OwnS w k E (some g) c l) (j : Nat) (x : Int) (hj : j < l.length) : OwnS (w.setCell ⟨g, j, none⟩ (.int k x)) k E (some g) c (l.set j x) := by
  obtain ⟨cur, h1, h2, h3, h4, h5⟩ := h.row
  refine ⟨by simp, .inr ⟨g, c, cur.setIfInBounds j (.int k x), by simp [ad0], Nat.zero_le _, by simp [World.setCell, Array.getElem?_modify, h1], by simpa using h2, h3, by simpa using h4, ?_⟩⟩
  apply List.ext_getElem?
  intro i
  rw [List.getElem?_take, List.length_set, Nat.mul_one, List.getElem?_map, List.getElem?_set]
  by_cases hi : i < l.length
  · rw [if_pos hi, Array.getElem?_toList, Array.getElem?_setIfInBounds]
    by_cases e : j = i
    · subst e
      rw [if_pos rfl, if_pos rfl, if_pos hj, if_pos (by omega)]
      rfl
    · rw [if_neg e, if_neg e, h5 i hi]
      simp [hi]
  · rw [if_neg hi, if_neg (by omega), List.getElem?_eq_none (by omega)]
    rfl
end

theorem ownS_mk {w : World} {k : IntKind} {E : TypeId} {v : Value} {l : List Int} {n : Nat} (h : w.ownsRow 0 E 1 v n (l.map (Value.int k))) (hn : n = l.length) : ∃ A c, v = .slice (ad0 A) l.length c ∧ OwnS w k E A c l := by
  subst hn
  rcases h.2 with ⟨rfl, h2⟩ | ⟨g, cap, cur, rfl, _⟩
  · exact ⟨none, 0, by rw [h2]; rfl, by unfold OwnS; rw [h2]; rw [h2] at h; exact h⟩
  · exact ⟨some g, cap, rfl, h⟩

section
variable {P : Program}
theorem run_append_none (w : World) (t ty E : TypeId) (i : TypeInfo) (ht : P.underlying t = some (.slice E)) (hi : P.info? E = some i) (A : Option Nat) (n c : Nat) (hn : n ≤ c) (sp : Option Addr) (c2 : Nat) :
    (Builtin.append_ #[t, t] ty #[.slice (ad0 A) n c, .slice sp 0 c2]).run P w = .ok (.slice (ad0 A) n c) w := by
  cases A <;> cases sp <;> simp [ad0, Builtin.append_, run_underlying ht, sizeOf, typeInfo, hi, Builtin.lenOf, Builtin.firstCells, loadCells, loadCellsFrom, storeCells, hn]

/-- append(s, t...), both of integers, s of the call's own. -/
theorem run_appendI (w : World) (t ty E : TypeId) (k : IntKind) (b : Nat) (ht : P.underlying t = some (.slice E)) (hI : (P.info? E).map (fun i => (i.zero, i.size, i.bytes)) = some (some (.int k 0), 1, b))
    (A : Option Nat) (c : Nat) (l : List Int) (n : Nat) (hn : l.length = n) (hown : OwnS w k E A c l) (sp : Option Addr) (m c2 : Nat) (l2 : List Int) (hl2 : l2.length = m) (hsrc : Src w k sp l2)
    (h63 : n + m ≤ maxLen) (hby : (n + m) * b ≤ 140737488355328) :
    ∃ A' c' w', (Builtin.append_ #[t, t] ty #[.slice (ad0 A) n c, .slice sp m c2]).run P w = .ok (.slice (ad0 A') (n + m) c') w' ∧ OwnS w' k E A' c' (l ++ l2) ∧ w.grownBy w' A ∧ (A' = A ∨ A' = some w.heap.size) := by
  subst hn
  obtain ⟨i, hi, hz0, hz1, hz2⟩ := info_parts hI
  by_cases h0 : m = 0
  · subst h0
    have := List.eq_nil_of_length_eq_zero hl2
    subst this
    exact ⟨A, c, w, by rw [Nat.add_zero]; exact run_append_none w t ty E i ht hi A l.length c hown.cap.1 sp c2, by rw [List.append_nil]; exact hown, grownBy_refl _ _, .inl rfl⟩
  · rcases hsrc with rfl | ⟨sg, so, rfl, hc⟩
    · simp at hl2
      omega
    · obtain ⟨v', w', h1, h2, h3, _, h5⟩ := run_append_own_at (P := P) w 0 t ty E i (.int k 0) 1 b ht hi hz0 hz1 hz2 rfl (by decide) (.slice (ad0 A) l.length c) l.length (l.map (Value.int k)) hown ⟨sg, so, none⟩ m c2 (l2.map (Value.int k)) (by simp [hl2])
        (by
          intro j u hj
          have hjn : j < l2.length := by
            have := (List.getElem?_eq_some_iff.1 hj).1
            simpa using this
          rw [add_lit, hc j hjn]
          simp only [List.getElem?_map, List.getElem?_eq_getElem hjn] at hj
          rw [← hj]
          simp [hjn])
        (by
          intro u hu
          simp only [List.mem_map] at hu
          obtain ⟨z, _, rfl⟩ := hu
          rfl) h63 hby (Nat.zero_le _)
      rw [← List.map_append] at h2
      obtain ⟨A', c', rfl, h6⟩ := ownS_mk h2 (by rw [List.length_append, hl2])
      rw [ownBlock_ad0] at h3 h5
      rw [ownBlock_ad0] at h5
      refine ⟨A', c', w', by rw [h1, List.length_append, hl2], h6, h3, h5⟩

theorem wpList_appendI {ops : Array Oper} {rest : List Oper} {o : Oper} {a : Act} {w : World} {Q : Exit → Act → World → Prop} (hgd : o.guard = none) (s x : Operand) (t : TypeId)
    (ho : o.op = .call { callee := .builtin .append, args := #[s, x], argTypes := #[t, t] })
    (E : TypeId) (k : IntKind) (b : Nat) (ht : P.underlying t = some (.slice E)) (hI : (P.info? E).map (fun i => (i.zero, i.size, i.bytes)) = some (some (.int k 0), 1, b))
    (A : Option Nat) (c : Nat) (l : List Int) (n : Nat) (hn : l.length = n) (hs : a.eval s = .slice (ad0 A) n c) (hown : OwnS w k E A c l) (sp : Option Addr) (m c2 : Nat) (hx : a.eval x = .slice sp m c2) (l2 : List Int) (hl2 : l2.length = m) (hsrc : Src w k sp l2)
    (h63 : n + m ≤ maxLen) (hby : (n + m) * b ≤ 140737488355328)
    (h : ∀ A' c' w', OwnS w' k E A' c' (l ++ l2) → w.grownBy w' A → (A' = A ∨ A' = some w.heap.size) → wpList P ops Q rest (a.put o.dst (.slice (ad0 A') (n + m) c')) w') : wpList P ops Q (o :: rest) a w := by
  obtain ⟨A', c', w', h1, h2, h3, h4⟩ := run_appendI (P := P) w t o.type E k b ht hI A c l n hn hown sp m c2 l2 hl2 hsrc h63 hby
  refine wpList_ran hgd _ w' ?_ (h A' c' w' h2 h3 h4)
  simp [execOp, ho, resolve, invoke, builtin, hs, hx, h1, Result.andThen]

theorem Src.lt {w : World} {k : IntKind} {sp : Option Addr} {l : List Int} (h : Src w k sp l) (hl : 0 < l.length) : ∀ x, sp = some x → x.block < w.heap.size := by
  intro x hx
  rcases h with rfl | ⟨g, o, h1, hc⟩
  · simp at hl
  · rw [h1] at hx
    injection hx with hx
    subst hx
    exact World.block_lt_of_cell? w _ (hc 0 hl)
/-- make([]T, n, c), T a kind of integers. -/
theorem run_makeIc {T E : TypeId} {k : IntKind} {b : Nat} (hu : P.underlying T = some (.slice E)) (hI : (P.info? E).map (fun i => (i.zero, i.size, i.bytes)) = some (some (.int k 0), 1, b)) (kl kc : IntKind) (n c : Nat) (hnc : n ≤ c) (hb : b * c ≤ 281474976710656) (h63 : c ≤ 9223372036854775807) (w : World) :
    (Instr.makeSlice T (.int kl n) (.int kc c)).run P w = .ok (.slice (some ⟨w.heap.size, 0, none⟩) n c) (w.alloc (.cells (icells k (List.replicate c 0)) E)) := by
  obtain ⟨i, hi, hz, hs, hby⟩ := info_parts hI
  have hb' : (i.bytes : Int) * (c : Int) ≤ 281474976710656 := by
    rw [hby]
    have h : ((b * c : Nat) : Int) ≤ 281474976710656 := by omega
    rwa [Int.natCast_mul] at h
  have hr := run_make (P := P) w T E i (.int k 0) hu hi hz kl kc n c (by omega) (by omega) hb' (by omega)
  rw [hs] at hr
  simp only [Int.toNat_natCast, Nat.mul_one] at hr
  rw [hr]
  congr 2
  simp only [madeCells, icells, Value.cells]
  congr 1
  apply Array.ext
  · simp
  · intro i h1 h2
    simp [Nat.mod_one]

theorem Src.one {w : World} {k : IntKind} {g : Nat} {x : Int} (h : w.cell? ⟨g, 0, none⟩ = some (.int k x)) : Src w k (some ⟨g, 0, none⟩) [x] := .inr ⟨g, 0, rfl, fun j hj => by
  have : j = 0 := by simp at hj; omega
  subst this
  simpa using h⟩
end
end Go.Proofs.Ytaemmeofchonaaa
