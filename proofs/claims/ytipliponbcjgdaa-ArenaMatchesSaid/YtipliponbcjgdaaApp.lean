/- Laws over any program: append to a new empty slice. -/
import Derived.Test.YtipliponbcjgdaaLib
set_option linter.unusedVariables false
set_option linter.unusedSimpArgs false
namespace Go.Proofs.Ytipliponbcjgdaa
open Go.RowKit
section
variable {P : Program}

/-- A slice of integers in memory of the call's own: its block is not below B. -/
def OwnI (B : Nat) (w : World) (k : IntKind) (E : TypeId) (v : Value) (l : List Int) : Prop :=
  ∃ g cap cur, v = .slice (some ⟨g, 0, none⟩) l.length cap ∧ B ≤ g ∧ w.heap[g]? = some (.cells cur E (0, 0)) ∧ l.length ≤ cap ∧ cap ≤ maxLen ∧ cur.size = cap ∧ cur.toList.take l.length = l.map (Value.int k)

theorem OwnI.of_row {B : Nat} {w : World} {k : IntKind} {E : TypeId} {v : Value} {n : Nat} {l : List Int} (h : w.ownsRow B E 1 v n (l.map (Value.int k))) (hn : l.length = n) (h0 : 0 < n) : OwnI B w k E v l := by
  rcases h.2 with ⟨_, h1⟩ | ⟨g, cap, cur, hv, hg, hh, h1, h2, h3, h4⟩
  · omega
  · refine ⟨g, cap, cur, by rw [hv, hn], hg, hh, by omega, h2, by omega, ?_⟩
    rw [hn, ← h4]
    congr 1
    omega

theorem run_append_zero (w : World) (t ty E : TypeId) (i : TypeInfo) (ht : P.underlying t = some (.slice E)) (hi : P.info? E = some i) (g : Nat) (sp : Option Addr) (c : Nat) :
    (Builtin.append_ #[t, t] ty #[.slice (some ⟨g, 0, none⟩) 0 0, .slice sp 0 c]).run P w = .ok (.slice (some ⟨g, 0, none⟩) 0 0) w := by
  cases sp <;> simp [Builtin.append_, run_underlying ht, sizeOf, typeInfo, hi, Builtin.lenOf, Builtin.firstCells, loadCells, loadCellsFrom, storeCells]

theorem wpList_append_fresh {ops : Array Oper} {rest : List Oper} {o : Oper} {a : Act} {w : World} {Q : Exit → Act → World → Prop} (hgd : o.guard = none) (s x : Operand) (t : TypeId)
    (ho : o.op = .call { callee := .builtin .append, args := #[s, x], argTypes := #[t, t] })
    (E : TypeId) (k : IntKind) (b : Nat) (ht : P.underlying t = some (.slice E)) (hI : (P.info? E).map (fun i => (i.zero, i.size, i.bytes)) = some (some (.int k 0), 1, b))
    (g : Nat) (hs : a.eval s = .slice (some ⟨g, 0, none⟩) 0 0) (hg : w.heap[g]? = some (.cells #[] E (0, 0)))
    (sp : Option Addr) (m c : Nat) (hx : a.eval x = .slice sp m c) (l : List Int) (hl : l.length = m) (hsrc : Src w k sp l)
    (h63 : m ≤ maxLen) (hby : m * b ≤ 140737488355328) (B : Nat) (hB : B ≤ g)
    (h : ∀ v' w', OwnI B w' k E v' l → w.grownBy w' (some g) → wpList P ops Q rest (a.put o.dst v') w') : wpList P ops Q (o :: rest) a w := by
  obtain ⟨i, hi, hz0, hz1, hz2⟩ := info_parts hI
  have hglt : g < w.heap.size := (Array.getElem?_eq_some_iff.1 hg).1
  rcases hsrc with rfl | ⟨sg, so, rfl, hc⟩
  · simp at hl
    subst hl
    refine wpList_ran hgd (.slice (some ⟨g, 0, none⟩) 0 0) w ?_ (h _ _ ⟨g, 0, #[], rfl, hB, hg, Nat.le_refl _, Nat.zero_le _, rfl, rfl⟩ (grownBy_refl _ _))
    have hr := run_append_zero (P := P) w t o.type E i ht hi g sp c
    simp [execOp, ho, resolve, invoke, builtin, hs, hx, hr, Result.andThen]
  · by_cases h0 : m = 0
    · subst h0
      have := List.eq_nil_of_length_eq_zero hl
      subst this
      refine wpList_ran hgd (.slice (some ⟨g, 0, none⟩) 0 0) w ?_ (h _ _ ⟨g, 0, #[], rfl, hB, hg, Nat.le_refl _, Nat.zero_le _, rfl, rfl⟩ (grownBy_refl _ _))
      have hr := run_append_zero (P := P) w t o.type E i ht hi g (some ⟨sg, so, none⟩) c
      simp [execOp, ho, resolve, invoke, builtin, hs, hx, hr, Result.andThen]
    · refine wpList_append_own w hgd s x t ho B E i (.int k 0) 1 b ht hi hz0 hz1 hz2 rfl (by decide) (.slice (some ⟨g, 0, none⟩) 0 0) 0 [] hs ⟨rfl, .inr ⟨g, 0, #[], rfl, hB, hg, Nat.le_refl _, Nat.zero_le _, rfl, rfl⟩⟩
        ⟨sg, so, none⟩ m c (l.map (Value.int k)) hx (by simp [hl]) ?_ ?_ (by omega) (by rw [Nat.zero_add]; exact hby) (by omega) ?_
      · intro j u hj
        have hjn : j < l.length := by
          have := (List.getElem?_eq_some_iff.1 hj).1
          simpa using this
        rw [add_lit, hc j hjn]
        simp only [List.getElem?_map, List.getElem?_eq_getElem hjn] at hj
        rw [← hj]
        simp [hjn]
      · intro u hu
        simp only [List.mem_map] at hu
        obtain ⟨z, _, rfl⟩ := hu
        rfl
      · intro v' w' hown hgr _
        rw [List.nil_append, Nat.zero_add] at hown
        exact h v' w' (OwnI.of_row hown hl (by omega)) hgr

theorem OwnI.cells {B : Nat} {w : World} {k : IntKind} {E : TypeId} {v : Value} {l : List Int} (h : OwnI B w k E v l) :
    ∃ g cap cur, v = .slice (some ⟨g, 0, none⟩) l.length cap ∧ B ≤ g ∧ l.length ≤ cap ∧ cap ≤ maxLen ∧ w.heap[g]? = some (.cells cur E (0, 0)) ∧ cur.size = cap ∧ ∀ j, j < l.length → cur[j]? = some (.int k (l.getD j 0)) := by
  obtain ⟨g, cap, cur, h1, h2, h3, h4, h5, h6, h7⟩ := h
  refine ⟨g, cap, cur, h1, h2, h4, h5, h3, h6, fun j hj => ?_⟩
  have : (cur.toList.take l.length)[j]? = (l.map (Value.int k))[j]? := by rw [h7]
  rw [List.getElem?_take, if_pos hj, List.getElem?_map, List.getElem?_eq_getElem hj] at this
  simpa [hj] using this
/-- Cells that read as integers are a source. -/
theorem Src.of_cur {w : World} {k : IntKind} {E : TypeId} {g : Nat} {cur : Array Value} {fr : Nat × Nat} {l : List Int} (hg : w.heap[g]? = some (.cells cur E fr)) (o : Nat) (hc : ∀ j, j < l.length → cur[o + j]? = some (.int k (l.getD j 0))) : Src w k (some ⟨g, o, none⟩) l :=
  .inr ⟨g, o, rfl, fun j hj => by simp only [World.cell?, hg]; exact hc j hj⟩
end
end Go.Proofs.Ytipliponbcjgdaa
