/- Laws over any program: slices and windows of integers, facts that hold on (the names of XByt's second half; a seat with bytes as well: let XByt import this). -/
import Derived.Test.YtaemmeofchonaaaList
import Derived.Test.YtaemmeofchonaaaWin
set_option linter.unusedVariables false
set_option linter.unusedSimpArgs false
namespace Go.Proofs.Ytaemmeofchonaaa
open Go.RowKit Go.ChangeShapes Go.WideShapes Go.Deep

theorem _root_.Go.RowKit.Below.setRow {B : Nat} {w w' : World} (h : Below B w w') {g : Nat} (hg : B ≤ g) (cs : Array Value) : Below B w (w'.setRow g cs) :=
  ⟨h.os, h.tape, h.output, by simpa using h.size, fun i hi => (setRow_other w' g i cs (by omega)).trans (h.block i hi)⟩
theorem Src.ch {S : Nat → Prop} {w w' : World} {k : IntKind} {sp : Option Addr} {l : List Int} (h : Src w k sp l) (hc : Ch S w w') (hn : 0 < l.length → ∀ x, sp = some x → ¬ S x.block) : Src w' k sp l := by
  rcases h with h | ⟨g, o, hx, hcl⟩
  · exact .inl h
  · exact .inr ⟨g, o, hx, fun j hj => hc.cell (hcl j hj) (hn (by omega) ⟨g, o, none⟩ hx)⟩
/-- A part of a slice that lies in memory from its beginning on, and the rest. -/
theorem Src.drop {w : World} {k : IntKind} {g o : Nat} {l : List Int} (h : Src w k (some ⟨g, o, none⟩) l) (n : Nat) : Src w k (some ⟨g, o + n, none⟩) (l.drop n) := by
  rcases h with rfl | ⟨g', o', e, hc⟩
  · exact .inl (by simp)
  · injection e with e
    injection e with e1 e2 _
    subst e1 e2
    refine .inr ⟨g, o + n, rfl, fun j hj => ?_⟩
    rw [List.length_drop] at hj
    have := hc (n + j) (by omega)
    rw [show o + n + j = o + (n + j) by omega, this]
    simp [List.getD_eq_getElem?_getD, List.getElem?_drop]
theorem IsRow.capMax {k : IntKind} {w : World} {a : Option Addr} {len cap : Nat} {zs : List Int} (h : IsRow k w a len cap zs) : cap ≤ maxLen := by
  rcases h with ⟨_, _, rfl, _⟩ | ⟨x, _, _, h2, _⟩
  · unfold maxLen; omega
  · exact h2
theorem heap_on {w w' : World} (hb : Below w.heap.size w w') {g : Nat} {o : Obj} (h : w.heap[g]? = some o) : w'.heap[g]? = some o :=
  (hb.block g (Array.getElem?_eq_some_iff.1 h).1).trans h
theorem cell_on {w w' : World} (hb : Below w.heap.size w w') {a : Addr} {v : Value} (h : w.cell? a = some v) : w'.cell? a = some v := (hb.cell (World.block_lt_of_cell? _ _ h)).trans h
theorem WinS.empty (w : World) (k : IntKind) (E : TypeId) : WinS (w.alloc (.cells #[] E)) k E (some ⟨w.heap.size, 0, none⟩) 0 [] :=
  .inr ⟨w.heap.size, 0, #[], rfl, heap_alloc_new w _, Nat.le_refl _, by unfold maxLen; omega, by simp, fun j hj => by simp at hj⟩
theorem WinS.lit {w : World} {k : IntKind} {E : TypeId} {g : Nat} {l : List Int} (h : w.heap[g]? = some (.cells (icells k l) E (0, 0))) (hm : l.length ≤ 1000000) : WinS w k E (some ⟨g, 0, none⟩) l.length l :=
  .inr ⟨g, 0, icells k l, rfl, h, Nat.le_refl _, by unfold maxLen; omega, by rw [icells_size]; omega, fun j hj => by
    rw [Nat.zero_add, icells_get]
    simp [List.getD_eq_getElem?_getD, hj]⟩
theorem WinS.take {w : World} {k : IntKind} {E : TypeId} {a : Option Addr} {c : Nat} {l : List Int} (h : WinS w k E a c l) (n : Nat) : WinS w k E a c (l.take n) := by
  rcases h with ⟨rfl, rfl, rfl⟩ | ⟨g, o, cur, rfl, h1, h2, h3, h4, h5⟩
  · exact .inl ⟨rfl, by simp, rfl⟩
  · refine .inr ⟨g, o, cur, rfl, h1, by rw [List.length_take]; omega, h3, h4, fun j hj => ?_⟩
    have hj' : j < n ∧ j < l.length := by
      rw [List.length_take] at hj
      omega
    rw [h5 j hj'.2]
    simp [List.getD_eq_getElem?_getD, List.getElem?_take, hj'.1]
/-- A whole row loaded by a guarded operation. -/
theorem wpList_load_row_g {P : Program} {ops : Array Oper} {rest : List Oper} {o : Oper} {a : Act} {w : World} {Q : Exit → Act → World → Prop} (j : Nat) (want : Bool) (hgd : o.guard = some (j, want)) (s : Nat) (hs : (ops[j]?).bind (·.dst) = some s) (v : Bool) (hv : a.tmps[s]? = some (.bool v)) (hvw : v = want)
    (ty : TypeId) (x : Operand) (ho : o.op = .load ty x)
    (g : Nat) (hx : a.eval x = .pointer (some ⟨g, 0, none⟩)) (t : TypeId) (cs : Array Value) (fr : Nat × Nat) (d : TypeDesc) (hg : w.heap[g]? = some (.cells cs t fr))
    (hu : P.underlying ty = some d) (hd : (match d with | .struct _ | .array _ _ => true | _ => false) = true) (hi : (P.info? ty).map (·.size) = some cs.size)
    (h : wpList P ops Q rest (a.put o.dst (.agg cs)) w) : wpList P ops Q (o :: rest) a w := by
  subst hvw
  refine BigFrame.wpList_want ?_ (fun K hK => wp_load_row ty x ho g hx t cs fr d hg hu hd hi (hK _ _ h))
  unfold Region.wanted
  rw [hgd]
  simp [yielded, hs, hv]
end Go.Proofs.Ytaemmeofchonaaa
