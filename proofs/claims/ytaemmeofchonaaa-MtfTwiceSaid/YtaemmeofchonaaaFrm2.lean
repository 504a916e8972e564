/- A whole row loaded by a guarded operation of a drawn region; a slice of integers as what an operation yields. Over any program. -/
import Derived.Test.YtaemmeofchonaaaFrm
import Derived.Test.YtaemmeofchonaaaGen
import Derived.Deep.MidRow
set_option linter.unusedVariables false
set_option linter.unusedSimpArgs false
namespace Go.Proofs.Ytaemmeofchonaaa
open Go.RowKit
theorem wanted_row {P : Program} {ops : Array Oper} {o : Oper} {a : Act} {w : World} {K : Act → World → Prop} {Q : Exit → Act → World → Prop} (j : Nat) (b : Bool) (hgd : o.guard = some (j, b)) (s : Nat) (hs : (ops[j]?).bind (·.dst) = some s) (hv : a.tmps[s]? = some (.bool b))
    (ty : TypeId) (x : Operand) (ho : o.op = .load ty x)
    (g : Nat) (hx : a.eval x = .pointer (some ⟨g, 0, none⟩)) (t : TypeId) (cs : Array Value) (fr : Nat × Nat) (d : TypeDesc) (hg : w.heap[g]? = some (.cells cs t fr))
    (hu : P.underlying ty = some d) (hd : (match d with | .struct _ | .array _ _ => true | _ => false) = true) (hi : (P.info? ty).map (·.size) = some cs.size)
    (h : K (a.put o.dst (.agg cs)) w) : if Region.wanted o (yielded ops a.tmps) = true then Oper.wp P o a w K Q else K (a.put o.dst undef) w := by
  rw [if_pos (by unfold Region.wanted; rw [hgd]; simp [yielded, hs, hv])]
  exact wp_load_row ty x ho g hx t cs fr d hg hu hd hi h
/-- A slice of these integers. -/
def IsL (n : Nat) (q : List Int) (v : Value) (w : World) : Prop := ∃ a c, v = .slice a n c ∧ Src w .i64 a q
theorem IsL_mono (n : Nat) (q : List Int) : MonoV (IsL n q) := fun v w w' h hb => by
  obtain ⟨a, c, e, hs⟩ := h
  exact ⟨a, c, e, hs.below hb⟩
end Go.Proofs.Ytaemmeofchonaaa
