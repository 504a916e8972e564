/- Stage 12's contracts as propositions; the library of what follows. -/
import Derived.Test.YtbegpakjojiblabPdB
import Derived.Test.YtbegpakjojiblabPdK
import Derived.Laws.BitsAllLaws
set_option linter.unusedVariables false
set_option linter.unusedSimpArgs false
namespace Go.Proofs.Ytbegpakjojiblab
open Go.RowKit

def NewC : Prop := ∀ (l : List Int) (_ : Lng l) (w : World),
    Calls Try.prog 7 #[.agg (lg l)] w fun e w' => e = .returned (.tuple #[.agg (sg (if tableV l then l else zL) 0 0), .int .i64 (if tableV l then 0 else 2)]) ∧ Below w.heap.size w w'
def ValC : Prop := ∀ (l : List Int) (_ : Lng l) (c n : Int) (_ : (Lit.int .i64 c).wf = true) (_ : (Lit.int .i64 n).wf = true) (w : World),
    Calls Try.prog 13 #[.agg (sg l c n)] w fun e w' => e = .returned (.bool (valC l c n)) ∧ Below w.heap.size w w'
def StpC : Prop := ∀ (l : List Int) (_ : Lng l) (c n b : Int) (_ : (Lit.int .i64 c).wf = true) (_ : (Lit.int .i64 n).wf = true) (_ : (Lit.int .i64 b).wf = true) (w : World),
    Calls Try.prog 8 #[.agg (sg l c n), .int .i64 b] w fun e w' => e = .returned (.tuple #[.agg (sg l (stC l c n b).1 (stC l c n b).2.1), .int .i64 (stC l c n b).2.2.1, .bool (stC l c n b).2.2.2]) ∧ Below w.heap.size w w'
def QckC : Prop := ∀ (l : List Int) (_ : Lng l) (w : World),
    Calls Try.prog 6 #[.agg (lg l)] w fun e w' => e = .returned (.tuple #[.agg (qg (if tableV l then quF l else zQ)), .int .i64 (if tableV l then 0 else 2)]) ∧ Below w.heap.size w w'
/-- What All gives: symbols, their bits, error. -/
def alG (l : List Int) (c n : Int) (out : List Int) (cnt : Int) : Nat → List Int → List Int × Int × Int
  | 0, _ => (out, cnt, 0)
  | _ + 1, [] => ([], 0, 50)
  | m + 1, b :: bs => if b = 0 ∨ b = 1 then
      match fndL l (2 * c + b) (n + 1) 258 with
      | some s => alG l 0 0 (out ++ [(s : Int)]) (cnt + 1) m bs
      | none => alG l (2 * c + b) (n + 1) out (cnt + 1) (m + 1) bs
    else ([], 0, 2)
def alR (l : List Int) (m : Int) (q : List Int) : List Int × Int × Int := if tableV l = true ∧ 0 ≤ m then alG l 0 0 [] 0 m.toNat q else ([], 0, 2)
def AllC : Prop := ∀ (l : List Int) (_ : Lng l) (m : Int) (_ : (Lit.int .i64 m).wf = true) (sp : Option Addr) (n cap : Nat) (q : List Int) (_ : q.length = n) (_ : n ≤ 1000000) (w : World) (_ : Src w .i64 sp q),
    Calls Try.prog 10 #[.agg (lg l), .int .i64 m, .slice sp n cap] w fun e w' => ∃ (A : Option Nat) (c : Nat), e = .returned (.tuple #[.slice (ad0 A) (alR l m q).1.length c, .int .i64 (alR l m q).2.1, .int .i64 (alR l m q).2.2]) ∧ Src w' .i64 (ad0 A) (alR l m q).1 ∧ Below w.heap.size w w'
def WkC : Prop := ∀ w : World, Calls Try.prog 5 #[] w fun e w' => e = .returned (.bool true) ∧ Below w.heap.size w w'
theorem i64_and1 (n : Int) : bits .and .i64 n 1 = n % 2 := by
  show IntKind.i64.wrap ((BitVec.ofInt 64 n &&& BitVec.ofInt 64 1).toNat : Int) = _
  have h1 : (BitVec.ofInt 64 n).toNat = (n % 18446744073709551616).toNat := by simp [BitVec.toNat_ofInt]
  have h2 : (BitVec.ofInt 64 1).toNat = 1 := by decide
  rw [BitVec.toNat_and, h1, h2, Nat.and_one_is_mod, IntKind.wrap_i64]
  omega
theorem sg_whole {w : World} {g : Nat} {t : TypeId} {fr : Nat × Nat} {l : List Int} {c n : Int} (hg : w.heap[g]? = some (.cells (sg l c n) t fr)) : w.rangeAt g 0 (sgl l c n) := fun j v hv => by
  rw [cell_of_row w g (0 + j) _ t fr hg, Nat.zero_add]
  show (sgl l c n).toArray[j]? = some v
  rw [List.getElem?_toArray]
  exact hv
theorem below_al (w : World) (o : Obj) : Below w.heap.size w (w.alloc o) := (Below.refl _ _).alloc (Nat.le_refl _) _
/-- A decoder's step from bits that begin with no code. -/
theorem stC_tell {l : List Int} (h : TL l) {c n : Nat} (hp : Pre l c n) {b : Int} (hb : b = 0 ∨ b = 1) :
    (∃ s : Nat, stC l (c : Int) (n : Int) b = (0, 0, (s : Int), true) ∧ s < 258 ∧ l.getD s 0 = ((n + 1 : Nat) : Int) ∧ fndL l (2 * (c : Int) + b) ((n : Int) + 1) 258 = some s ∧ n + 1 ≤ 15) ∨
    (∃ c2 : Nat, stC l (c : Int) (n : Int) b = ((c2 : Int), ((n + 1 : Nat) : Int), 0, false) ∧ (c2 : Int) = 2 * (c : Int) + b ∧ Pre l c2 (n + 1)) := by
  have hv := hp.valid h
  obtain ⟨B, rfl, hB⟩ : ∃ B : Nat, b = (B : Int) ∧ B ≤ 1 := ⟨b.toNat, by omega, by omega⟩
  have e1 : (2 * (c : Int) + (B : Int)) = ((2 * c + B : Nat) : Int) := by omega
  have e2 : ((n : Int) + 1) = ((n + 1 : Nat) : Int) := by omega
  cases hf : fndL l (2 * (c : Int) + (B : Int)) ((n : Int) + 1) 258 with
  | some s =>
    left
    obtain ⟨s1, s2, s3, s4⟩ := fndL_is l _ _ 258 s hf
    have := h.vl.small s
    exact ⟨s, stC_some hv hb hf, s1, by omega, rfl, by omega⟩
  | none =>
    right
    refine ⟨2 * c + B, ?_, e1.symm, ?_⟩
    · rw [stC_none hv hb hf, e1, e2]
    · rw [e1, e2] at hf
      exact hp.next h B hB hf
end Go.Proofs.Ytbegpakjojiblab
