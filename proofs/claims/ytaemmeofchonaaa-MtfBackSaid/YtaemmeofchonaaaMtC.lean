/- Stage 13's contracts as propositions. -/
import Derived.Test.YtaemmeofchonaaaMtX
import Derived.Test.YtaemmeofchonaaaMtV
set_option linter.unusedVariables false
set_option linter.unusedSimpArgs false
namespace Go.Proofs.Ytaemmeofchonaaa
open Go.RowKit

def MNewC : Prop := ∀ (w : World), Calls Try.prog 15 #[] w fun e w' => e = .returned (.agg (ll idL)) ∧ Below w.heap.size w w'
def MValC : Prop := ∀ (l : List Int) (_ : Lst l) (w : World), Calls Try.prog 13 #[.agg (ll l)] w fun e w' => e = .returned (.bool (decide l.Nodup)) ∧ Below w.heap.size w w'
def MPutC : Prop := ∀ (l : List Int) (_ : Lst l) (c : Int) (_ : 0 ≤ c ∧ c ≤ 255) (w : World), Calls Try.prog 9 #[.agg (ll l), .int .u8 c] w fun e w' => e = .returned (.tuple #[.agg (ll (ptV l c).1), .int .i64 (ptV l c).2]) ∧ Below w.heap.size w w'
def MTakC : Prop := ∀ (l : List Int) (_ : Lst l) (p : Int) (_ : (Lit.int .i64 p).wf = true) (w : World), Calls Try.prog 11 #[.agg (ll l), .int .i64 p] w fun e w' => e = .returned (.tuple #[.agg (ll (tkR l p).1), .int .u8 (tkR l p).2.1, .bool (tkR l p).2.2]) ∧ Below w.heap.size w w'
/-- Bytes that a call has made. -/
structure NewB (w w' : World) (A : Option Nat) (c : Nat) (out : List Int) : Prop where
  own : OwnS w' .u8 5 A c out
  new : ∀ g, A = some g → w.heap.size ≤ g
  bel : Below w.heap.size w w'
def MFthC : Prop := ∀ (sp : Option Addr) (n cap : Nat) (q : List Int) (_ : q.length = n) (_ : Byts q) (_ : n ≤ 1000) (w : World) (_ : Src w .u8 sp q),
    Calls Try.prog 17 #[.slice sp n cap] w fun e w' => ∃ A c, e = .returned (.slice (ad0 A) n c) ∧ NewB w w' A c (fwV idL q)
def MBckC : Prop := ∀ (sp : Option Addr) (n cap : Nat) (q : List Int) (_ : q.length = n) (_ : Byts q) (_ : n ≤ 1000) (w : World) (_ : Src w .u8 sp q),
    Calls Try.prog 19 #[.slice sp n cap] w fun e w' => ∃ A c, e = .returned (.slice (ad0 A) n c) ∧ NewB w w' A c (bkV idL q)
def MWkC : Prop := ∀ w : World, Calls Try.prog 8 #[] w fun e w' => e = .returned (.bool true) ∧ Below w.heap.size w w'
theorem ptV_lst {l : List Int} (h : Lst l) (c : Int) : Lst (ptV l c).1 := by
  cases hp : posV l c with
  | none => rw [ptV_none hp]; exact h
  | some p =>
    rw [ptV_some hp]
    exact tkV_lst h (by rw [← h.1]; exact (posV_is l c p hp).1)
theorem ptV_pos {l : List Int} (h : Lst l) (c : Int) : -1 ≤ (ptV l c).2 ∧ (ptV l c).2 ≤ 255 := by
  cases hp : posV l c with
  | none => rw [ptV_none hp]; omega
  | some p =>
    rw [ptV_some hp]
    have := (posV_is l c p hp).1
    rw [h.1] at this
    show -1 ≤ (p : Int) ∧ (p : Int) ≤ 255
    omega
theorem tkR_lst {l : List Int} (h : Lst l) (p : Int) : Lst (tkR l p).1 := by
  unfold tkR
  split
  · exact tkV_lst h (by omega)
  · exact h
theorem tkR_byte {l : List Int} (h : Lst l) (p : Int) : 0 ≤ (tkR l p).2.1 ∧ (tkR l p).2.1 ≤ 255 := by
  unfold tkR
  split
  · exact h.bd _
  · show (0 : Int) ≤ 0 ∧ (0 : Int) ≤ 255
    omega
end Go.Proofs.Ytaemmeofchonaaa
