/-
  No cell of these rows narrows 'for every input' (looked for: loops, veiled, ifaces, maps, wideKeys, modest, calm, conditions, laid).
  DERIVED. THE GIVEN ROWS OF THIS SEAT. 5 by the template 'for every input the law returns true; each argument reads behind the call as it read before'; 0 by the template 'total and deterministic' (their statements: YtaemmeofchonaaaTotals.lean).
  GIVEN WITH THE SEED: the statements are not yours to turn. If you find one false, say at which input.
  Laid BY PROGRAM, IN A SANDBOX (cutbox-rows.mjs): the forced cells as the released guide's own fill.sh prints them over the translation e4a80de34b2b2153… (all of the seat's roots in one cut). By AI agents, Wed Nov 11 2026. No macro, syntax, notation, axiom, sorry.
-/
import Derived.Test.YtaemmeofchonaaaChecked
import GoSem.Claim
import GoSem.ClaimJoined
import GoSem.ClaimMapViews
import Derived.JoinedTies
import Derived.KernelRfl
namespace Go.Proofs.Ytaemmeofchonaaa
/- THE CELL 'sum', in the pinned program and in every row, IS THE sha256 OF THE DUMP (.gsa) THAT YtaemmeofchonaaaProg.lean LOADS. Nothing in Lean hashes anything: it is a label: what it is worth is what the hold of that sum in a sandbox is worth. -/
noncomputable def Try.pinned : Pinned := { name := "ytaemmeofchonaaa", sum := "e4a80de34b2b215397c30ccfe967050fba2e57c0e896a912b77809a085ce8458", checked := Try.checked }
namespace Rows
def none {H : Type} : Left H := { results := [], args := [] }

/-- 'winepresslaw13.MtfMatches': WHATEVER THE INPUT: true; the input reads as it did. -/
def mtfMatchesSpec : ChangeSpec := { name := "mtfMatches", fn := fun _ => fun
  | [d1, d2, d3, d4] => { results := [.lit (.bool true)], args := [d1, d2, d3, d4] }
  | _ => none }
def mtfMatchesRow : OpenClaim := { program := "ytaemmeofchonaaa", sum := "e4a80de34b2b215397c30ccfe967050fba2e57c0e896a912b77809a085ce8458", func := "winepress/winepresslaw13.MtfMatches", spec := "mtfMatches", inPlace := ["internal/bytealg.IndexByte"], apart := false }
def MtfMatchesSaid : Prop := mtfMatchesRow.holds Try.pinned (OpenSpec.ofChange mtfMatchesSpec)

/-- ITS FALSE NEIGHBOUR: 'it returns false'. Refute it at one input. -/
def mtfMatchesWrong : ChangeSpec := { name := "mtfMatches", fn := fun _ => fun
  | [d1, d2, d3, d4] => { results := [.lit (.bool false)], args := [d1, d2, d3, d4] }
  | _ => none }
def MtfMatchesWrongFalsely : Prop := mtfMatchesRow.holds Try.pinned (OpenSpec.ofChange mtfMatchesWrong)

/-- 'winepresslaw13.MtfBack': WHATEVER THE INPUT: true; the input reads as it did. -/
def mtfBackSpec : ChangeSpec := { name := "mtfBack", fn := fun _ => fun
  | [d] => { results := [.lit (.bool true)], args := [d] }
  | _ => none }
def mtfBackRow : OpenClaim := { program := "ytaemmeofchonaaa", sum := "e4a80de34b2b215397c30ccfe967050fba2e57c0e896a912b77809a085ce8458", func := "winepress/winepresslaw13.MtfBack", spec := "mtfBack", inPlace := ["internal/bytealg.IndexByte"], apart := false }
def MtfBackSaid : Prop := mtfBackRow.holds Try.pinned (OpenSpec.ofChange mtfBackSpec)

/-- ITS FALSE NEIGHBOUR: 'it returns false'. Refute it at one input. -/
def mtfBackWrong : ChangeSpec := { name := "mtfBack", fn := fun _ => fun
  | [d] => { results := [.lit (.bool false)], args := [d] }
  | _ => none }
def MtfBackWrongFalsely : Prop := mtfBackRow.holds Try.pinned (OpenSpec.ofChange mtfBackWrong)

/-- 'winepresslaw13.MtfMoves': WHATEVER THE INPUT: true; the input reads as it did. -/
def mtfMovesSpec : ChangeSpec := { name := "mtfMoves", fn := fun _ => fun
  | [d1, d2] => { results := [.lit (.bool true)], args := [d1, d2] }
  | _ => none }
def mtfMovesRow : OpenClaim := { program := "ytaemmeofchonaaa", sum := "e4a80de34b2b215397c30ccfe967050fba2e57c0e896a912b77809a085ce8458", func := "winepress/winepresslaw13.MtfMoves", spec := "mtfMoves", inPlace := ["internal/bytealg.IndexByte"], apart := false }
def MtfMovesSaid : Prop := mtfMovesRow.holds Try.pinned (OpenSpec.ofChange mtfMovesSpec)

/-- ITS FALSE NEIGHBOUR: 'it returns false'. Refute it at one input. -/
def mtfMovesWrong : ChangeSpec := { name := "mtfMoves", fn := fun _ => fun
  | [d1, d2] => { results := [.lit (.bool false)], args := [d1, d2] }
  | _ => none }
def MtfMovesWrongFalsely : Prop := mtfMovesRow.holds Try.pinned (OpenSpec.ofChange mtfMovesWrong)

/-- 'winepresslaw13.MtfPlaces': WHATEVER THE INPUT: true; the input reads as it did. -/
def mtfPlacesSpec : ChangeSpec := { name := "mtfPlaces", fn := fun _ => fun
  | [d] => { results := [.lit (.bool true)], args := [d] }
  | _ => none }
def mtfPlacesRow : OpenClaim := { program := "ytaemmeofchonaaa", sum := "e4a80de34b2b215397c30ccfe967050fba2e57c0e896a912b77809a085ce8458", func := "winepress/winepresslaw13.MtfPlaces", spec := "mtfPlaces", inPlace := ["internal/bytealg.IndexByte"], apart := false }
def MtfPlacesSaid : Prop := mtfPlacesRow.holds Try.pinned (OpenSpec.ofChange mtfPlacesSpec)

/-- ITS FALSE NEIGHBOUR: 'it returns false'. Refute it at one input. -/
def mtfPlacesWrong : ChangeSpec := { name := "mtfPlaces", fn := fun _ => fun
  | [d] => { results := [.lit (.bool false)], args := [d] }
  | _ => none }
def MtfPlacesWrongFalsely : Prop := mtfPlacesRow.holds Try.pinned (OpenSpec.ofChange mtfPlacesWrong)

/-- 'winepresslaw13.MtfTwice': WHATEVER THE INPUT: true; the input reads as it did. -/
def mtfTwiceSpec : ChangeSpec := { name := "mtfTwice", fn := fun _ => fun
  | [d1, d2, d3] => { results := [.lit (.bool true)], args := [d1, d2, d3] }
  | _ => none }
def mtfTwiceRow : OpenClaim := { program := "ytaemmeofchonaaa", sum := "e4a80de34b2b215397c30ccfe967050fba2e57c0e896a912b77809a085ce8458", func := "winepress/winepresslaw13.MtfTwice", spec := "mtfTwice", inPlace := ["internal/bytealg.IndexByte"], apart := false }
def MtfTwiceSaid : Prop := mtfTwiceRow.holds Try.pinned (OpenSpec.ofChange mtfTwiceSpec)

/-- ITS FALSE NEIGHBOUR: 'it returns false'. Refute it at one input. -/
def mtfTwiceWrong : ChangeSpec := { name := "mtfTwice", fn := fun _ => fun
  | [d1, d2, d3] => { results := [.lit (.bool false)], args := [d1, d2, d3] }
  | _ => none }
def MtfTwiceWrongFalsely : Prop := mtfTwiceRow.holds Try.pinned (OpenSpec.ofChange mtfTwiceWrong)

/- THE SECOND FORM. 'bulk': how many values and letters a reading holds, each counted each time it is reached (what is shared counts as often as it is met; a slice's spare places count too). A statement '..UptoSaid' is the law's where the arguments, and the package variables that the reading takes, are together of bulk at most 1048576: NARROWER than '..Said'. Prove '..Said' where nothing that the law and all that it calls make is longer than what came in: it says more and counts as full. Else prove '..UptoSaid'. A law counts once. -/
mutual
def uptoBulk {H : Type} : DataW H → Nat
  | .lit (.string bytes) => bytes.length + 1
  | .lit _ => 1
  | .nil => 1
  | .ptr d => uptoBulk d + 1
  | .slice elems spare => uptoBulkAll elems + uptoBulkAll spare + 1
  | .agg parts => uptoBulkAll parts + 1
  | .iface _ d => uptoBulk d + 1
  | .map entries => uptoBulkEntries entries + 1
  | .held _ => 1
def uptoBulkAll {H : Type} : List (DataW H) → Nat
  | [] => 0
  | d :: r => uptoBulk d + uptoBulkAll r
def uptoBulkEntries {H : Type} : List (Lit × DataW H) → Nat
  | [] => 0
  | x :: r => uptoBulkEntry x + uptoBulkEntries r
def uptoBulkEntry {H : Type} : Lit × DataW H → Nat
  | (.string bytes, d) => bytes.length + uptoBulk d + 1
  | (_, d) => uptoBulk d + 1
 end
def uptoSmall : (H : Type) → List (DataW H) → Bool := fun _ ds => decide (uptoBulkAll ds ≤ 1048576)
def OpenSpec.upto (s : _root_.Go.ChangeSpec) : _root_.Go.OpenSpec := { _root_.Go.OpenSpec.ofChange s with cond := some uptoSmall }

/-- 'winepresslaw13.MtfMatches', WHERE WHAT IT READS IS OF BULK AT MOST 1048576: true; the input reads as it did. -/
def mtfMatchesUptoRow : OpenClaim := { program := "ytaemmeofchonaaa", sum := "e4a80de34b2b215397c30ccfe967050fba2e57c0e896a912b77809a085ce8458", func := "winepress/winepresslaw13.MtfMatches", spec := "mtfMatches", inPlace := ["internal/bytealg.IndexByte"], apart := false, narrowed := true }
def MtfMatchesUptoSaid : Prop := mtfMatchesUptoRow.holds Try.pinned (OpenSpec.upto mtfMatchesSpec)

/-- 'winepresslaw13.MtfBack', WHERE WHAT IT READS IS OF BULK AT MOST 1048576: true; the input reads as it did. -/
def mtfBackUptoRow : OpenClaim := { program := "ytaemmeofchonaaa", sum := "e4a80de34b2b215397c30ccfe967050fba2e57c0e896a912b77809a085ce8458", func := "winepress/winepresslaw13.MtfBack", spec := "mtfBack", inPlace := ["internal/bytealg.IndexByte"], apart := false, narrowed := true }
def MtfBackUptoSaid : Prop := mtfBackUptoRow.holds Try.pinned (OpenSpec.upto mtfBackSpec)

/-- 'winepresslaw13.MtfMoves', WHERE WHAT IT READS IS OF BULK AT MOST 1048576: true; the input reads as it did. -/
def mtfMovesUptoRow : OpenClaim := { program := "ytaemmeofchonaaa", sum := "e4a80de34b2b215397c30ccfe967050fba2e57c0e896a912b77809a085ce8458", func := "winepress/winepresslaw13.MtfMoves", spec := "mtfMoves", inPlace := ["internal/bytealg.IndexByte"], apart := false, narrowed := true }
def MtfMovesUptoSaid : Prop := mtfMovesUptoRow.holds Try.pinned (OpenSpec.upto mtfMovesSpec)

/-- 'winepresslaw13.MtfPlaces', WHERE WHAT IT READS IS OF BULK AT MOST 1048576: true; the input reads as it did. -/
def mtfPlacesUptoRow : OpenClaim := { program := "ytaemmeofchonaaa", sum := "e4a80de34b2b215397c30ccfe967050fba2e57c0e896a912b77809a085ce8458", func := "winepress/winepresslaw13.MtfPlaces", spec := "mtfPlaces", inPlace := ["internal/bytealg.IndexByte"], apart := false, narrowed := true }
def MtfPlacesUptoSaid : Prop := mtfPlacesUptoRow.holds Try.pinned (OpenSpec.upto mtfPlacesSpec)

/-- 'winepresslaw13.MtfTwice', WHERE WHAT IT READS IS OF BULK AT MOST 1048576: true; the input reads as it did. -/
def mtfTwiceUptoRow : OpenClaim := { program := "ytaemmeofchonaaa", sum := "e4a80de34b2b215397c30ccfe967050fba2e57c0e896a912b77809a085ce8458", func := "winepress/winepresslaw13.MtfTwice", spec := "mtfTwice", inPlace := ["internal/bytealg.IndexByte"], apart := false, narrowed := true }
def MtfTwiceUptoSaid : Prop := mtfTwiceUptoRow.holds Try.pinned (OpenSpec.upto mtfTwiceSpec)

end Rows
end Go.Proofs.Ytaemmeofchonaaa
