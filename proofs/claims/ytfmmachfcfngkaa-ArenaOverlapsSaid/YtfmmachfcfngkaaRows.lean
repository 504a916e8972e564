/-
  No cell of these rows narrows 'for every input' (looked for: loops, veiled, ifaces, maps, wideKeys, modest, calm, conditions, laid).
  DERIVED. THE GIVEN ROWS OF THIS SEAT. 5 by the template 'for every input the law returns true; each argument reads behind the call as it read before'; 0 by the template 'total and deterministic' (their statements: YtfmmachfcfngkaaTotals.lean).
  GIVEN WITH THE SEED: the statements are not yours to turn. If you find one false, say at which input.
  Laid BY PROGRAM, IN A SANDBOX (cutbox-rows.mjs): the forced cells as the released guide's own fill.sh prints them over the translation 9e2e51d33a9c57cc… (all of the seat's roots in one cut). By AI agents, Wed Nov 11 2026. No macro, syntax, notation, axiom, sorry.
-/
import Derived.Test.YtfmmachfcfngkaaChecked
import GoSem.Claim
import GoSem.ClaimJoined
import GoSem.ClaimMapViews
import Derived.JoinedTies
import Derived.KernelRfl
namespace Go.Proofs.Ytfmmachfcfngkaa
/- THE CELL 'sum', in the pinned program and in every row, IS THE sha256 OF THE DUMP (.gsa) THAT YtfmmachfcfngkaaProg.lean LOADS. Nothing in Lean hashes anything: it is a label: what it is worth is what the hold of that sum in a sandbox is worth. -/
noncomputable def Try.pinned : Pinned := { name := "ytfmmachfcfngkaa", sum := "9e2e51d33a9c57cca2808cb3ba1eb6c88ac614a93b0794f0947065ffa50df9f7", checked := Try.checked }
namespace Rows
def none {H : Type} : Left H := { results := [], args := [] }

/-- 'winepresslaw01.ArenaMatches': WHATEVER THE INPUT: true; the input reads as it did. -/
def arenaMatchesSpec : ChangeSpec := { name := "arenaMatches", fn := fun _ => fun
  | [d1, d2] => { results := [.lit (.bool true)], args := [d1, d2] }
  | _ => none }
def arenaMatchesRow : OpenClaim := { program := "ytfmmachfcfngkaa", sum := "9e2e51d33a9c57cca2808cb3ba1eb6c88ac614a93b0794f0947065ffa50df9f7", func := "winepress/winepresslaw01.ArenaMatches", spec := "arenaMatches", apart := false }
def ArenaMatchesSaid : Prop := arenaMatchesRow.holds Try.pinned (OpenSpec.ofChange arenaMatchesSpec)

/-- ITS FALSE NEIGHBOUR: 'it returns false'. Refute it at one input. -/
def arenaMatchesWrong : ChangeSpec := { name := "arenaMatches", fn := fun _ => fun
  | [d1, d2] => { results := [.lit (.bool false)], args := [d1, d2] }
  | _ => none }
def ArenaMatchesWrongFalsely : Prop := arenaMatchesRow.holds Try.pinned (OpenSpec.ofChange arenaMatchesWrong)

/-- 'winepresslaw01.ArenaApart': WHATEVER THE INPUT: true; the input reads as it did. -/
def arenaApartSpec : ChangeSpec := { name := "arenaApart", fn := fun _ => fun
  | [d1, d2, d3, d4] => { results := [.lit (.bool true)], args := [d1, d2, d3, d4] }
  | _ => none }
def arenaApartRow : OpenClaim := { program := "ytfmmachfcfngkaa", sum := "9e2e51d33a9c57cca2808cb3ba1eb6c88ac614a93b0794f0947065ffa50df9f7", func := "winepress/winepresslaw01.ArenaApart", spec := "arenaApart", apart := false }
def ArenaApartSaid : Prop := arenaApartRow.holds Try.pinned (OpenSpec.ofChange arenaApartSpec)

/-- ITS FALSE NEIGHBOUR: 'it returns false'. Refute it at one input. -/
def arenaApartWrong : ChangeSpec := { name := "arenaApart", fn := fun _ => fun
  | [d1, d2, d3, d4] => { results := [.lit (.bool false)], args := [d1, d2, d3, d4] }
  | _ => none }
def ArenaApartWrongFalsely : Prop := arenaApartRow.holds Try.pinned (OpenSpec.ofChange arenaApartWrong)

/-- 'winepresslaw01.ArenaWords': WHATEVER THE INPUT: true; the input reads as it did. -/
def arenaWordsSpec : ChangeSpec := { name := "arenaWords", fn := fun _ => fun
  | [d1, d2, d3] => { results := [.lit (.bool true)], args := [d1, d2, d3] }
  | _ => none }
def arenaWordsRow : OpenClaim := { program := "ytfmmachfcfngkaa", sum := "9e2e51d33a9c57cca2808cb3ba1eb6c88ac614a93b0794f0947065ffa50df9f7", func := "winepress/winepresslaw01.ArenaWords", spec := "arenaWords", apart := false }
def ArenaWordsSaid : Prop := arenaWordsRow.holds Try.pinned (OpenSpec.ofChange arenaWordsSpec)

/-- ITS FALSE NEIGHBOUR: 'it returns false'. Refute it at one input. -/
def arenaWordsWrong : ChangeSpec := { name := "arenaWords", fn := fun _ => fun
  | [d1, d2, d3] => { results := [.lit (.bool false)], args := [d1, d2, d3] }
  | _ => none }
def ArenaWordsWrongFalsely : Prop := arenaWordsRow.holds Try.pinned (OpenSpec.ofChange arenaWordsWrong)

/-- 'winepresslaw01.ArenaReleases': WHATEVER THE INPUT: true; the input reads as it did. -/
def arenaReleasesSpec : ChangeSpec := { name := "arenaReleases", fn := fun _ => fun
  | [d1, d2, d3] => { results := [.lit (.bool true)], args := [d1, d2, d3] }
  | _ => none }
def arenaReleasesRow : OpenClaim := { program := "ytfmmachfcfngkaa", sum := "9e2e51d33a9c57cca2808cb3ba1eb6c88ac614a93b0794f0947065ffa50df9f7", func := "winepress/winepresslaw01.ArenaReleases", spec := "arenaReleases", apart := false }
def ArenaReleasesSaid : Prop := arenaReleasesRow.holds Try.pinned (OpenSpec.ofChange arenaReleasesSpec)

/-- ITS FALSE NEIGHBOUR: 'it returns false'. Refute it at one input. -/
def arenaReleasesWrong : ChangeSpec := { name := "arenaReleases", fn := fun _ => fun
  | [d1, d2, d3] => { results := [.lit (.bool false)], args := [d1, d2, d3] }
  | _ => none }
def ArenaReleasesWrongFalsely : Prop := arenaReleasesRow.holds Try.pinned (OpenSpec.ofChange arenaReleasesWrong)

/-- 'winepresslaw01.ArenaOverlaps': WHATEVER THE INPUT: true; the input reads as it did. -/
def arenaOverlapsSpec : ChangeSpec := { name := "arenaOverlaps", fn := fun _ => fun
  | [d1, d2, d3, d4, d5] => { results := [.lit (.bool true)], args := [d1, d2, d3, d4, d5] }
  | _ => none }
def arenaOverlapsRow : OpenClaim := { program := "ytfmmachfcfngkaa", sum := "9e2e51d33a9c57cca2808cb3ba1eb6c88ac614a93b0794f0947065ffa50df9f7", func := "winepress/winepresslaw01.ArenaOverlaps", spec := "arenaOverlaps", apart := false }
def ArenaOverlapsSaid : Prop := arenaOverlapsRow.holds Try.pinned (OpenSpec.ofChange arenaOverlapsSpec)

/-- ITS FALSE NEIGHBOUR: 'it returns false'. Refute it at one input. -/
def arenaOverlapsWrong : ChangeSpec := { name := "arenaOverlaps", fn := fun _ => fun
  | [d1, d2, d3, d4, d5] => { results := [.lit (.bool false)], args := [d1, d2, d3, d4, d5] }
  | _ => none }
def ArenaOverlapsWrongFalsely : Prop := arenaOverlapsRow.holds Try.pinned (OpenSpec.ofChange arenaOverlapsWrong)

/- THE SECOND FORM. 'bulk': how many values and letters a reading holds, each counted each time it is reached (what is shared counts as often as it is met; a slice's spare places count too). A statement '..UptoSaid' is the law's where the arguments, and the package variables that the reading takes, are together of bulk at most 1048576: NARROWER than '..Said'. Prove '..Said' where nothing that the law and all that it calls make is longer than what came in: it says more and counts as full. Else prove '..UptoSaid'. A law counts once. -/
mutual
def uptoBulk {H : Type} : DataW H → Nat
  | .lit (.string bytes) => bytes.length + 1
  | .lit _ => 1
  | .nil => 1
  | .ptr d => uptoBulk d + 1
  | .slice elems spare => uptoBulkAll elems + uptoBulkAll spare + 1
  | .agg parts => uptoBulkAll parts + 1
  | .iface _ d => uptoBulk d + 1
  | .map entries => uptoBulkEntries entries + 1
  | .held _ => 1
def uptoBulkAll {H : Type} : List (DataW H) → Nat
  | [] => 0
  | d :: r => uptoBulk d + uptoBulkAll r
def uptoBulkEntries {H : Type} : List (Lit × DataW H) → Nat
  | [] => 0
  | x :: r => uptoBulkEntry x + uptoBulkEntries r
def uptoBulkEntry {H : Type} : Lit × DataW H → Nat
  | (.string bytes, d) => bytes.length + uptoBulk d + 1
  | (_, d) => uptoBulk d + 1
 end
def uptoSmall : (H : Type) → List (DataW H) → Bool := fun _ ds => decide (uptoBulkAll ds ≤ 1048576)
def OpenSpec.upto (s : _root_.Go.ChangeSpec) : _root_.Go.OpenSpec := { _root_.Go.OpenSpec.ofChange s with cond := some uptoSmall }

/-- 'winepresslaw01.ArenaMatches', WHERE WHAT IT READS IS OF BULK AT MOST 1048576: true; the input reads as it did. -/
def arenaMatchesUptoRow : OpenClaim := { program := "ytfmmachfcfngkaa", sum := "9e2e51d33a9c57cca2808cb3ba1eb6c88ac614a93b0794f0947065ffa50df9f7", func := "winepress/winepresslaw01.ArenaMatches", spec := "arenaMatches", apart := false, narrowed := true }
def ArenaMatchesUptoSaid : Prop := arenaMatchesUptoRow.holds Try.pinned (OpenSpec.upto arenaMatchesSpec)

/-- 'winepresslaw01.ArenaApart', WHERE WHAT IT READS IS OF BULK AT MOST 1048576: true; the input reads as it did. -/
def arenaApartUptoRow : OpenClaim := { program := "ytfmmachfcfngkaa", sum := "9e2e51d33a9c57cca2808cb3ba1eb6c88ac614a93b0794f0947065ffa50df9f7", func := "winepress/winepresslaw01.ArenaApart", spec := "arenaApart", apart := false, narrowed := true }
def ArenaApartUptoSaid : Prop := arenaApartUptoRow.holds Try.pinned (OpenSpec.upto arenaApartSpec)

/-- 'winepresslaw01.ArenaWords', WHERE WHAT IT READS IS OF BULK AT MOST 1048576: true; the input reads as it did. -/
def arenaWordsUptoRow : OpenClaim := { program := "ytfmmachfcfngkaa", sum := "9e2e51d33a9c57cca2808cb3ba1eb6c88ac614a93b0794f0947065ffa50df9f7", func := "winepress/winepresslaw01.ArenaWords", spec := "arenaWords", apart := false, narrowed := true }
def ArenaWordsUptoSaid : Prop := arenaWordsUptoRow.holds Try.pinned (OpenSpec.upto arenaWordsSpec)

/-- 'winepresslaw01.ArenaReleases', WHERE WHAT IT READS IS OF BULK AT MOST 1048576: true; the input reads as it did. -/
def arenaReleasesUptoRow : OpenClaim := { program := "ytfmmachfcfngkaa", sum := "9e2e51d33a9c57cca2808cb3ba1eb6c88ac614a93b0794f0947065ffa50df9f7", func := "winepress/winepresslaw01.ArenaReleases", spec := "arenaReleases", apart := false, narrowed := true }
def ArenaReleasesUptoSaid : Prop := arenaReleasesUptoRow.holds Try.pinned (OpenSpec.upto arenaReleasesSpec)

/-- 'winepresslaw01.ArenaOverlaps', WHERE WHAT IT READS IS OF BULK AT MOST 1048576: true; the input reads as it did. -/
def arenaOverlapsUptoRow : OpenClaim := { program := "ytfmmachfcfngkaa", sum := "9e2e51d33a9c57cca2808cb3ba1eb6c88ac614a93b0794f0947065ffa50df9f7", func := "winepress/winepresslaw01.ArenaOverlaps", spec := "arenaOverlaps", apart := false, narrowed := true }
def ArenaOverlapsUptoSaid : Prop := arenaOverlapsUptoRow.holds Try.pinned (OpenSpec.upto arenaOverlapsSpec)

end Rows
end Go.Proofs.Ytfmmachfcfngkaa
