/- Stage 13's laws on a row that came in as an argument. -/
import Derived.Test.YtaemmeofchonaaaMtB
import Derived.Test.YtaemmeofchonaaaMtN
import Derived.Test.YtaemmeofchonaaaMtO
import Derived.Test.YtaemmeofchonaaaMtQ
import Derived.Test.YtaemmeofchonaaaMtT
import Derived.Test.YtaemmeofchonaaaOlS
namespace Go.Proofs.Ytaemmeofchonaaa
open Go.RowKit

theorem mback_row (CF : MFthC) (CB : MBckC) (CW : MWkC) (sp : Option Addr) (n cap : Nat) (q : List Int) (w : World) (hr : IsRow .u8 w sp n cap q) :
    Calls Try.prog 4 #[.slice sp n cap] w fun e w' => e = .returned (.bool true) ∧ Below w.heap.size w w' := by
  obtain ⟨hl, hs, hwf, h63, _⟩ := hr.src
  exact mback_call CF CB CW sp n cap _ hl h63 (fun x hx => bounds_u8 (hwf x hx)) w hs
theorem places_row (CF : MFthC) (CW : MWkC) (sp : Option Addr) (n cap : Nat) (q : List Int) (w : World) (hr : IsRow .u8 w sp n cap q) :
    Calls Try.prog 6 #[.slice sp n cap] w fun e w' => e = .returned (.bool true) ∧ Below w.heap.size w w' := by
  obtain ⟨hl, hs, hwf, h63, _⟩ := hr.src
  exact places_call CF CW sp n cap _ hl h63 (fun x hx => bounds_u8 (hwf x hx)) w hs
theorem matches_row (CN : MNewC) (CV : MValC) (CP : MPutC) (CT : MTakC) (CF : MFthC) (CB : MBckC) (CW : MWkC) (l : List Int) (h : Lst l) (c : Int) (hc : (Lit.int .u8 c).wf = true) (m : Int) (hm : (Lit.int .i64 m).wf = true) (sp : Option Addr) (n cap : Nat) (q : List Int) (w : World) (hr : IsRow .u8 w sp n cap q) :
    Calls Try.prog 3 #[.agg (ll l), .int .u8 c, .int .i64 m, .slice sp n cap] w fun e w' => e = .returned (.bool true) ∧ Below w.heap.size w w' := by
  obtain ⟨hl, hs, hwf, h63, _⟩ := hr.src
  exact matches_call CN CV CP CT CF CB CW l h c (bounds_u8 hc) m hm sp n cap _ hl h63 (fun x hx => bounds_u8 (hwf x hx)) w hs
end Go.Proofs.Ytaemmeofchonaaa
