/- Law PrefixDecAny, over the developers' functions. -/
import Derived.Test.YtbegpakjojiblaaPgW
import Derived.Test.YtbegpakjojiblaaPdQ
import Derived.Test.YtbegpakjojiblaaOlC
import Derived.Test.YtbegpakjojiblaaList
namespace Go.Proofs.Ytbegpakjojiblaa
open Go.RowKit

theorem any_dev (l : List Int) (h : Lng l) (sp : Option Addr) (n cap : Nat) (q : List Int) (w : World) (hr : IsRow .i64 w sp n cap q) :
    Calls Try.prog 3 #[.agg (lg l), .slice sp n cap] w fun e w' => e = .returned (.bool true) ∧ Below w.heap.size w w' := by
  obtain ⟨hl, hs, hwf, h63, _⟩ := hr.src
  exact any_call new_call val_call step_call wakes_dev l h sp n cap _ hl h63 w hs
end Go.Proofs.Ytbegpakjojiblaa
