/- wakes, over the developers' functions. -/
import Derived.Test.YtbegpakjojiblaaPdX
import Derived.Test.YtbegpakjojiblaaPgI
namespace Go.Proofs.Ytbegpakjojiblaa
open Go.RowKit

theorem wakes_dev : WkC := wakes_law new_call val_call step_call quickd_call all_call
end Go.Proofs.Ytbegpakjojiblaa
