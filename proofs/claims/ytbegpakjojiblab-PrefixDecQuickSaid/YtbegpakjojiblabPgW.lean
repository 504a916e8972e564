/- wakes, over the developers' functions. -/
import Derived.Test.YtbegpakjojiblabPdX
import Derived.Test.YtbegpakjojiblabPgI
namespace Go.Proofs.Ytbegpakjojiblab
open Go.RowKit

theorem wakes_dev : WkC := wakes_law new_call val_call step_call quickd_call all_call
end Go.Proofs.Ytbegpakjojiblab
