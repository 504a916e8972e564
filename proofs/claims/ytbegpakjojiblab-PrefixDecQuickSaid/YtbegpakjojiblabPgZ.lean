/- Law PrefixDecQuick, over the developers' functions. -/
import Derived.Test.YtbegpakjojiblabPgW
import Derived.Test.YtbegpakjojiblabPdU
import Derived.Test.YtbegpakjojiblabOlC
namespace Go.Proofs.Ytbegpakjojiblab
open Go.RowKit

theorem quick_dev (l : List Int) (h : Lng l) (N : Int) (hN : 0 ≤ N ∧ N ≤ 65535) (w : World) :
    Calls Try.prog 3 #[.agg (lg l), .int .u16 N] w fun e w' => e = .returned (.bool true) ∧ Below w.heap.size w w' :=
  quick_call new_call step_call quickd_call wakes_dev l h N hN w
end Go.Proofs.Ytbegpakjojiblab
