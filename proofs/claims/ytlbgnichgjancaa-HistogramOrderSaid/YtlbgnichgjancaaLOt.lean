/- Law HistogramOrder. -/
import Derived.Test.YtlbgnichgjancaaLOy
set_option linter.unusedVariables false
set_option linter.unusedSimpArgs false
namespace Go.Proofs.Ytlbgnichgjancaa
open Go.RowKit

theorem order_call (sp : Option Addr) (n c : Nat) (i k at_ : Int) (w : World) (zs : List Int) (h : IsRow .i64 w sp n c zs) :
    Calls Try.prog 4 #[.slice sp n c, .int .i64 i, .int .i64 k, .int .i64 at_] w fun e w' => e = .returned (.bool true) ∧ Below w.heap.size w w' := by
  obtain ⟨h1, h2, h3, h4, h5⟩ := h.src
  by_cases hn : 300 < n
  · exact order_out sp n c i k at_ w hn h4
  · by_cases hq : Sy (zs.take n)
    · exact order_in sp n c i k at_ w _ h1 h2 (by omega) h5 h.capMax hq (min (max at_ 0) n).toNat (by omega)
    · exact order_no sp n c i k at_ w _ h1 h2 (by omega) hq
end Go.Proofs.Ytlbgnichgjancaa
