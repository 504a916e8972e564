/- Stage 13's contracts, met by the developers' functions; the laws' last steps. -/
import Derived.Test.YtaemmeofchonaaaMuF
import Derived.Test.YtaemmeofchonaaaMtK
import Derived.Test.YtaemmeofchonaaaMtT
import Derived.Test.YtaemmeofchonaaaMtO
import Derived.Test.YtaemmeofchonaaaMtY
import Derived.Test.YtaemmeofchonaaaOlS
set_option linter.unusedVariables false
set_option linter.unusedSimpArgs false
namespace Go.Proofs.Ytaemmeofchonaaa
open Go.RowKit

theorem mtf_new : MNewC := fun w => new_call w
theorem mtf_valid : MValC := fun l h w => valid_call l h w
theorem mtf_put : MPutC := fun l h c hc w => put_call l h c hc w
theorem mtf_take : MTakC := fun l h p _ w => take_call l h p w
theorem mtf_forth : MFthC := fun sp n cap q hq hb hn w hs => forth_call sp n cap q hq hb hn w hs
theorem mtf_back : MBckC := fun sp n cap q hq hb hn w hs => back_call sp n cap q hq hb hn w hs
theorem mtf_wakes : MWkC := mwakes_law mtf_new mtf_valid mtf_put mtf_take mtf_forth mtf_back
end Go.Proofs.Ytaemmeofchonaaa
