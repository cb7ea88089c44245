/- The exact statement of TreeOk: the walk, without a condition. -/
import Derived.Test.YtpnfcifkmmcllaaLTreeOk
import Derived.Test.YtpnfcifkmmcllaaTe5
namespace Go.Proofs.Ytpnfcifkmmcllaa
open Go.RowKit

theorem law_TreeOk (v : Value) (t : DTree) (w : World) (h : VTree w t v) :
    Calls Try.prog 3 #[v] w fun e w' => e = .returned (.bool true) ∧ Below w.heap.size w w' := law_TreeOk_of l6ok_any v t w h

end Go.Proofs.Ytpnfcifkmmcllaa
