/- The exact statement of TreeOk: the walk, without a condition. -/
import Derived.Test.YtpnfcifkmmcllaaLTreeOk
import Derived.Test.YtpnfcifkmmcllaaTe5
namespace Go.Proofs.Ytpnfcifkmmcllaa
open Go.RowKit

theorem law_TreeOk (v : Value) (T : (d : Nat) × DTree d) (w : World) (h : VTree w T.2 v) :
    Calls Try.prog 3 #[v] w fun e w' => e = .returned (.bool true) ∧ Below w.heap.size w w' := law_TreeOk_of l6ok_anyD v T.2 w h

end Go.Proofs.Ytpnfcifkmmcllaa
