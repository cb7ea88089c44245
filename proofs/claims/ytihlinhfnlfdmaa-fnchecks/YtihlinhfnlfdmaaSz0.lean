
/- The size of a slice of bytes, counted down. -/
import Derived.Test.YtihlinhfnlfdmaaOp0
import Derived.Test.YtihlinhfnlfdmaaVal
import Derived.Test.YtihlinhfnlfdmaaSz1
namespace Go.Proofs.Ytihlinhfnlfdmaa
open Go.RowKit

end Go.Proofs.Ytihlinhfnlfdmaa
