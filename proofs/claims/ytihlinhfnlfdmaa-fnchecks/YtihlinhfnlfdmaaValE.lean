
/- The helper's contract that compares bytes, told of whole values. -/
import Derived.Test.YtihlinhfnlfdmaaCmp2
import Derived.Test.YtihlinhfnlfdmaaVal0
namespace Go.Proofs.Ytihlinhfnlfdmaa
open Go.RowKit

end Go.Proofs.Ytihlinhfnlfdmaa
