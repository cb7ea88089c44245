
/- Marking and holding, told of values that a call owns. -/
import Derived.Test.YtihlinhfnlfdmaaVal0
import Derived.Test.YtihlinhfnlfdmaaCmp3
namespace Go.Proofs.Ytihlinhfnlfdmaa
open Go.RowKit

end Go.Proofs.Ytihlinhfnlfdmaa
