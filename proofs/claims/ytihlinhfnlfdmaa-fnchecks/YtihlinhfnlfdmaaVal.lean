
/- The helpers' contracts told of whole values. -/
import Derived.Test.YtihlinhfnlfdmaaCmp
import Derived.Test.YtihlinhfnlfdmaaValE
namespace Go.Proofs.Ytihlinhfnlfdmaa
open Go.RowKit

end Go.Proofs.Ytihlinhfnlfdmaa
