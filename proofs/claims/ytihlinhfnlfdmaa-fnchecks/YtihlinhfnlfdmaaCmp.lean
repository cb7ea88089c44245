
/- The contract of the exact statements' helper that copies bytes. -/
import Derived.Test.YtihlinhfnlfdmaaInf
namespace Go.Proofs.Ytihlinhfnlfdmaa
open Go.RowKit

end Go.Proofs.Ytihlinhfnlfdmaa
