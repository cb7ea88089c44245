
/- The contract of the library's Clone at bytes. -/
import Derived.Test.YtbmagdmhdppokaaInf
import Derived.Test.YtbmagdmhdppokaaBytes
import Derived.Lib.SliceRun
namespace Go.Proofs.Ytbmagdmhdppokaa
open Go.RowKit

end Go.Proofs.Ytbmagdmhdppokaa
