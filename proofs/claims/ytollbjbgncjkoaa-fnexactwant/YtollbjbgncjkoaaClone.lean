
/- The contract of the library's Clone at bytes. -/
import Derived.Test.YtollbjbgncjkoaaInf
import Derived.Test.YtollbjbgncjkoaaBytes
import Derived.Lib.SliceRun
namespace Go.Proofs.Ytollbjbgncjkoaa
open Go.RowKit

end Go.Proofs.Ytollbjbgncjkoaa
