
/- A copy of bytes, as the program makes it. -/
import Derived.Test.YtollbjbgncjkoaaClone
import Derived.Test.YtollbjbgncjkoaaVal0
namespace Go.Proofs.Ytollbjbgncjkoaa
open Go.RowKit

end Go.Proofs.Ytollbjbgncjkoaa
