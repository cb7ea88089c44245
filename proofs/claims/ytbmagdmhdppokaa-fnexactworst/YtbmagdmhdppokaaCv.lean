
/- A copy of bytes, as the program makes it. -/
import Derived.Test.YtbmagdmhdppokaaClone
import Derived.Test.YtbmagdmhdppokaaVal0
namespace Go.Proofs.Ytbmagdmhdppokaa
open Go.RowKit

end Go.Proofs.Ytbmagdmhdppokaa
