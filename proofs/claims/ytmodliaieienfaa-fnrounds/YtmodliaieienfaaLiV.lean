
/- Lists of numbers held against one another. -/
import Derived.Test.YtmodliaieienfaaLiU
namespace Go.Proofs.Ytmodliaieienfaa
open Go.RowKit

end Go.Proofs.Ytmodliaieienfaa
