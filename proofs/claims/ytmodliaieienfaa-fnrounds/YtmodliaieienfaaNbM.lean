
/- Lists of numbers that a call owns: read, marked, held. -/
import Derived.Test.YtmodliaieienfaaLiV
import Derived.Test.YtmodliaieienfaaLiO
import Derived.Test.YtmodliaieienfaaLiK
import Derived.Laws.OwnMore
import Derived.OwnWalk
namespace Go.Proofs.Ytmodliaieienfaa
open Go.RowKit

end Go.Proofs.Ytmodliaieienfaa
