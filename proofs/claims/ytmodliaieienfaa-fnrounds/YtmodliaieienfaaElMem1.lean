
/- The exact statements' helpers on lists of Member: sized, copied, held against one another. -/
import Derived.Test.YtmodliaieienfaaElMem0
import Derived.Test.YtmodliaieienfaaRows
import Derived.Test.YtmodliaieienfaaSz1
import Derived.Test.YtmodliaieienfaaInf
import Derived.Test.YtmodliaieienfaaQB
import Derived.Deep.RegionHeld3
namespace Go.Proofs.Ytmodliaieienfaa
open Go.RowKit

theorem info_Mem : (Try.prog.info? 40).map (fun i => (i.zero, i.size, i.bytes)) = some (some (.agg #[.int .i64 0, .int .i64 0, .int .i64 0]), 3, 24) := by kernel_rfl

end Go.Proofs.Ytmodliaieienfaa
