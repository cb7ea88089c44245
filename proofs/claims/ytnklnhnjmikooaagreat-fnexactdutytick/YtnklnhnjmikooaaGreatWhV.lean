
/- One closed fact of the program: the table's row of the type of timers. -/
import Derived.Test.YtnklnhnjmikooaaGreatRows
import Derived.Test.YtnklnhnjmikooaaGreatWh0
namespace Go.Proofs.YtnklnhnjmikooaaGreat
open Go.RowKit

theorem info_W : (Tryz.prog.info? 114).map (fun i => (i.zero, i.size, i.bytes)) = some (some (.agg #[.int .i64 0, .int .i64 0]), 2, 16) := by kernel_rfl

end Go.Proofs.YtnklnhnjmikooaaGreat
