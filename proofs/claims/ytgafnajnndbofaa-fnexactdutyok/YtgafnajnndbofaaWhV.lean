
/- One closed fact of the program: the table's row of the type of timers. -/
import Derived.Test.YtgafnajnndbofaaRows
import Derived.Test.YtgafnajnndbofaaWh0
namespace Go.Proofs.Ytgafnajnndbofaa
open Go.RowKit

theorem info_W : (Try.prog.info? 46).map (fun i => (i.zero, i.size, i.bytes)) = some (some (.agg #[.int .i64 0, .int .i64 0]), 2, 16) := by kernel_rfl

end Go.Proofs.Ytgafnajnndbofaa
