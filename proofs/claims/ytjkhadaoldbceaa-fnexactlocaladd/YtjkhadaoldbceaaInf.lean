
/- One closed fact of the program: the table's row of the type byte. -/
import Derived.Test.YtjkhadaoldbceaaRows
import Derived.Test.YtjkhadaoldbceaaBase
namespace Go.Proofs.Ytjkhadaoldbceaa
open Go.RowKit

theorem info5 : (Try.prog.info? 5).map (fun i => (i.zero, i.size, i.bytes)) = some (some (.int .u8 0), 1, 1) := by kernel_rfl

end Go.Proofs.Ytjkhadaoldbceaa
