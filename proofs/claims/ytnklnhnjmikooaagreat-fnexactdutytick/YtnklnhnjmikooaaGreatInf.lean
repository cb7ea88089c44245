
/- One closed fact of the program: the table's row of the type byte. -/
import Derived.Test.YtnklnhnjmikooaaGreatRows
import Derived.Test.YtnklnhnjmikooaaGreatBase
namespace Go.Proofs.YtnklnhnjmikooaaGreat
open Go.RowKit

theorem info5 : (Tryz.prog.info? 5).map (fun i => (i.zero, i.size, i.bytes)) = some (some (.int .u8 0), 1, 1) := by kernel_rfl

end Go.Proofs.YtnklnhnjmikooaaGreat
