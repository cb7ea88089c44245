
/- The contract of the specification's WheelStop. -/
import Derived.Test.YtnklnhnjmikooaaGreatHpS
import Derived.Test.YtnklnhnjmikooaaGreatHpO
namespace Go.Proofs.YtnklnhnjmikooaaGreat
open Go.RowKit

/-- A wheel and a bool, to be read. -/
def SResW (R : DWheel × Bool) (w : World) (e : Ending) (w' : World) : Prop := ∃ tv, e = .returned (.tuple #[.agg #[.int .i64 R.1.now, tv], .bool R.2]) ∧ VTims w' tv R.1.tms ∧ Below w.heap.size w w'

end Go.Proofs.YtnklnhnjmikooaaGreat
