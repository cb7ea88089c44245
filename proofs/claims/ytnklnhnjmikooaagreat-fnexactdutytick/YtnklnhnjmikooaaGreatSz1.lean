
/- What a count of sizes leaves. -/
import Derived.Test.YtnklnhnjmikooaaGreatOp0
namespace Go.Proofs.YtnklnhnjmikooaaGreat
open Go.RowKit

/-- What a count of sizes leaves: below 0 where it is passed. -/
def SzPost (l : Int) (m : Nat) (w : World) (e : Ending) (w' : World) : Prop :=
  ∃ r : Int, e = .returned (.int .i64 r) ∧ ((l - m < 0 ∧ r = -1) ∨ (0 ≤ l - m ∧ r = l - m)) ∧ Below w.heap.size w w'

end Go.Proofs.YtnklnhnjmikooaaGreat
