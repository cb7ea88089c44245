
/- What WheelNext and WheelLeft tell. -/
import Derived.Test.YtnklnhnjmikooaaGreatWhS
namespace Go.Proofs.YtnklnhnjmikooaaGreat
open Go.RowKit

/-- In how many moments the first one rings. -/
def nextB (c : Bool) (D : DWheel) : Int × Bool := if c then (match D.tms[0]? with | some t => (t.due - D.now, true) | none => (0, false)) else (0, false)
/-- In how many moments this one rings. -/
def leftB (c : Bool) (D : DWheel) (id : Int) : Int × Bool := if c then (if placeT D.tms id < 0 then (0, false) else match D.tms[(placeT D.tms id).toNat]? with | some t => (t.due - D.now, true) | none => (0, false)) else (0, false)

end Go.Proofs.YtnklnhnjmikooaaGreat
