/- The exact statement of NodeOk: the walk, without a condition. -/
import Derived.Test.YtpmkmnniccbljamLNodeOk
import Derived.Test.YtpmkmnniccbljamNdI
import Derived.Test.YtpmkmnniccbljamNdS
import Derived.Test.YtpmkmnniccbljamOpenN
namespace Go.Proofs.Ytpmkmnniccbljam
open Go.RowKit

theorem law_NodeOk (v : Value) (M : DNode) (s : Int) (w : World) (h : VNode w v M) (_h1 : True) (_h2 : -9223372036854775808 ≤ M.term ∧ M.term ≤ 9223372036854775807) (_h3 : -9223372036854775808 ≤ s) (_h4 : s ≤ 9223372036854775807) :
    Calls Try.prog 3 #[v, .int .i64 s] w fun e w' => e = .returned (.bool true) ∧ Below w.heap.size w w' :=
  law_NodeOk_of (fun M s => tB (NodeP M s)) (fun v M s w h => sNodeOkP M s v w h) (fun v M s w h => iNodeOkP v M s w h) v M s w h

end Go.Proofs.Ytpmkmnniccbljam
