/- The exact statement of MsgOk: the walk, without a condition. -/
import Derived.Test.YtpmkmnniccbljalLMsgOk
import Derived.Test.YtpmkmnniccbljalMsI
import Derived.Test.YtpmkmnniccbljalMsN
import Derived.Test.YtpmkmnniccbljalOpen4
namespace Go.Proofs.Ytpmkmnniccbljal
open Go.RowKit

theorem law_MsgOk (v : Value) (M : DMsg) (w : World) (h : VMsg w v M) (_h1 : True) (_h2 : -9223372036854775808 ≤ M.term ∧ M.term ≤ 9223372036854775807) :
    Calls Try.prog 5 #[v] w fun e w' => e = .returned (.bool true) ∧ Below w.heap.size w w' :=
  law_MsgOk_of MsgP (fun v M w h => sMsgOkP M v w h) (fun v M w h => iMsgOkP v M w h) v M w h

end Go.Proofs.Ytpmkmnniccbljal
