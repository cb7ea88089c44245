/- The exact statement of Turned: the walk, without a condition. -/
import Derived.Test.YtplgnohncdfgcalLTurned
import Derived.Test.YtplgnohncdfgcalSSb
import Derived.Test.YtplgnohncdfgcalOpen3
namespace Go.Proofs.Ytplgnohncdfgcal
open Go.RowKit

theorem law_Turned (v : Value) (S : DState) (since : Int) (w : World) (h : VState w v S) (hr : rngSt S) (_hi : intSt S) (_h1 : -9223372036854775808 ≤ since) (_h2 : since ≤ 9223372036854775807) :
    Calls Try.prog 3 #[v, .int .i64 since] w fun e w' => e = .returned (.bool true) ∧ Below w.heap.size w w' := law_Turned_of sStateOkV v S since w h hr

end Go.Proofs.Ytplgnohncdfgcal
