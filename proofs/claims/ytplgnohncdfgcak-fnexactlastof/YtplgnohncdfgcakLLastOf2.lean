/- The exact statement of LastOf: the walk, without a condition. -/
import Derived.Test.YtplgnohncdfgcakLLastOf
import Derived.Test.YtplgnohncdfgcakSSb
import Derived.Test.YtplgnohncdfgcakOpen3
namespace Go.Proofs.Ytplgnohncdfgcak
open Go.RowKit

theorem law_LastOf (v : Value) (S : DState) (client : Int) (w : World) (h : VState w v S) (hr : rngSt S) (_hi : intSt S) (_h1 : -9223372036854775808 ≤ client) (_h2 : client ≤ 9223372036854775807) :
    Calls Try.prog 8 #[v, .int .i64 client] w fun e w' => e = .returned (.bool true) ∧ Below w.heap.size w w' := law_LastOf_of sStateOkV v S client w h hr

end Go.Proofs.Ytplgnohncdfgcak
