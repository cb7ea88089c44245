/- The exact statement of Held: the walk, without a condition. -/
import Derived.Test.YtplgnohncdfgcakLHeld
import Derived.Test.YtplgnohncdfgcakSSb
import Derived.Test.YtplgnohncdfgcakOpen3
namespace Go.Proofs.Ytplgnohncdfgcak
open Go.RowKit

theorem law_Held (v : Value) (S : DState) (id : Int) (w : World) (h : VState w v S) (hr : rngSt S) (_hi : intSt S) (_h1 : -9223372036854775808 ≤ id) (_h2 : id ≤ 9223372036854775807) :
    Calls Try.prog 5 #[v, .int .i64 id] w fun e w' => e = .returned (.bool true) ∧ Below w.heap.size w w' := law_Held_of sStateOkV v S id w h hr

end Go.Proofs.Ytplgnohncdfgcak
