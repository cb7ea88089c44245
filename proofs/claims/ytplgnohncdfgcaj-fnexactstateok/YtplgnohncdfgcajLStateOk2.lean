/- The exact statement of StateOk: the walk, without a condition. -/
import Derived.Test.YtplgnohncdfgcajLStateOk
import Derived.Test.YtplgnohncdfgcajSSb
import Derived.Test.YtplgnohncdfgcajOpen3
namespace Go.Proofs.Ytplgnohncdfgcaj
open Go.RowKit

theorem law_StateOk (v : Value) (S : DState) (w : World) (h : VState w v S) (hr : rngSt S) (_hi : intSt S) :
    Calls Try.prog 7 #[v] w fun e w' => e = .returned (.bool true) ∧ Below w.heap.size w w' := law_StateOk_of sStateOkV v S w h hr

end Go.Proofs.Ytplgnohncdfgcaj
