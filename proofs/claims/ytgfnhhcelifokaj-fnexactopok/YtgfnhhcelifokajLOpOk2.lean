/- The exact statement of OpOk. -/
import Derived.Test.YtgfnhhcelifokajLOpOk
import Derived.Test.YtgfnhhcelifokajIOp
namespace Go.Proofs.Ytgfnhhcelifokaj
open Go.RowKit

theorem law_OpOk (v : Value) (d : DOp) (w : World) (h : VOp w v d) (hr : rngOp d) (hi : intOp d) :
    Calls Try.prog 5 #[v] w fun e w' => e = .returned (.bool true) ∧ Below w.heap.size w w' :=
  law_OpOk_of (fun v d w h => iOpOkV v d w h) v d w h hr hi

end Go.Proofs.Ytgfnhhcelifokaj
