/- The exact statement of TreeGet: the walk, without a condition. -/
import Derived.Test.YtpnfcifkmmcllaaLTreeGet
import Derived.Test.YtpnfcifkmmcllaaTe5
namespace Go.Proofs.Ytpnfcifkmmcllaa
open Go.RowKit

theorem law_TreeGet (v : Value) (T : (d : Nat) × DTree d) (a : Option Addr) (n cap : Nat) (xs : List Int) (w : World) (h : VTree w T.2 v) (hr : Rd w a n xs) (hc : n ≤ cap) (hm : cap ≤ maxLen) :
    Calls Try.prog 4 #[v, .slice a n cap] w fun e w' => e = .returned (.bool true) ∧ Below w.heap.size w w' := by
  have hl := hr.len
  subst hl
  exact law_TreeGet_of l6ok_anyD v _ T.2 xs w h ⟨a, cap, rfl, hr, hc, hm⟩

end Go.Proofs.Ytpnfcifkmmcllaa
