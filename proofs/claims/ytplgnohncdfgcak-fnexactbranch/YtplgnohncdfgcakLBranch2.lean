/- The exact statement of Branch: the walk, without a condition. -/
import Derived.Test.YtplgnohncdfgcakLBranch
import Derived.Test.YtplgnohncdfgcakSSb
import Derived.Test.YtplgnohncdfgcakOpen3
namespace Go.Proofs.Ytplgnohncdfgcak
open Go.RowKit

theorem rv_of_row {w : World} {a : Option Addr} {len cap : Nat} {xs : List Int} (h : Rd w a len xs) (hc : len ≤ cap) (hm : cap ≤ maxLen) : RV w (.slice a len cap) xs := by
  obtain rfl : xs.length = len := h.len
  exact ⟨a, cap, rfl, h, hc, hm⟩

theorem law_Branch (v : Value) (S : DState) (a : Option Addr) (len cap : Nat) (p : List Int) (w : World) (h : VState w v S) (hr : rngSt S) (_hi : intSt S) (hrd : Rd w a len p) (hc : len ≤ cap) (hm : cap ≤ maxLen) :
    Calls Try.prog 7 #[v, .slice a len cap] w fun e w' => e = .returned (.bool true) ∧ Below w.heap.size w w' := law_Branch_of sStateOkV v _ S p w h hr (rv_of_row hrd hc hm)

end Go.Proofs.Ytplgnohncdfgcak
