/- Tables that say the same, as a plain saying. It holds over every program. -/
import Derived.Test.YtpgbpfaaidcnpaaMd2
namespace Go.Proofs.Ytpgbpfaaidcnpaa
open Go.RowKit

/-- Two tables say the same. -/
def AgreeP (A B : DTab) : Prop := TabP A ∧ TabP B ∧ A.mems = B.mems
theorem eq_of_get {xs ys : List DMem} (hl : xs.length = ys.length) (h : ∀ (i : Nat) a b, xs[i]? = some a → ys[i]? = some b → a = b) : xs = ys := by
  apply List.ext_getElem?
  intro i
  by_cases hi : i < xs.length
  · rw [List.getElem?_eq_getElem hi, List.getElem?_eq_getElem (by omega)]
    rw [h i _ _ (List.getElem?_eq_getElem hi) (List.getElem?_eq_getElem (by omega))]
  · rw [List.getElem?_eq_none (by omega), List.getElem?_eq_none (by omega)]

end Go.Proofs.Ytpgbpfaaidcnpaa
