
/- Contracts of the small helpers of the exact statements: whether two texts of bytes are alike. -/
import Derived.Test.YtihlinhfnlfdmaaInf
namespace Go.Proofs.Ytihlinhfnlfdmaa
open Go.RowKit

theorem ne_at {xs ys : List Int} {k : Nat} (h : xs.getD k 0 ≠ ys.getD k 0) : decide (xs = ys) = false := by
  rw [decide_eq_false_iff_not]
  rintro rfl
  exact h rfl

theorem eq_all {xs ys : List Int} (hl : xs.length = ys.length) (h : ∀ j, j < xs.length → xs.getD j 0 = ys.getD j 0) : xs = ys := by
  apply List.ext_getElem hl
  intro j h1 h2
  have := h j h1
  simpa [List.getD, h1, h2] using this

end Go.Proofs.Ytihlinhfnlfdmaa
