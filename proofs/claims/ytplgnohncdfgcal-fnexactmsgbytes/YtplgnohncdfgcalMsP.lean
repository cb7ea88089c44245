/- When something may be a message. -/
import Derived.Test.YtplgnohncdfgcalMsB
import Derived.Test.YtplgnohncdfgcalIt2
namespace Go.Proofs.Ytplgnohncdfgcal
open Go.RowKit

/-- Item number i may follow in the message M. -/
def MItemAt (M : DMsg) (i : Nat) : Prop := ∀ d, M.items[i]? = some d → itemB d = true ∧ d.term ≤ M.term ∧ (∀ p, 0 < i → M.items[i - 1]? = some p → p.term ≤ d.term) ∧ M.prevTerm ≤ d.term
def MHeadP (M : DMsg) : Prop := (0 ≤ M.kind ∧ M.kind ≤ 3) ∧ (0 ≤ M.from_ ∧ M.from_ < 5) ∧ (0 ≤ M.to ∧ M.to < 5) ∧ M.from_ ≠ M.to ∧ (1 ≤ M.term ∧ M.term ≤ 100000) ∧ (0 ≤ M.prev ∧ M.prev ≤ 400) ∧ (0 ≤ M.prevTerm ∧ M.prevTerm ≤ 100000) ∧ M.prevTerm ≤ M.term ∧ (0 ≤ M.commit ∧ M.commit ≤ 400) ∧ M.items.length ≤ 4 ∧ (M.items.length : Int) ≤ 400 - M.prev
def MZeroP (M : DMsg) : Prop := M.kind = 3 ∨ M.kind = 1 ∨ (M.prev = 0 ↔ M.prevTerm = 0)
def MTailP (M : DMsg) : Prop :=
  (M.kind = 0 → M.items.length = 0 ∧ M.commit = 0 ∧ M.yes = false) ∧ (M.kind = 1 → M.prev = 0 ∧ M.prevTerm = 0 ∧ M.items.length = 0 ∧ M.commit = 0) ∧ (M.kind = 2 → M.yes = false) ∧ (M.kind = 3 → M.prevTerm = 0 ∧ M.items.length = 0 ∧ M.commit = 0)
/-- It may be a message. -/
def MsgP (M : DMsg) : Prop := MHeadP M ∧ MZeroP M ∧ (∀ i, i < M.items.length → MItemAt M i) ∧ MTailP M

end Go.Proofs.Ytplgnohncdfgcal
