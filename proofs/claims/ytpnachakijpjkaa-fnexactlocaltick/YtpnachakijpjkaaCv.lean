
/- A copy of bytes, as the program makes it. -/
import Derived.Test.YtpnachakijpjkaaClone
import Derived.Test.YtpnachakijpjkaaVal0
namespace Go.Proofs.Ytpnachakijpjkaa
open Go.RowKit

theorem cloneV (v : Value) (xs : List Int) (w : World) (h : RV w v xs) (hn : xs.length ≤ 2097152) : Calls Try.prog 47 #[v] w fun e w' => ∃ v', e = .returned v' ∧ Ow w' w.heap.size v' xs ∧ Below w.heap.size w w' := by
  obtain ⟨a, cap, rfl, hr, _, _⟩ := h
  exact clone a xs.length cap xs w hr hn

end Go.Proofs.Ytpnachakijpjkaa
