
/- The helpers' contracts told of whole values. -/
import Derived.Test.YtjkhadaoldbceaaCmp
import Derived.Test.YtjkhadaoldbceaaValE
namespace Go.Proofs.Ytjkhadaoldbceaa
open Go.RowKit

theorem toV (v : Value) (xs : List Int) (w : World) (h : RV w v xs) (hn : xs.length ≤ 1048576) :
    Calls Try.prog 8 #[v] w fun e w' => ∃ v', e = .returned v' ∧ Ow w' w.heap.size v' xs ∧ Below w.heap.size w w' := by
  obtain ⟨a, cap, rfl, hr, _, _⟩ := h
  exact (toB a xs.length cap xs w hr hn).mono fun e w' ⟨h1, h2, h3⟩ => ⟨_, h1, h2, h3⟩

end Go.Proofs.Ytjkhadaoldbceaa
