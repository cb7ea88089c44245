
/- The helper's contract that compares bytes, told of whole values. -/
import Derived.Test.YtjkhadaoldbceaaCmp2
import Derived.Test.YtjkhadaoldbceaaVal0
namespace Go.Proofs.Ytjkhadaoldbceaa
open Go.RowKit

theorem eqV (v u : Value) (xs ys : List Int) (w : World) (h : RV w v xs) (k : RV w u ys) (hn : xs.length ≤ 2097152) :
    Calls Try.prog 11 #[v, u] w fun e w' => e = .returned (.bool (decide (xs = ys))) ∧ ∃ q, w' = w.drewN q := by
  obtain ⟨a, cap, rfl, hr, _, _⟩ := h
  obtain ⟨b, cap', rfl, hs, _, _⟩ := k
  exact eqB a b xs.length ys.length cap cap' xs ys w hr hs hn

/-- What is alike. -/
theorem eqV_yes (v u : Value) (xs : List Int) (w : World) (h : RV w v xs) (k : RV w u xs) (hn : xs.length ≤ 2097152) :
    Calls Try.prog 11 #[v, u] w fun e w' => e = .returned (.bool true) ∧ ∃ q, w' = w.drewN q := by
  have := eqV v u xs xs w h k hn
  simpa using this

end Go.Proofs.Ytjkhadaoldbceaa
