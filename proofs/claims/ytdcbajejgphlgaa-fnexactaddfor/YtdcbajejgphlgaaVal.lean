/- The helpers' contracts told of whole values. -/
import Derived.Test.YtdcbajejgphlgaaCmp
import Derived.Test.YtdcbajejgphlgaaCmp2
import Derived.Test.YtdcbajejgphlgaaVal0
namespace Go.Proofs.Ytdcbajejgphlgaa
open Go.RowKit

theorem toV (v : Value) (xs : List Int) (w : World) (h : RV w v xs) (hn : xs.length ≤ 1048576) :
    Calls Try.prog 73 #[v] w fun e w' => ∃ v', e = .returned v' ∧ Ow w' w.heap.size v' xs ∧ Below w.heap.size w w' := by
  obtain ⟨a, cap, rfl, hr, _, _⟩ := h
  exact (toB a xs.length cap xs w hr hn).mono fun e w' ⟨h1, h2, h3⟩ => ⟨_, h1, h2, h3⟩

theorem eqV (v u : Value) (xs ys : List Int) (w : World) (h : RV w v xs) (k : RV w u ys) (hn : xs.length ≤ 2097152) :
    Calls Try.prog 77 #[v, u] w fun e w' => e = .returned (.bool (decide (xs = ys))) ∧ ∃ q, w' = w.drewN q := by
  obtain ⟨a, cap, rfl, hr, _, _⟩ := h
  obtain ⟨b, cap', rfl, hs, _, _⟩ := k
  exact eqB a b xs.length ys.length cap cap' xs ys w hr hs hn

/-- What is alike. -/
theorem eqV_yes (v u : Value) (xs : List Int) (w : World) (h : RV w v xs) (k : RV w u xs) (hn : xs.length ≤ 2097152) :
    Calls Try.prog 77 #[v, u] w fun e w' => e = .returned (.bool true) ∧ ∃ q, w' = w.drewN q := by
  have := eqV v u xs xs w h k hn
  simpa using this

end Go.Proofs.Ytdcbajejgphlgaa
