
/- Lists of numbers that a call owns. -/
import Derived.Test.YtmodliaieienfaaLiU
import Derived.Laws.OwnMore
import Derived.OwnWalk
namespace Go.Proofs.Ytmodliaieienfaa
open Go.RowKit

/-- v owns the numbers xs, in a row from block base on. -/
def OwI (w : World) (base : Nat) (v : Value) (xs : List Int) : Prop := w.ownsRow base 3 1 v xs.length (xs.map fI)
theorem OwI.ext {w w' : World} {base : Nat} {v : Value} {xs : List Int} (h : OwI w base v xs) (e : Ext w w') : OwI w' base v xs := h.kept e (by cases hv : v.ownBlock <;> simp)
theorem OwI.vl {w : World} {base : Nat} {v : Value} {xs : List Int} (h : OwI w base v xs) : VL fI w v xs := by
  rcases h.2 with ⟨rfl, h0⟩ | ⟨g, cap, cur, rfl, hb, hg, hnc, hcm, hcs, htake⟩
  · have : xs = [] := List.eq_nil_of_length_eq_zero h0
    subst this
    exact ⟨none, 0, rfl, Nat.le_refl _, Nat.zero_le _, fun h => absurd h (by simp)⟩
  · refine ⟨_, cap, rfl, hnc, hcm, fun _ => ⟨g, 0, rfl, (Array.getElem?_eq_some_iff.1 hg).1, fun i x hx => ?_⟩⟩
    rw [Nat.zero_add, h.cellAt i (by have := (List.getElem?_eq_some_iff.1 hx).1; omega)]
    simp [hx]

end Go.Proofs.Ytmodliaieienfaa
