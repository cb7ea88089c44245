
/- Marks, one behind another. -/
import Derived.Test.YtmodliaieienfaaBase
namespace Go.Proofs.Ytmodliaieienfaa
open Go.RowKit

/-- n marks from k on. -/
def mkL {α : Type} (m : Int → α) (k : Int) (n : Nat) : List α := (List.range n).map fun i : Nat => m (k + (i : Int))
theorem mkL_len {α : Type} (m : Int → α) (k : Int) (n : Nat) : (mkL m k n).length = n := by simp [mkL]
theorem mkL_get {α : Type} (m : Int → α) (k : Int) (n i : Nat) (h : i < n) : (mkL m k n)[i]? = some (m (k + i)) := by simp [mkL, h]
theorem mkL_set {α : Type} (m : Int → α) (f : α → Value) (k : Int) (xs : List α) (i : Nat) (h : i < xs.length) : ((mkL m k i ++ xs.drop i).map f).toArray.setIfInBounds i (f (m (k + i))) = ((mkL m k (i + 1) ++ xs.drop (i + 1)).map f).toArray := by
  rw [List.setIfInBounds_toArray, ← List.map_set]
  congr 2
  rw [List.set_append_right _ _ (by rw [mkL_len]; omega), mkL_len, Nat.sub_self, List.drop_eq_getElem_cons h, List.set_cons_zero]
  simp [mkL, List.range_succ]

end Go.Proofs.Ytmodliaieienfaa
