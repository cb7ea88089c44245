
/- Marks in lists of Member that a call owns: laid, held. -/
import Derived.Test.YtmodliaieienfaaElMem2
namespace Go.Proofs.Ytmodliaieienfaa
open Go.RowKit

/-- n elements of marks from k on. -/
def mkMem (k : Int) (n : Nat) : List DMem := (List.range n).map fun i : Nat => ⟨k + 3 * (i : Int), k + 3 * (i : Int) + 1, k + 3 * (i : Int) + 1 + 1⟩
theorem mkMem_len (k : Int) (n : Nat) : (mkMem k n).length = n := by simp [mkMem]
theorem mkMem_get (k : Int) (n i : Nat) (h : i < n) : (mkMem k n)[i]? = some ⟨k + 3 * (i : Int), k + 3 * (i : Int) + 1, k + 3 * (i : Int) + 1 + 1⟩ := by simp [mkMem, h]
theorem mkMem_set (k : Int) (ts : List DMem) (i : Nat) (h : i < ts.length) : (mkMem k i ++ ts.drop i).set i ⟨k + 3 * (i : Int), k + 3 * (i : Int) + 1, k + 3 * (i : Int) + 1 + 1⟩ = mkMem k (i + 1) ++ ts.drop (i + 1) := by
  rw [List.set_append_right _ _ (by rw [mkMem_len]; omega), mkMem_len, Nat.sub_self, List.drop_eq_getElem_cons h, List.set_cons_zero]
  simp [mkMem, List.range_succ]

end Go.Proofs.Ytmodliaieienfaa
