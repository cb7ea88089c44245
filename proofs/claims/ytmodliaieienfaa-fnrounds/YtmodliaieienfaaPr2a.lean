
/- Numbers of a row that looks drawn, lists turned round by them: plain. -/
import Derived.Test.YtmodliaieienfaaLiB
import Derived.Test.YtmodliaieienfaaElG
import Derived.Test.YtmodliaieienfaaSum0
import Derived.Deep.CutRange
namespace Go.Proofs.Ytmodliaieienfaa
open Go.RowKit

/-- The next number of the row. -/
def mixF (s : Int) : Int := if s < 0 ∨ 2147483647 < s then 0 else (s * 16807 + 11) % 2147483647
theorem mixF_bd (s : Int) : 0 ≤ mixF s ∧ mixF s < 2147483647 := by
  unfold mixF
  split
  · omega
  · exact ⟨Int.emod_nonneg _ (by omega), Int.emod_lt_of_pos _ (by omega)⟩
/-- Two places change. -/
def swapL (xs : List Int) (i k : Nat) : List Int := (xs.set i (xs.getD k 0)).set k (xs.getD i 0)
theorem swapL_len (xs : List Int) (i k : Nat) : (swapL xs i k).length = xs.length := by simp [swapL]
/-- From place i down to 1. -/
def shufN : Nat → List Int → Int → List Int × Int
  | 0, xs, s => (xs, s)
  | i + 1, xs, s => shufN i (swapL xs (i + 1) (mixF s % ((i : Int) + 2)).toNat) (mixF s)
theorem shufN_len : ∀ (i : Nat) (xs : List Int) (s : Int), (shufN i xs s).1.length = xs.length
  | 0, _, _ => rfl
  | i + 1, xs, s => by rw [shufN, shufN_len i, swapL_len]
def shufL (xs : List Int) (s : Int) : List Int × Int := shufN (xs.length - 1) xs s
theorem shufL_len (xs : List Int) (s : Int) : (shufL xs s).1.length = xs.length := shufN_len _ _ _
/-- What Shuffle tells. -/
def shufD (xs : List Int) (s : Int) : List Int × Int := if xs.length > 12 ∨ s < 0 ∨ 2147483647 < s then ([], 0) else shufL xs s
theorem shufN_perm : ∀ (i : Nat) (xs : List Int) (s : Int), i < xs.length ∨ i = 0 → (shufN i xs s).1.Perm xs
  | 0, xs, _, _ => List.Perm.refl _
  | i + 1, xs, s, h => by
    have hi : i + 1 < xs.length := by omega
    have hk : (mixF s % ((i : Int) + 2)).toNat < xs.length := by
      have := Int.emod_lt_of_pos (mixF s) (show (0 : Int) < (i : Int) + 2 by omega)
      have := Int.emod_nonneg (mixF s) (show ((i : Int) + 2) ≠ 0 by omega)
      omega
    rw [shufN]
    refine (shufN_perm i _ _ (.inl (by rw [swapL_len]; omega))).trans ?_
    generalize (mixF s % ((i : Int) + 2)).toNat = k at hk
    unfold swapL
    have e1 : xs.getD k 0 = xs[k] := by simp [List.getD, hk]
    have e2 : xs.getD (i + 1) 0 = xs[i + 1] := by simp [List.getD, hi]
    rw [e1, e2]
    exact List.set_set_perm hi hk

/-- Two stores into a row of numbers. -/
theorem OwI.put {w : World} {base g cap n : Nat} {xs : List Int} (h : OwI w base (.slice (some ⟨g, 0, none⟩) n cap) xs) (hn : n = xs.length) (i : Nat) (x : Int) :
    OwI (w.setCell ⟨g, i, none⟩ (.int .i64 x)) base (.slice (some ⟨g, 0, none⟩) n cap) (xs.set i x) ∧ w.grownBy (w.setCell ⟨g, i, none⟩ (.int .i64 x)) (some g) := by
  subst hn
  have R := World.ownsRow.stored h i (fI x)
  refine ⟨?_, R.2⟩
  unfold OwI
  rw [List.map_set, List.length_set]
  exact R.1
theorem OwI.get {w : World} {base g cap n : Nat} {xs : List Int} (h : OwI w base (.slice (some ⟨g, 0, none⟩) n cap) xs) (hn : n = xs.length) (i : Nat) (hi : i < n) : w.cell? ⟨g, i, none⟩ = some (.int .i64 (xs.getD i 0)) ∧ w.frozen? ⟨g, i, none⟩ = false := by
  subst hn
  refine ⟨?_, World.ownsRow.frozenAt h i⟩
  rw [World.ownsRow.cellAt h i (by omega)]
  simp [hi, fI]

end Go.Proofs.Ytmodliaieienfaa
