/- How many bytes two texts begin with alike: plain mathematics. -/
import Derived.Test.YtdeogmkcomdbjaaInf
import Derived.Test.YtdeogmkcomdbjaaVal0
namespace Go.Proofs.Ytdeogmkcomdbjaa
open Go.RowKit

/-- How many bytes both begin with alike. -/
def com : List Int → List Int → Nat
  | x :: xs, y :: ys => if x = y then com xs ys + 1 else 0
  | _, _ => 0

theorem com_at (k : Nat) (xs ys : List Int) (h1 : k ≤ xs.length) (h2 : k ≤ ys.length) (h : ∀ j, j < k → xs.getD j 0 = ys.getD j 0) (he : k = xs.length ∨ k = ys.length ∨ xs.getD k 0 ≠ ys.getD k 0) : com xs ys = k := by
  induction k generalizing xs ys with
  | zero =>
    cases xs with
    | nil => simp [com]
    | cons x xs =>
      cases ys with
      | nil => simp [com]
      | cons y ys =>
        rcases he with he | he | he
        · simp at he
        · simp at he
        · have : x ≠ y := by simpa using he
          simp [com, this]
  | succ k ih =>
    cases xs with
    | nil => simp at h1
    | cons x xs =>
      cases ys with
      | nil => simp at h2
      | cons y ys =>
        have h0 : x = y := by simpa using h 0 (by omega)
        rw [com, if_pos h0]
        simp only [List.length_cons] at h1 h2 he
        rw [ih xs ys (by omega) (by omega) (fun j hj => by simpa using h (j + 1) (by omega)) (by
          rcases he with he | he | he
          · exact .inl (by omega)
          · exact .inr (.inl (by omega))
          · exact .inr (.inr (by simpa using he)))]

theorem com_le (xs ys : List Int) : com xs ys ≤ xs.length ∧ com xs ys ≤ ys.length := by
  induction xs generalizing ys with
  | nil => simp [com]
  | cons x xs ih =>
    cases ys with
    | nil => simp [com]
    | cons y ys =>
      rw [com]
      have := ih ys
      split
      · simp only [List.length_cons]; omega
      · simp

theorem com_pre (xs ys : List Int) : com xs ys = ys.length ↔ ys.length ≤ xs.length ∧ xs.take ys.length = ys := by
  induction xs generalizing ys with
  | nil =>
    cases ys with
    | nil => simp [com]
    | cons y ys => simp [com]
  | cons x xs ih =>
    cases ys with
    | nil => simp [com]
    | cons y ys =>
      rw [com]
      by_cases h : x = y
      · rw [if_pos h]
        have := ih ys
        simp only [List.length_cons, Nat.add_right_cancel_iff, List.take_succ_cons, List.cons.injEq, h, true_and, Nat.add_le_add_iff_right]
        exact this
      · rw [if_neg h]
        simp [h]

/-- xs begins with ys. -/
def hasB (xs ys : List Int) : Bool := decide (com xs ys = ys.length)

end Go.Proofs.Ytdeogmkcomdbjaa
