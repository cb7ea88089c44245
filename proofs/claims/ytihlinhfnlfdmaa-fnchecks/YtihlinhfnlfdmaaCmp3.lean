
/- Contracts of the small helpers of the exact statements: marking bytes, and whether marks are held. -/
import Derived.Test.YtihlinhfnlfdmaaInf
namespace Go.Proofs.Ytihlinhfnlfdmaa
open Go.RowKit

/-- The marks that 'markByteS' lays from k on. -/
def marks (k : Int) : Nat → List Int
  | 0 => []
  | n + 1 => k % 256 :: marks (k + 1) n

theorem marks_len (k : Int) (n : Nat) : (marks k n).length = n := by
  induction n generalizing k with
  | zero => rfl
  | succ n ih => simp [marks, ih]

theorem marks_get (k : Int) (n j : Nat) (hj : j < n) : (marks k n).getD j 0 = (k + j) % 256 := by
  induction n generalizing k j with
  | zero => omega
  | succ n ih =>
    cases j with
    | zero => simp [marks]
    | succ j =>
      have := ih (k + 1) j (by omega)
      simp only [marks, List.getD_cons_succ]
      rw [this]
      congr 1
      omega

theorem marks_rng (k : Int) (n : Nat) : ∀ x ∈ marks k n, 0 ≤ x ∧ x ≤ 255 := by
  induction n generalizing k with
  | zero => intro x hx; cases hx
  | succ n ih =>
    intro x hx
    rcases List.mem_cons.1 hx with rfl | hx
    · omega
    · exact ih _ x hx

/-- Bytes that are marked up to j. -/
def marked (xs : List Int) (k : Int) (j : Nat) : List Int := marks k j ++ xs.drop j

theorem marked_set (xs : List Int) (k : Int) (j n : Nat) (hl : xs.length = n) (hj : j < n) : (B8 (marked xs k j)).set j (.int .u8 ((k + j) % 256)) = B8 (marked xs k (j + 1)) := by
  apply List.ext_getElem?
  intro i
  have l1 := marks_len k j
  have l2 := marks_len k (j + 1)
  rw [List.getElem?_set]
  have e1 : ∀ q, (marked xs k q)[i]? = if i < q then some ((k + i) % 256) else xs[i]? := by
    intro q
    unfold marked
    have lq := marks_len k q
    by_cases hi : i < q
    · rw [if_pos hi, List.getElem?_append_left (by omega)]
      have := marks_get k q i hi
      rw [List.getD_eq_getElem?_getD, List.getElem?_eq_getElem (by omega)] at this
      rw [List.getElem?_eq_getElem (by omega)]
      simpa using this
    · rw [if_neg hi, List.getElem?_append_right (by omega), List.getElem?_drop, lq]
      congr 1
      omega
  have e2 : (B8 (marked xs k j)).length = n := by simp [marked, l1]; omega
  by_cases e : j = i
  · subst e
    rw [if_pos rfl, if_pos (by omega), B8, List.getElem?_map, e1, if_pos (by omega)]
    rfl
  · rw [if_neg e, B8, B8, List.getElem?_map, List.getElem?_map, e1, e1]
    by_cases hi : i < j
    · rw [if_pos hi, if_pos (by omega)]
    · rw [if_neg hi, if_neg (by omega)]

end Go.Proofs.Ytihlinhfnlfdmaa
