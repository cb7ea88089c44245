
/- The contracts of the specification's look-ups: l2sess, l2row, l2tomb. -/
import Derived.Test.YtpnachakijpjkaaSt0
import Derived.Test.YtpnachakijpjkaaConv
namespace Go.Proofs.Ytpnachakijpjkaa
open Go.RowKit

/-- Where the first one is, or -1. -/
def fnd {α : Type} (p : α → Bool) (l : List α) : Int := match l.findIdx? p with | some j => (j : Int) | none => -1
theorem fnd_at {α : Type} {p : α → Bool} {l : List α} {k : Nat} {x : α} (h : ∀ i y, i < k → l[i]? = some y → p y = false) (hx : l[k]? = some x) (hp : p x = true) : fnd p l = k := by
  obtain ⟨hk, e⟩ := List.getElem?_eq_some_iff.1 hx
  have : l.findIdx? p = some k := by
    rw [List.findIdx?_eq_some_iff_getElem]
    refine ⟨hk, by rw [e]; exact hp, fun j hj => ?_⟩
    have := h j l[j] hj (List.getElem?_eq_getElem (by omega))
    simp [this]
  unfold fnd
  rw [this]
theorem fnd_none {α : Type} {p : α → Bool} {l : List α} (h : ∀ (i : Nat) (y : α), l[i]? = some y → p y = false) : fnd p l = -1 := by
  have : l.findIdx? p = none := by
    rw [List.findIdx?_eq_none_iff]
    intro x hx
    obtain ⟨i, hi⟩ := List.getElem?_of_mem hx
    simpa using h i x hi
  unfold fnd
  rw [this]
theorem fnd_neg {α : Type} {p : α → Bool} {l : List α} (h : fnd p l < 0) : ∀ (i : Nat) (y : α), l[i]? = some y → p y = false := by
  unfold fnd at h
  cases e : l.findIdx? p with
  | none =>
    intro i y hy
    rw [List.findIdx?_eq_none_iff] at e
    have := e y (List.mem_of_getElem? hy)
    simpa using this
  | some j => rw [e] at h; simp at h <;> omega
theorem fnd_le {α : Type} (p : α → Bool) (l : List α) : -1 ≤ fnd p l ∧ fnd p l ≤ l.length := by
  unfold fnd
  cases e : l.findIdx? p with
  | none => simp
  | some j =>
    rw [List.findIdx?_eq_some_iff_getElem] at e
    obtain ⟨h, _⟩ := e
    simp
    omega
theorem fnd_hit {α : Type} {p : α → Bool} {l : List α} (h : 0 ≤ fnd p l) : ∃ (j : Nat) (x : α), fnd p l = (j : Int) ∧ l[j]? = some x ∧ p x = true ∧ ∀ i y, i < j → l[i]? = some y → p y = false := by
  unfold fnd at h ⊢
  cases e : l.findIdx? p with
  | none => rw [e] at h; simp at h
  | some j =>
    rw [List.findIdx?_eq_some_iff_getElem] at e
    obtain ⟨hj, h1, h2⟩ := e
    refine ⟨j, l[j], rfl, List.getElem?_eq_getElem hj, h1, fun i y hi hy => ?_⟩
    obtain ⟨hil, rfl⟩ := List.getElem?_eq_some_iff.1 hy
    simpa using h2 i hi

end Go.Proofs.Ytpnachakijpjkaa
