/- Draws: small lemmas on what a draw leaves in memory. -/
import Derived.Test.YtbkifmbkmjjbnabCur2
namespace Go.Proofs.Ytbkifmbkmjjbnab
open Go.RowKit

theorem below_row {B g : Nat} {w0 w w' : World} (hb : Below B w0 w) (hs : B ≤ w.heap.size) (hg : w.grownBy w' (some g)) (hB : B ≤ g) : Below B w0 w' :=
  hb.grown hg hs (fun k hk => by simp only [Option.some.injEq] at hk; omega)

theorem Ow.row {w w' : World} {base g : Nat} {v : Value} {xs : List Int} (o : Ow w base v xs) (hg : w.grownBy w' (some g)) (hb : g < base) : Ow w' base v xs :=
  o.kept hg (by
    right
    intro e
    have := (o.lt g e).1
    omega)

/-- Two short texts. -/
def PairPost (m k : Nat) (w : World) (e : Ending) (w' : World) : Prop :=
  ∃ v u xs ys, e = .returned (.tuple #[v, u]) ∧ xs.length ≤ m ∧ ys.length ≤ k ∧ (∀ x ∈ xs, 0 ≤ x ∧ x ≤ 255) ∧ (∀ x ∈ ys, 0 ≤ x ∧ x ≤ 255) ∧ RV w' v xs ∧ RV w' u ys ∧ Below w.heap.size w w'

theorem take_rng {xs : List Int} (h : ∀ y ∈ xs, 0 ≤ y ∧ y ≤ 255) (k : Nat) : ∀ y ∈ xs.take k, 0 ≤ y ∧ y ≤ 255 := fun y hy => h y (List.mem_of_mem_take hy)
theorem app_rng {xs ys : List Int} (h : ∀ y ∈ xs, 0 ≤ y ∧ y ≤ 255) (h' : ∀ y ∈ ys, 0 ≤ y ∧ y ≤ 255) : ∀ y ∈ xs ++ ys, 0 ≤ y ∧ y ≤ 255 := fun y hy => by
  rcases List.mem_append.1 hy with hy | hy
  · exact h y hy
  · exact h' y hy

theorem cur_lt {w : World} {B g : Nat} (h : Cur w B g) : g < w.heap.size := by
  obtain ⟨_, _, _, _, _, _, hb, _⟩ := h
  exact (Array.getElem?_eq_some_iff.1 hb).1

end Go.Proofs.Ytbkifmbkmjjbnab
