
/- Marking and holding, told of values that a call owns. -/
import Derived.Test.YtjkhadaoldbceaaVal0
import Derived.Test.YtjkhadaoldbceaaCmp3
namespace Go.Proofs.Ytjkhadaoldbceaa
open Go.RowKit

theorem markV (base : Nat) (v : Value) (xs : List Int) (k : Int) (w : World) (h : Ow w base v xs) (hn : xs.length ≤ 2097152) (hk0 : 0 ≤ k) (hk : k ≤ 1073741824) :
    Calls Try.prog 13 #[v, .int .i64 k] w fun e w' => e = .returned (.int .i64 (k + xs.length)) ∧ Ow w' base v (marks k xs.length) ∧ w.grownBy w' v.ownBlock := by
  rcases h.2 with ⟨rfl, h0⟩ | ⟨g, cap, cur, rfl, r⟩
  · have : xs = [] := List.eq_nil_of_length_eq_zero h0
    subst this
    refine (markB0 none 0 k w).mono fun e w' ⟨h1, h2⟩ => ?_
    subst h2
    exact ⟨by simpa using h1, h, World.grownBy.refl _ _⟩
  · refine (markB base g xs.length cap xs k w h hn hk0 hk).mono fun e w' ⟨h1, h2, h3⟩ => ⟨h1, ?_, h3⟩
    show w'.ownsRow base 5 1 _ (marks k xs.length).length _
    rw [marks_len]
    exact h2

theorem heldV (v : Value) (n : Nat) (k : Int) (w : World) (h : RV w v (marks k n)) (hn : n ≤ 2097152) (hk0 : 0 ≤ k) (hk : k ≤ 1073741824) :
    Calls Try.prog 36 #[v, .int .i64 k] w fun e w' => e = .returned (.int .i64 (k + n)) ∧ w' = w := by
  obtain ⟨a, cap, rfl, hr, _, _⟩ := h
  rw [marks_len] at hr ⊢
  exact heldB a n cap k w hr hn hk0 hk

end Go.Proofs.Ytjkhadaoldbceaa
