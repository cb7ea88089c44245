/- The binary search for a client's last: the comparison, the closure, the library's search. -/
import Derived.Test.YtplgnohncdfgcakSFind
import Derived.Test.YtplgnohncdfgcakILast
import Derived.Test.YtplgnohncdfgcakQB
namespace Go.Proofs.Ytplgnohncdfgcak
open Go.RowKit

/-- As cmp.Compare answers. -/
def cmpI (x y : Int) : Int := if x < y then -1 else if y < x then 1 else 0

theorem isNaNV (x : Int) (w : World) : Calls Try.prog 92 #[.int .i64 x] w fun e w' => e = .returned (.bool false) ∧ w' = w := by
  go_enter Try.func92, Try.ntmps92
  go_wp2
  go_ret
  exact ⟨rfl, rfl⟩

theorem compareIV (x y : Int) (w : World) : Calls Try.prog 87 #[.int .i64 x, .int .i64 y] w fun e w' => e = .returned (.int .i64 (cmpI x y)) ∧ w' = w := by
  by_cases h1 : x < y
  · have HC : Hid (cmpI x y = -1) := if_pos h1
    go_enter Try.func87, Try.ntmps87
    go_wp2_with (go_at_call 92; refine (isNaNV _ _).mono ?_; rintro e w1 ⟨rfl, rfl⟩)
    go_ret
    exact ⟨by rw [HC.out]; rfl, rfl⟩
  · have d1 : decide (x < y) = false := decide_eq_false h1
    by_cases h2 : y < x
    · have HC : Hid (cmpI x y = 1) := (if_neg h1).trans (if_pos h2)
      go_enter Try.func87, Try.ntmps87
      go_wp2_with (go_at_call 92; refine (isNaNV _ _).mono ?_; rintro e w1 ⟨rfl, rfl⟩)
      go_ret
      exact ⟨by rw [HC.out]; rfl, rfl⟩
    · have d2 : decide (y < x) = false := decide_eq_false h2
      have HC : Hid (cmpI x y = 0) := (if_neg h1).trans (if_neg h2)
      go_enter Try.func87, Try.ntmps87
      go_wp2_with (go_at_call 92; refine (isNaNV _ _).mono ?_; rintro e w1 ⟨rfl, rfl⟩)
      go_ret
      exact ⟨by rw [HC.out]; rfl, rfl⟩

theorem cmpLastV (c r co ix client : Int) (w : World) : Calls Try.prog 86 #[.agg #[.int .i64 c, .int .i64 r, .int .i64 co, .int .i64 ix], .int .i64 client] w fun e w' => e = .returned (.int .i64 (cmpI c client)) ∧ Below w.heap.size w w' := by
  have hB : ∀ w : World, ∀ o, Below w.heap.size w (w.alloc o) := fun w o => (Below.refl _ w).alloc (Nat.le_refl _) _
  go_enter Try.func86, Try.ntmps86
  go_wp2_with (go_at_call 87; refine (compareIV _ _ _).mono ?_; rintro e w1 ⟨rfl, rfl⟩)
  go_ret
  exact ⟨rfl, hB _ _⟩

end Go.Proofs.Ytplgnohncdfgcak
