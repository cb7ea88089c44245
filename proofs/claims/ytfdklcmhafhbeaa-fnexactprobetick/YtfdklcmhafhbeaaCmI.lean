/- The library's comparison of numbers. -/
import Derived.Test.YtfdklcmhafhbeaaInf
import Derived.Test.YtfdklcmhafhbeaaVal0
namespace Go.Proofs.Ytfdklcmhafhbeaa
open Go.RowKit

/-- As cmp.Compare answers. -/
def cmpI (x y : Int) : Int := if x < y then -1 else if y < x then 1 else 0

theorem isNaNV (x : Int) (w : World) : Calls Try.prog 74 #[.int .i64 x] w fun e w' => e = .returned (.bool false) ∧ w' = w := by
  go_enter Try.func74, Try.ntmps74
  go_wp2
  go_ret
  exact ⟨rfl, rfl⟩

theorem compareIV (x y : Int) (w : World) : Calls Try.prog 70 #[.int .i64 x, .int .i64 y] w fun e w' => e = .returned (.int .i64 (cmpI x y)) ∧ w' = w := by
  by_cases h1 : x < y
  · have HC : Hid (cmpI x y = -1) := if_pos h1
    go_enter Try.func70, Try.ntmps70
    go_wp2_with (go_at_call 74; refine (isNaNV _ _).mono ?_; rintro e w1 ⟨rfl, rfl⟩)
    go_ret
    exact ⟨by rw [HC.out]; rfl, rfl⟩
  · have d1 : decide (x < y) = false := decide_eq_false h1
    by_cases h2 : y < x
    · have HC : Hid (cmpI x y = 1) := (if_neg h1).trans (if_pos h2)
      go_enter Try.func70, Try.ntmps70
      go_wp2_with (go_at_call 74; refine (isNaNV _ _).mono ?_; rintro e w1 ⟨rfl, rfl⟩)
      go_ret
      exact ⟨by rw [HC.out]; rfl, rfl⟩
    · have d2 : decide (y < x) = false := decide_eq_false h2
      have HC : Hid (cmpI x y = 0) := (if_neg h1).trans (if_neg h2)
      go_enter Try.func70, Try.ntmps70
      go_wp2_with (go_at_call 74; refine (isNaNV _ _).mono ?_; rintro e w1 ⟨rfl, rfl⟩)
      go_ret
      exact ⟨by rw [HC.out]; rfl, rfl⟩

end Go.Proofs.Ytfdklcmhafhbeaa
