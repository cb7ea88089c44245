
/- The contract of the program's within. -/
import Derived.Test.YtgafnajnndbofaaInf
import Derived.Test.YtgafnajnndbofaaVal0
namespace Go.Proofs.Ytgafnajnndbofaa
open Go.RowKit

/-- It lies within. -/
def inB (n lo hi : Int) : Bool := decide (lo ≤ n) && decide (n ≤ hi)

set_option maxHeartbeats 1000000 in
theorem withinV (n lo hi : Int) (w : World) : Calls Try.prog 20 #[.int .i64 n, .int .i64 lo, .int .i64 hi] w fun e w' => e = .returned (.bool (inB n lo hi)) ∧ w' = w := by
  by_cases h0 : lo ≤ n
  · by_cases h1 : n ≤ hi
    · have HK : Hid (inB n lo hi = true) := by unfold Hid inB; simp [h0, h1]
      go_enter Try.func20, Try.ntmps20
      go_wp2
      go_ret
      exact ⟨by rw [HK.out]; rfl, rfl⟩
    · have HK : Hid (inB n lo hi = false) := by unfold Hid inB; simp [h1]
      have h1' : decide (n ≤ hi) = false := decide_eq_false h1
      go_enter Try.func20, Try.ntmps20
      go_wp2
      go_ret
      exact ⟨by rw [HK.out]; rfl, rfl⟩
  · have HK : Hid (inB n lo hi = false) := by unfold Hid inB; simp [h0]
    have h0' : decide (lo ≤ n) = false := decide_eq_false h0
    go_enter Try.func20, Try.ntmps20
    go_wp2
    go_ret
    exact ⟨by rw [HK.out]; rfl, rfl⟩

end Go.Proofs.Ytgafnajnndbofaa
