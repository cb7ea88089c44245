
/- The contract of the program's within. -/
import Derived.Test.YtnklnhnjmikooaaGreatInf
import Derived.Test.YtnklnhnjmikooaaGreatVal0
namespace Go.Proofs.YtnklnhnjmikooaaGreat
open Go.RowKit

/-- It lies within. -/
def inB (n lo hi : Int) : Bool := decide (lo ≤ n) && decide (n ≤ hi)

set_option maxHeartbeats 1000000 in
theorem withinV (n lo hi : Int) (w : World) : Calls Tryz.prog 53 #[.int .i64 n, .int .i64 lo, .int .i64 hi] w fun e w' => e = .returned (.bool (inB n lo hi)) ∧ w' = w := by
  by_cases h0 : lo ≤ n
  · by_cases h1 : n ≤ hi
    · have HK : Hid (inB n lo hi = true) := by unfold Hid inB; simp [h0, h1]
      go_enter Tryz.func53, Tryz.ntmps53
      go_wp2
      go_ret
      exact ⟨by rw [HK.out]; rfl, rfl⟩
    · have HK : Hid (inB n lo hi = false) := by unfold Hid inB; simp [h1]
      have h1' : decide (n ≤ hi) = false := decide_eq_false h1
      go_enter Tryz.func53, Tryz.ntmps53
      go_wp2
      go_ret
      exact ⟨by rw [HK.out]; rfl, rfl⟩
  · have HK : Hid (inB n lo hi = false) := by unfold Hid inB; simp [h0]
    have h0' : decide (lo ≤ n) = false := decide_eq_false h0
    go_enter Tryz.func53, Tryz.ntmps53
    go_wp2
    go_ret
    exact ⟨by rw [HK.out]; rfl, rfl⟩

end Go.Proofs.YtnklnhnjmikooaaGreat
