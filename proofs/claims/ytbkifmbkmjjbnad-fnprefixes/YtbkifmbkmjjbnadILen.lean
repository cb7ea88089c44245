/- The contract of the program's NumLen. -/
import Derived.Test.YtbkifmbkmjjbnadNumB
namespace Go.Proofs.Ytbkifmbkmjjbnad
open Go.RowKit

set_option maxHeartbeats 2000000 in
theorem iLen (q : Int) (w : World) : Calls Try.prog 10 #[.int .i64 q] w fun e w' => e = .returned (.int .i64 (numL q).length) ∧ Below w.heap.size w w' := by
  go_enter Try.func10, Try.ntmps10
  go_wp2_with (go_at_call 17; refine (nb q w).mono ?_; rintro e w1 ⟨d0, d1, d2, d3, d4, rfl, htake, hrng, hb1⟩)
  go_ret
  exact ⟨rfl, hb1.alloc hb1.size _⟩

end Go.Proofs.Ytbkifmbkmjjbnad
