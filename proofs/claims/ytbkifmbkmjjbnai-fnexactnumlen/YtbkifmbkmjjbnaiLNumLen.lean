/- The exact statement of NumLen: whatever the number, the program's NumLen answers as the specification's; no condition. -/
import Derived.Test.YtbkifmbkmjjbnaiIPut
namespace Go.Proofs.Ytbkifmbkmjjbnai
open Go.RowKit

set_option maxHeartbeats 1000000 in
theorem law_NumLen (q : Int) (w : World) (_h1 : -9223372036854775808 ≤ q) (_h2 : q ≤ 9223372036854775807) : Calls Try.prog 7 #[.int .i64 q] w fun e w' => e = .returned (.bool true) ∧ Below w.heap.size w w' := by
  go_enter Try.func7, Try.ntmps7
  go_wp2_with fail
  refine (sLen q w).mono ?_
  rintro e w1 ⟨rfl, hb1⟩
  go_wp2_with fail
  refine (iLen q w1).mono ?_
  rintro e w2 ⟨rfl, hb2⟩
  go_wp2
  go_ret
  exact ⟨rfl, hb1.trans (hb2.mono hb1.size)⟩

end Go.Proofs.Ytbkifmbkmjjbnai
