/- The exact statement of Mix: the walk of the law itself. -/
import Derived.Test.YtbgjfccdgalapaaPr2
import Derived.Test.YtbgjfccdgalapaaPx0
namespace Go.Proofs.Ytbgjfccdgalapaa
open Go.RowKit

set_option maxHeartbeats 1000000 in
theorem law_Mix (s : Int) (w : World) (h1 : -9223372036854775808 ≤ s) (h2 : s ≤ 9223372036854775807) :
    Calls Try.prog 3 #[.int .i64 s] w fun e w' => e = .returned (.bool true) ∧ Below w.heap.size w w' := by
  have HS : Hid (∀ W, Calls Try.prog 8 #[.int .i64 s] W fun e w' => e = .returned (.int .i64 (mixF s)) ∧ Below W.heap.size W w') := fun W => (sMixV s W h1 h2).mono fun e w' ⟨h1, h2⟩ => ⟨h1, by rw [h2]; exact Below.refl _ _⟩
  have HI : Hid (∀ W, Calls Try.prog 9 #[.int .i64 s] W fun e w' => e = .returned (.int .i64 (mixF s)) ∧ Below W.heap.size W w') := fun W => (iMixV s W h1 h2).mono fun e w' ⟨h1, h2⟩ => ⟨h1, by rw [h2]; exact Below.refl _ _⟩
  generalize mixF s = r at HS HI
  go_enter Try.func3, Try.ntmps3
  go_wp2_with fail
  refine (HS.out w).mono ?_
  rintro e w1 ⟨rfl, b1⟩
  go_wp2_with fail
  refine (HI.out w1).mono ?_
  rintro e w2 ⟨rfl, b2⟩
  go_wp2
  go_ret
  exact ⟨rfl, b1.trans (b2.mono b1.size)⟩

end Go.Proofs.Ytbgjfccdgalapaa
