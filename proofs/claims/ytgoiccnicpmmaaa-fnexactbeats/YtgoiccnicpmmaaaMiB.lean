/- The program's Beats. -/
import Derived.Test.YtgoiccnicpmmaaaMiM
namespace Go.Proofs.Ytgoiccnicpmmaaa
open Go.RowKit

set_option maxHeartbeats 2000000 in
theorem iBeatsV (a b : DMem) (w : World) :
    Calls Try.prog 20 #[.agg #[.int .i64 a.id, .int .i64 a.st, .int .i64 a.life], .agg #[.int .i64 b.id, .int .i64 b.st, .int .i64 b.life]] w fun e w' => e = .returned (.bool (beatsB a b)) ∧ Below w.heap.size w w' := by
  have hB2 : ∀ o o', Below w.heap.size w ((w.alloc o).alloc o') := fun o o' => ((Below.refl _ w).alloc (Nat.le_refl _) _).alloc (by simp) _
  go_enter Try.func20, Try.ntmps20
  go_wp2_with (go_at_call 30; refine (beatsMV a b _).mono ?_; rintro e w1 ⟨rfl, b1⟩)
  go_ret
  exact ⟨rfl, (hB2 _ _).trans (b1.mono (hB2 _ _).size)⟩

end Go.Proofs.Ytgoiccnicpmmaaa
