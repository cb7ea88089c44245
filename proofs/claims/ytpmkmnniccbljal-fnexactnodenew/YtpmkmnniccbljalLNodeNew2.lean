/- The exact statement of NodeNew: the walk, at every argument. -/
import Derived.Test.YtpmkmnniccbljalLNodeNew
import Derived.Test.YtpmkmnniccbljalOpen0
namespace Go.Proofs.Ytpmkmnniccbljal
open Go.RowKit

theorem law_NodeNew (i s : Int) (w : World) (_a0 : -9223372036854775808 ≤ i) (_b0 : i ≤ 9223372036854775807) (_a1 : -9223372036854775808 ≤ s) (_b1 : s ≤ 9223372036854775807) :
    Calls Try.prog 7 #[.int .i64 i, .int .i64 s] w fun e w' => e = .returned (.bool true) ∧ Below w.heap.size w w' := by
  cases k : srvB i s
  · exact law_zero i s w k
  · obtain ⟨⟨h1, h2⟩, h3, h4⟩ := (hsrv i s).1 k
    obtain ⟨n, rfl⟩ : ∃ n : Nat, s = (n : Int) := ⟨s.toNat, by omega⟩
    exact law_new i n w (by omega) (by omega) h3 h4

end Go.Proofs.Ytpmkmnniccbljal
