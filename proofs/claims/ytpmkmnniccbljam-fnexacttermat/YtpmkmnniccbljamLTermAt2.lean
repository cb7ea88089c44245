/- The exact statement of TermAt: the walk, without a condition. -/
import Derived.Test.YtpmkmnniccbljamLTermAt
import Derived.Test.YtpmkmnniccbljamNdT
import Derived.Test.YtpmkmnniccbljamOpenN
namespace Go.Proofs.Ytpmkmnniccbljam
open Go.RowKit

theorem law_TermAt (v : Value) (M : DNode) (s x : Int) (w : World) (h : VNode w v M) (_h1 : True) (_h2 : -9223372036854775808 ≤ M.term ∧ M.term ≤ 9223372036854775807) (_a0 : -9223372036854775808 ≤ s) (_b0 : s ≤ 9223372036854775807) (_a1 : -9223372036854775808 ≤ x) (_b1 : x ≤ 9223372036854775807) :
    Calls Try.prog 5 #[v, .int .i64 s, .int .i64 x] w fun e w' => e = .returned (.bool true) ∧ Below w.heap.size w w' :=
  law_TermAt_of termAtR (fun v M s x w h => sTermAtV v M s x w h) (fun v M s x w h => iTermAtV v M s x w h) v M s x w h

end Go.Proofs.Ytpmkmnniccbljam
