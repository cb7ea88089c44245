/- The exact statement of Newer: the walk, without a condition. -/
import Derived.Test.YtpmkmnniccbljanLNewer
import Derived.Test.YtpmkmnniccbljanNdN
import Derived.Test.YtpmkmnniccbljanOpenN
namespace Go.Proofs.Ytpmkmnniccbljan
open Go.RowKit

theorem law_Newer (v : Value) (M : DNode) (s x y : Int) (w : World) (h : VNode w v M) (_h1 : True) (_h2 : -9223372036854775808 ≤ M.term ∧ M.term ≤ 9223372036854775807) (_a0 : -9223372036854775808 ≤ s) (_b0 : s ≤ 9223372036854775807) (_a1 : -9223372036854775808 ≤ x) (_b1 : x ≤ 9223372036854775807) (_a2 : -9223372036854775808 ≤ y) (_b2 : y ≤ 9223372036854775807) :
    Calls Try.prog 3 #[v, .int .i64 s, .int .i64 x, .int .i64 y] w fun e w' => e = .returned (.bool true) ∧ Below w.heap.size w w' :=
  law_Newer_of newerR (fun v M s x y w h => sNewerV v M s x y w h) (fun v M s x y w h => iNewerV v M s x y w h) v M s x y w h

end Go.Proofs.Ytpmkmnniccbljan
