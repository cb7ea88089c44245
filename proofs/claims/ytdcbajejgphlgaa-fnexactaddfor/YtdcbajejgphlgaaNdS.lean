/- The specification's NodeOk tells whether something may be a server. -/
import Derived.Test.YtdcbajejgphlgaaNdC
import Derived.Test.YtdcbajejgphlgaaNdJ0
import Derived.Test.YtdcbajejgphlgaaNdJ1
import Derived.Test.YtdcbajejgphlgaaNdJ2
namespace Go.Proofs.Ytdcbajejgphlgaa
open Go.RowKit
theorem sNodeOkP (M : DNode) (s : Int) (v : Value) (w : World) (h : VNode w v M) :
    Calls Try.prog 16 #[v, .int .i64 s] w fun e w' => e = .returned (.bool (tB (NodeP M s))) ∧ Below w.heap.size w w' := by
  by_cases hg : NHeadP M s
  · obtain ⟨h1, h2⟩ := hg.2.2.2.2.2.2.1
    by_cases e0 : M.role = 0
    · exact sNode0 M s v w h hg e0
    · by_cases e1 : M.role = 1
      · exact sNode1 M s v w h hg e1
      · exact sNode2 M s v w h hg (by omega)
  · have e : tB (NodeP M s) = false := tB_false (fun hp => hg hp.1)
    rw [e]
    exact sNodeHead M s v w h hg

end Go.Proofs.Ytdcbajejgphlgaa
