
/- The specification's LocalTick. -/
import Derived.Test.YtjkhadaoldbceaaTkF
import Derived.Test.YtjkhadaoldbceaaSl0
import Derived.Test.YtjkhadaoldbceaaLo2
namespace Go.Proofs.Ytjkhadaoldbceaa
open Go.RowKit

def zeroLoc : DLoc := ⟨[], []⟩
def tickLX (ok : Bool) (L : DLoc) (n : Int) : DLoc × Int := if ok && decide (0 ≤ n) then (⟨L.node, L.svcs.map (tickS n)⟩, ((cntL n L.svcs : Nat) : Int)) else (zeroLoc, 0)
theorem ows_nil (S : Nat → Prop) (w : World) : OwS S w (.slice none 0 0) [] := ⟨⟨World.ownsRow_nil _ _ _ _, by simp⟩, fun b h => by cases h⟩
theorem osd_nil (S : Nat → Prop) (w : World) : OSD S w (.slice none 0 0) [] := .inl ⟨none, 0, rfl, ⟨rfl, rfl⟩, rfl⟩
theorem locP_chk {L : DLoc} (h : LocP L) {i : Nat} {s : DSvc} (hs : L.svcs[i]? = some s) : s.checks.length ≤ 4 ∧ ∀ (j : Nat) c, s.checks[j]? = some c → chkB c = true := by
  have h1 := (svcAt_iff hs).1 (h.2.2 i (List.getElem?_eq_some_iff.1 hs).1)
  exact ⟨h1.2.2.1, fun j c hc => ((chkAt_iff hc).1 (h1.2.2.2.2 j (List.getElem?_eq_some_iff.1 hc).1)).1⟩

end Go.Proofs.Ytjkhadaoldbceaa
