
/- What a local may be: plain. -/
import Derived.Test.YtjkhadaoldbceaaLo0
import Derived.Test.YtjkhadaoldbceaaSvL
import Derived.Test.YtjkhadaoldbceaaCk1
import Derived.Test.YtjkhadaoldbceaaCmp4
namespace Go.Proofs.Ytjkhadaoldbceaa
open Go.RowKit

/-- Check number k may be there. -/
def ChkAt (cs : List DChk) (k : Nat) : Prop := ∀ c, cs[k]? = some c → chkB c = true ∧ ∀ p, 0 < k → cs[k - 1]? = some p → ltK p.name c.name = true
def ChksP (cs : List DChk) : Prop := ∀ k, k < cs.length → ChkAt cs k
/-- Service number i may be there. -/
def SvcAt (node : List Int) (ss : List DSvc) (i : Nat) : Prop := ∀ s, ss[i]? = some s → partB s.name = true ∧ keyB (placeL node s.name) = true ∧ s.checks.length ≤ 4 ∧ (∀ p, 0 < i → ss[i - 1]? = some p → ltK p.name s.name = true) ∧ ChksP s.checks
/-- It may be a local. -/
def LocP (L : DLoc) : Prop := partB L.node = true ∧ L.svcs.length ≤ 6 ∧ ∀ i, i < L.svcs.length → SvcAt L.node L.svcs i
theorem svcAt_iff {node : List Int} {ss : List DSvc} {i : Nat} {s : DSvc} (h : ss[i]? = some s) : SvcAt node ss i ↔ partB s.name = true ∧ keyB (placeL node s.name) = true ∧ s.checks.length ≤ 4 ∧ (∀ p, 0 < i → ss[i - 1]? = some p → ltK p.name s.name = true) ∧ ChksP s.checks := by
  constructor
  · intro k; exact k s h
  · intro k s' hs'
    rw [h] at hs'
    cases hs'
    exact k
theorem chkAt_iff {cs : List DChk} {k : Nat} {c : DChk} (h : cs[k]? = some c) : ChkAt cs k ↔ chkB c = true ∧ ∀ p, 0 < k → cs[k - 1]? = some p → ltK p.name c.name = true := by
  constructor
  · intro q; exact q c h
  · intro q s' hs'
    rw [h] at hs'
    cases hs'
    exact q

end Go.Proofs.Ytjkhadaoldbceaa
