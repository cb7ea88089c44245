/-
  No cell of these rows narrows 'for every input' (looked for: loops, veiled, ifaces, maps, wideKeys, modest, calm, conditions, laid).
  DERIVED. THE GIVEN ROWS OF THIS SEAT. 3 by the template 'for every input the law returns true; each argument reads behind the call as it read before'; 0 by the template 'total and deterministic' (their statements: YtgafnajnndbofaaTotals.lean).
  GIVEN WITH THE SEED: the statements are not yours to turn. If you find one false, say at which input.
  Laid BY PROGRAM, IN A SANDBOX (cutbox-rows.mjs): the forced cells as the released guide's own fill.sh prints them over the translation b9074cd484607003… (all of the seat's roots in one cut). By AI agents, Wed Nov 11 2026. No macro, syntax, notation, axiom, sorry.
-/
import Derived.Test.YtgafnajnndbofaaChecked
import GoSem.Claim
import GoSem.ClaimJoined
import GoSem.ClaimMapViews
import Derived.JoinedTies
import Derived.KernelRfl
namespace Go.Proofs.Ytgafnajnndbofaa
/- THE CELL 'sum', in the pinned program and in every row, IS THE sha256 OF THE DUMP (.gsa) THAT YtgafnajnndbofaaProg.lean LOADS. Nothing in Lean hashes anything: it is a label: what it is worth is what the hold of that sum in a sandbox is worth. -/
noncomputable def Try.pinned : Pinned := { name := "ytgafnajnndbofaa", sum := "b9074cd484607003fbbd90b99fa22c8b354e4e17c80232a3f952de029a4294fb", checked := Try.checked }
namespace Rows
def none {H : Type} : Left H := { results := [], args := [] }

/-- 'laws.FnExactDutyOk': WHATEVER THE INPUT: true; the input reads as it did. -/
def fnExactDutyOkSpec : ChangeSpec := { name := "fnExactDutyOk", fn := fun _ => fun
  | [d] => { results := [.lit (.bool true)], args := [d] }
  | _ => none }
def fnExactDutyOkRow : OpenClaim := { program := "ytgafnajnndbofaa", sum := "b9074cd484607003fbbd90b99fa22c8b354e4e17c80232a3f952de029a4294fb", func := "loop.example/g00365/laws.FnExactDutyOk", spec := "fnExactDutyOk", apart := false }
def FnExactDutyOkSaid : Prop := fnExactDutyOkRow.holds Try.pinned (OpenSpec.ofChange fnExactDutyOkSpec)

/-- ITS FALSE NEIGHBOUR: 'it returns false'. Refute it at one input. -/
def fnExactDutyOkWrong : ChangeSpec := { name := "fnExactDutyOk", fn := fun _ => fun
  | [d] => { results := [.lit (.bool false)], args := [d] }
  | _ => none }
def FnExactDutyOkWrongFalsely : Prop := fnExactDutyOkRow.holds Try.pinned (OpenSpec.ofChange fnExactDutyOkWrong)

/-- 'laws.FnExactDutyNew': WHATEVER THE INPUT: true; the input reads as it did. -/
def fnExactDutyNewSpec : ChangeSpec := { name := "fnExactDutyNew", fn := fun _ => fun
  | [d] => { results := [.lit (.bool true)], args := [d] }
  | _ => none }
def fnExactDutyNewRow : OpenClaim := { program := "ytgafnajnndbofaa", sum := "b9074cd484607003fbbd90b99fa22c8b354e4e17c80232a3f952de029a4294fb", func := "loop.example/g00365/laws.FnExactDutyNew", spec := "fnExactDutyNew", apart := false }
def FnExactDutyNewSaid : Prop := fnExactDutyNewRow.holds Try.pinned (OpenSpec.ofChange fnExactDutyNewSpec)

/-- ITS FALSE NEIGHBOUR: 'it returns false'. Refute it at one input. -/
def fnExactDutyNewWrong : ChangeSpec := { name := "fnExactDutyNew", fn := fun _ => fun
  | [d] => { results := [.lit (.bool false)], args := [d] }
  | _ => none }
def FnExactDutyNewWrongFalsely : Prop := fnExactDutyNewRow.holds Try.pinned (OpenSpec.ofChange fnExactDutyNewWrong)

/-- 'laws.FnExactDutyRenew': WHATEVER THE INPUT: true; the input reads as it did. -/
def fnExactDutyRenewSpec : ChangeSpec := { name := "fnExactDutyRenew", fn := fun _ => fun
  | [d1, d2] => { results := [.lit (.bool true)], args := [d1, d2] }
  | _ => none }
def fnExactDutyRenewRow : OpenClaim := { program := "ytgafnajnndbofaa", sum := "b9074cd484607003fbbd90b99fa22c8b354e4e17c80232a3f952de029a4294fb", func := "loop.example/g00365/laws.FnExactDutyRenew", spec := "fnExactDutyRenew", unfollowed := true, recurses := true, apart := false }
def FnExactDutyRenewSaid : Prop := fnExactDutyRenewRow.holds Try.pinned (OpenSpec.ofChange fnExactDutyRenewSpec)

/-- ITS FALSE NEIGHBOUR: 'it returns false'. Refute it at one input. -/
def fnExactDutyRenewWrong : ChangeSpec := { name := "fnExactDutyRenew", fn := fun _ => fun
  | [d1, d2] => { results := [.lit (.bool false)], args := [d1, d2] }
  | _ => none }
def FnExactDutyRenewWrongFalsely : Prop := fnExactDutyRenewRow.holds Try.pinned (OpenSpec.ofChange fnExactDutyRenewWrong)

/- THE SECOND FORM. 'bulk': how many values and letters a reading holds, each counted each time it is reached (what is shared counts as often as it is met; a slice's spare places count too). A statement '..UptoSaid' is the law's where the arguments, and the package variables that the reading takes, are together of bulk at most 1048576: NARROWER than '..Said'. Prove '..Said' where nothing that the law and all that it calls make is longer than what came in: it says more and counts as full. Else prove '..UptoSaid'. A law counts once. -/
mutual
def uptoBulk {H : Type} : DataW H → Nat
  | .lit (.string bytes) => bytes.length + 1
  | .lit _ => 1
  | .nil => 1
  | .ptr d => uptoBulk d + 1
  | .slice elems spare => uptoBulkAll elems + uptoBulkAll spare + 1
  | .agg parts => uptoBulkAll parts + 1
  | .iface _ d => uptoBulk d + 1
  | .map entries => uptoBulkEntries entries + 1
  | .held _ => 1
def uptoBulkAll {H : Type} : List (DataW H) → Nat
  | [] => 0
  | d :: r => uptoBulk d + uptoBulkAll r
def uptoBulkEntries {H : Type} : List (Lit × DataW H) → Nat
  | [] => 0
  | x :: r => uptoBulkEntry x + uptoBulkEntries r
def uptoBulkEntry {H : Type} : Lit × DataW H → Nat
  | (.string bytes, d) => bytes.length + uptoBulk d + 1
  | (_, d) => uptoBulk d + 1
 end
def uptoSmall : (H : Type) → List (DataW H) → Bool := fun _ ds => decide (uptoBulkAll ds ≤ 1048576)
def OpenSpec.upto (s : _root_.Go.ChangeSpec) : _root_.Go.OpenSpec := { _root_.Go.OpenSpec.ofChange s with cond := some uptoSmall }

/-- 'laws.FnExactDutyOk', WHERE WHAT IT READS IS OF BULK AT MOST 1048576: true; the input reads as it did. -/
def fnExactDutyOkUptoRow : OpenClaim := { program := "ytgafnajnndbofaa", sum := "b9074cd484607003fbbd90b99fa22c8b354e4e17c80232a3f952de029a4294fb", func := "loop.example/g00365/laws.FnExactDutyOk", spec := "fnExactDutyOk", apart := false, narrowed := true }
def FnExactDutyOkUptoSaid : Prop := fnExactDutyOkUptoRow.holds Try.pinned (OpenSpec.upto fnExactDutyOkSpec)

/-- 'laws.FnExactDutyNew', WHERE WHAT IT READS IS OF BULK AT MOST 1048576: true; the input reads as it did. -/
def fnExactDutyNewUptoRow : OpenClaim := { program := "ytgafnajnndbofaa", sum := "b9074cd484607003fbbd90b99fa22c8b354e4e17c80232a3f952de029a4294fb", func := "loop.example/g00365/laws.FnExactDutyNew", spec := "fnExactDutyNew", apart := false, narrowed := true }
def FnExactDutyNewUptoSaid : Prop := fnExactDutyNewUptoRow.holds Try.pinned (OpenSpec.upto fnExactDutyNewSpec)

/-- 'laws.FnExactDutyRenew', WHERE WHAT IT READS IS OF BULK AT MOST 1048576: true; the input reads as it did. -/
def fnExactDutyRenewUptoRow : OpenClaim := { program := "ytgafnajnndbofaa", sum := "b9074cd484607003fbbd90b99fa22c8b354e4e17c80232a3f952de029a4294fb", func := "loop.example/g00365/laws.FnExactDutyRenew", spec := "fnExactDutyRenew", unfollowed := true, recurses := true, apart := false, narrowed := true }
def FnExactDutyRenewUptoSaid : Prop := fnExactDutyRenewUptoRow.holds Try.pinned (OpenSpec.upto fnExactDutyRenewSpec)

end Rows
end Go.Proofs.Ytgafnajnndbofaa
