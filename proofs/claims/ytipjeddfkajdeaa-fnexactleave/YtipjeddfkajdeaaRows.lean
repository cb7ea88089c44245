/-
  No cell of these rows narrows 'for every input' (looked for: loops, veiled, ifaces, maps, wideKeys, modest, calm, conditions, laid).
  DERIVED. THE GIVEN ROWS OF THIS SEAT. 3 by the template 'for every input the law returns true; each argument reads behind the call as it read before'; 0 by the template 'total and deterministic' (their statements: YtipjeddfkajdeaaTotals.lean).
  GIVEN WITH THE SEED: the statements are not yours to turn. If you find one false, say at which input.
  Laid BY PROGRAM, IN A SANDBOX (cutbox-rows.mjs): the forced cells as the released guide's own fill.sh prints them over the translation 42524b52bbd423c3… (all of the seat's roots in one cut). By AI agents, Wed Nov 11 2026. No macro, syntax, notation, axiom, sorry.
-/
import Derived.Test.YtipjeddfkajdeaaChecked
import GoSem.Claim
import GoSem.ClaimJoined
import GoSem.ClaimMapViews
import Derived.JoinedTies
import Derived.KernelRfl
namespace Go.Proofs.Ytipjeddfkajdeaa
/- THE CELL 'sum', in the pinned program and in every row, IS THE sha256 OF THE DUMP (.gsa) THAT YtipjeddfkajdeaaProg.lean LOADS. Nothing in Lean hashes anything: it is a label: what it is worth is what the hold of that sum in a sandbox is worth. -/
noncomputable def Try.pinned : Pinned := { name := "ytipjeddfkajdeaa", sum := "42524b52bbd423c34e1e9b7eddd51f5d3c26dc8cf4da84b5259751901a7eb006", checked := Try.checked }
namespace Rows
def none {H : Type} : Left H := { results := [], args := [] }

/-- 'laws.FnExactSuspect': WHATEVER THE INPUT: true; the input reads as it did. -/
def fnExactSuspectSpec : ChangeSpec := { name := "fnExactSuspect", fn := fun _ => fun
  | [d1, d2] => { results := [.lit (.bool true)], args := [d1, d2] }
  | _ => none }
def fnExactSuspectRow : OpenClaim := { program := "ytipjeddfkajdeaa", sum := "42524b52bbd423c34e1e9b7eddd51f5d3c26dc8cf4da84b5259751901a7eb006", func := "loop.example/g00365/laws.FnExactSuspect", spec := "fnExactSuspect", unfollowed := true, recurses := true, apart := false }
def FnExactSuspectSaid : Prop := fnExactSuspectRow.holds Try.pinned (OpenSpec.ofChange fnExactSuspectSpec)

/-- ITS FALSE NEIGHBOUR: 'it returns false'. Refute it at one input. -/
def fnExactSuspectWrong : ChangeSpec := { name := "fnExactSuspect", fn := fun _ => fun
  | [d1, d2] => { results := [.lit (.bool false)], args := [d1, d2] }
  | _ => none }
def FnExactSuspectWrongFalsely : Prop := fnExactSuspectRow.holds Try.pinned (OpenSpec.ofChange fnExactSuspectWrong)

/-- 'laws.FnExactBury': WHATEVER THE INPUT: true; the input reads as it did. -/
def fnExactBurySpec : ChangeSpec := { name := "fnExactBury", fn := fun _ => fun
  | [d1, d2] => { results := [.lit (.bool true)], args := [d1, d2] }
  | _ => none }
def fnExactBuryRow : OpenClaim := { program := "ytipjeddfkajdeaa", sum := "42524b52bbd423c34e1e9b7eddd51f5d3c26dc8cf4da84b5259751901a7eb006", func := "loop.example/g00365/laws.FnExactBury", spec := "fnExactBury", unfollowed := true, recurses := true, apart := false }
def FnExactBurySaid : Prop := fnExactBuryRow.holds Try.pinned (OpenSpec.ofChange fnExactBurySpec)

/-- ITS FALSE NEIGHBOUR: 'it returns false'. Refute it at one input. -/
def fnExactBuryWrong : ChangeSpec := { name := "fnExactBury", fn := fun _ => fun
  | [d1, d2] => { results := [.lit (.bool false)], args := [d1, d2] }
  | _ => none }
def FnExactBuryWrongFalsely : Prop := fnExactBuryRow.holds Try.pinned (OpenSpec.ofChange fnExactBuryWrong)

/-- 'laws.FnExactLeave': WHATEVER THE INPUT: true; the input reads as it did. -/
def fnExactLeaveSpec : ChangeSpec := { name := "fnExactLeave", fn := fun _ => fun
  | [d] => { results := [.lit (.bool true)], args := [d] }
  | _ => none }
def fnExactLeaveRow : OpenClaim := { program := "ytipjeddfkajdeaa", sum := "42524b52bbd423c34e1e9b7eddd51f5d3c26dc8cf4da84b5259751901a7eb006", func := "loop.example/g00365/laws.FnExactLeave", spec := "fnExactLeave", unfollowed := true, recurses := true, apart := false }
def FnExactLeaveSaid : Prop := fnExactLeaveRow.holds Try.pinned (OpenSpec.ofChange fnExactLeaveSpec)

/-- ITS FALSE NEIGHBOUR: 'it returns false'. Refute it at one input. -/
def fnExactLeaveWrong : ChangeSpec := { name := "fnExactLeave", fn := fun _ => fun
  | [d] => { results := [.lit (.bool false)], args := [d] }
  | _ => none }
def FnExactLeaveWrongFalsely : Prop := fnExactLeaveRow.holds Try.pinned (OpenSpec.ofChange fnExactLeaveWrong)

/- THE SECOND FORM. 'bulk': how many values and letters a reading holds, each counted each time it is reached (what is shared counts as often as it is met; a slice's spare places count too). A statement '..UptoSaid' is the law's where the arguments, and the package variables that the reading takes, are together of bulk at most 1048576: NARROWER than '..Said'. Prove '..Said' where nothing that the law and all that it calls make is longer than what came in: it says more and counts as full. Else prove '..UptoSaid'. A law counts once. -/
mutual
def uptoBulk {H : Type} : DataW H → Nat
  | .lit (.string bytes) => bytes.length + 1
  | .lit _ => 1
  | .nil => 1
  | .ptr d => uptoBulk d + 1
  | .slice elems spare => uptoBulkAll elems + uptoBulkAll spare + 1
  | .agg parts => uptoBulkAll parts + 1
  | .iface _ d => uptoBulk d + 1
  | .map entries => uptoBulkEntries entries + 1
  | .held _ => 1
def uptoBulkAll {H : Type} : List (DataW H) → Nat
  | [] => 0
  | d :: r => uptoBulk d + uptoBulkAll r
def uptoBulkEntries {H : Type} : List (Lit × DataW H) → Nat
  | [] => 0
  | x :: r => uptoBulkEntry x + uptoBulkEntries r
def uptoBulkEntry {H : Type} : Lit × DataW H → Nat
  | (.string bytes, d) => bytes.length + uptoBulk d + 1
  | (_, d) => uptoBulk d + 1
 end
def uptoSmall : (H : Type) → List (DataW H) → Bool := fun _ ds => decide (uptoBulkAll ds ≤ 1048576)
def OpenSpec.upto (s : _root_.Go.ChangeSpec) : _root_.Go.OpenSpec := { _root_.Go.OpenSpec.ofChange s with cond := some uptoSmall }

/-- 'laws.FnExactSuspect', WHERE WHAT IT READS IS OF BULK AT MOST 1048576: true; the input reads as it did. -/
def fnExactSuspectUptoRow : OpenClaim := { program := "ytipjeddfkajdeaa", sum := "42524b52bbd423c34e1e9b7eddd51f5d3c26dc8cf4da84b5259751901a7eb006", func := "loop.example/g00365/laws.FnExactSuspect", spec := "fnExactSuspect", unfollowed := true, recurses := true, apart := false, narrowed := true }
def FnExactSuspectUptoSaid : Prop := fnExactSuspectUptoRow.holds Try.pinned (OpenSpec.upto fnExactSuspectSpec)

/-- 'laws.FnExactBury', WHERE WHAT IT READS IS OF BULK AT MOST 1048576: true; the input reads as it did. -/
def fnExactBuryUptoRow : OpenClaim := { program := "ytipjeddfkajdeaa", sum := "42524b52bbd423c34e1e9b7eddd51f5d3c26dc8cf4da84b5259751901a7eb006", func := "loop.example/g00365/laws.FnExactBury", spec := "fnExactBury", unfollowed := true, recurses := true, apart := false, narrowed := true }
def FnExactBuryUptoSaid : Prop := fnExactBuryUptoRow.holds Try.pinned (OpenSpec.upto fnExactBurySpec)

/-- 'laws.FnExactLeave', WHERE WHAT IT READS IS OF BULK AT MOST 1048576: true; the input reads as it did. -/
def fnExactLeaveUptoRow : OpenClaim := { program := "ytipjeddfkajdeaa", sum := "42524b52bbd423c34e1e9b7eddd51f5d3c26dc8cf4da84b5259751901a7eb006", func := "loop.example/g00365/laws.FnExactLeave", spec := "fnExactLeave", unfollowed := true, recurses := true, apart := false, narrowed := true }
def FnExactLeaveUptoSaid : Prop := fnExactLeaveUptoRow.holds Try.pinned (OpenSpec.upto fnExactLeaveSpec)

end Rows
end Go.Proofs.Ytipjeddfkajdeaa
