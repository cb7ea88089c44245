/-
  No cell of these rows narrows 'for every input' (looked for: loops, veiled, ifaces, maps, wideKeys, modest, calm, conditions, laid).
  DERIVED. THE GIVEN ROWS OF THIS SEAT. 3 by the template 'for every input the law returns true; each argument reads behind the call as it read before'; 0 by the template 'total and deterministic' (their statements: YtiinknnnpcikgaaTotals.lean).
  GIVEN WITH THE SEED: the statements are not yours to turn. If you find one false, say at which input.
  Laid BY PROGRAM, IN A SANDBOX (cutbox-rows.mjs): the forced cells as the released guide's own fill.sh prints them over the translation b176fb9c936afabe… (all of the seat's roots in one cut). By AI agents, Wed Nov 11 2026. No macro, syntax, notation, axiom, sorry.
-/
import Derived.Test.YtiinknnnpcikgaaChecked
import GoSem.Claim
import GoSem.ClaimJoined
import GoSem.ClaimMapViews
import Derived.JoinedTies
import Derived.KernelRfl
namespace Go.Proofs.Ytiinknnnpcikgaa
/- THE CELL 'sum', in the pinned program and in every row, IS THE sha256 OF THE DUMP (.gsa) THAT YtiinknnnpcikgaaProg.lean LOADS. Nothing in Lean hashes anything: it is a label: what it is worth is what the hold of that sum in a sandbox is worth. -/
noncomputable def Try.pinned : Pinned := { name := "ytiinknnnpcikgaa", sum := "b176fb9c936afabeac9ee4193043f56207edf4999c288353f1b0c7c435b16ce5", checked := Try.checked }
namespace Rows
def none {H : Type} : Left H := { results := [], args := [] }

/-- 'laws.FnExactWheelSet': WHATEVER THE INPUT: true; the input reads as it did. -/
def fnExactWheelSetSpec : ChangeSpec := { name := "fnExactWheelSet", fn := fun _ => fun
  | [d1, d2, d3] => { results := [.lit (.bool true)], args := [d1, d2, d3] }
  | _ => none }
def fnExactWheelSetRow : OpenClaim := { program := "ytiinknnnpcikgaa", sum := "b176fb9c936afabeac9ee4193043f56207edf4999c288353f1b0c7c435b16ce5", func := "loop.example/g00365/laws.FnExactWheelSet", spec := "fnExactWheelSet", unfollowed := true, recurses := true, apart := false }
def FnExactWheelSetSaid : Prop := fnExactWheelSetRow.holds Try.pinned (OpenSpec.ofChange fnExactWheelSetSpec)

/-- ITS FALSE NEIGHBOUR: 'it returns false'. Refute it at one input. -/
def fnExactWheelSetWrong : ChangeSpec := { name := "fnExactWheelSet", fn := fun _ => fun
  | [d1, d2, d3] => { results := [.lit (.bool false)], args := [d1, d2, d3] }
  | _ => none }
def FnExactWheelSetWrongFalsely : Prop := fnExactWheelSetRow.holds Try.pinned (OpenSpec.ofChange fnExactWheelSetWrong)

/-- 'laws.FnExactWheelStop': WHATEVER THE INPUT: true; the input reads as it did. -/
def fnExactWheelStopSpec : ChangeSpec := { name := "fnExactWheelStop", fn := fun _ => fun
  | [d1, d2] => { results := [.lit (.bool true)], args := [d1, d2] }
  | _ => none }
def fnExactWheelStopRow : OpenClaim := { program := "ytiinknnnpcikgaa", sum := "b176fb9c936afabeac9ee4193043f56207edf4999c288353f1b0c7c435b16ce5", func := "loop.example/g00365/laws.FnExactWheelStop", spec := "fnExactWheelStop", unfollowed := true, recurses := true, apart := false }
def FnExactWheelStopSaid : Prop := fnExactWheelStopRow.holds Try.pinned (OpenSpec.ofChange fnExactWheelStopSpec)

/-- ITS FALSE NEIGHBOUR: 'it returns false'. Refute it at one input. -/
def fnExactWheelStopWrong : ChangeSpec := { name := "fnExactWheelStop", fn := fun _ => fun
  | [d1, d2] => { results := [.lit (.bool false)], args := [d1, d2] }
  | _ => none }
def FnExactWheelStopWrongFalsely : Prop := fnExactWheelStopRow.holds Try.pinned (OpenSpec.ofChange fnExactWheelStopWrong)

/-- 'laws.FnExactWheelTick': WHATEVER THE INPUT: true; the input reads as it did. -/
def fnExactWheelTickSpec : ChangeSpec := { name := "fnExactWheelTick", fn := fun _ => fun
  | [d1, d2] => { results := [.lit (.bool true)], args := [d1, d2] }
  | _ => none }
def fnExactWheelTickRow : OpenClaim := { program := "ytiinknnnpcikgaa", sum := "b176fb9c936afabeac9ee4193043f56207edf4999c288353f1b0c7c435b16ce5", func := "loop.example/g00365/laws.FnExactWheelTick", spec := "fnExactWheelTick", unfollowed := true, recurses := true, apart := false }
def FnExactWheelTickSaid : Prop := fnExactWheelTickRow.holds Try.pinned (OpenSpec.ofChange fnExactWheelTickSpec)

/-- ITS FALSE NEIGHBOUR: 'it returns false'. Refute it at one input. -/
def fnExactWheelTickWrong : ChangeSpec := { name := "fnExactWheelTick", fn := fun _ => fun
  | [d1, d2] => { results := [.lit (.bool false)], args := [d1, d2] }
  | _ => none }
def FnExactWheelTickWrongFalsely : Prop := fnExactWheelTickRow.holds Try.pinned (OpenSpec.ofChange fnExactWheelTickWrong)

/- THE SECOND FORM. 'bulk': how many values and letters a reading holds, each counted each time it is reached (what is shared counts as often as it is met; a slice's spare places count too). A statement '..UptoSaid' is the law's where the arguments, and the package variables that the reading takes, are together of bulk at most 1048576: NARROWER than '..Said'. Prove '..Said' where nothing that the law and all that it calls make is longer than what came in: it says more and counts as full. Else prove '..UptoSaid'. A law counts once. -/
mutual
def uptoBulk {H : Type} : DataW H → Nat
  | .lit (.string bytes) => bytes.length + 1
  | .lit _ => 1
  | .nil => 1
  | .ptr d => uptoBulk d + 1
  | .slice elems spare => uptoBulkAll elems + uptoBulkAll spare + 1
  | .agg parts => uptoBulkAll parts + 1
  | .iface _ d => uptoBulk d + 1
  | .map entries => uptoBulkEntries entries + 1
  | .held _ => 1
def uptoBulkAll {H : Type} : List (DataW H) → Nat
  | [] => 0
  | d :: r => uptoBulk d + uptoBulkAll r
def uptoBulkEntries {H : Type} : List (Lit × DataW H) → Nat
  | [] => 0
  | x :: r => uptoBulkEntry x + uptoBulkEntries r
def uptoBulkEntry {H : Type} : Lit × DataW H → Nat
  | (.string bytes, d) => bytes.length + uptoBulk d + 1
  | (_, d) => uptoBulk d + 1
 end
def uptoSmall : (H : Type) → List (DataW H) → Bool := fun _ ds => decide (uptoBulkAll ds ≤ 1048576)
def OpenSpec.upto (s : _root_.Go.ChangeSpec) : _root_.Go.OpenSpec := { _root_.Go.OpenSpec.ofChange s with cond := some uptoSmall }

/-- 'laws.FnExactWheelSet', WHERE WHAT IT READS IS OF BULK AT MOST 1048576: true; the input reads as it did. -/
def fnExactWheelSetUptoRow : OpenClaim := { program := "ytiinknnnpcikgaa", sum := "b176fb9c936afabeac9ee4193043f56207edf4999c288353f1b0c7c435b16ce5", func := "loop.example/g00365/laws.FnExactWheelSet", spec := "fnExactWheelSet", unfollowed := true, recurses := true, apart := false, narrowed := true }
def FnExactWheelSetUptoSaid : Prop := fnExactWheelSetUptoRow.holds Try.pinned (OpenSpec.upto fnExactWheelSetSpec)

/-- 'laws.FnExactWheelStop', WHERE WHAT IT READS IS OF BULK AT MOST 1048576: true; the input reads as it did. -/
def fnExactWheelStopUptoRow : OpenClaim := { program := "ytiinknnnpcikgaa", sum := "b176fb9c936afabeac9ee4193043f56207edf4999c288353f1b0c7c435b16ce5", func := "loop.example/g00365/laws.FnExactWheelStop", spec := "fnExactWheelStop", unfollowed := true, recurses := true, apart := false, narrowed := true }
def FnExactWheelStopUptoSaid : Prop := fnExactWheelStopUptoRow.holds Try.pinned (OpenSpec.upto fnExactWheelStopSpec)

/-- 'laws.FnExactWheelTick', WHERE WHAT IT READS IS OF BULK AT MOST 1048576: true; the input reads as it did. -/
def fnExactWheelTickUptoRow : OpenClaim := { program := "ytiinknnnpcikgaa", sum := "b176fb9c936afabeac9ee4193043f56207edf4999c288353f1b0c7c435b16ce5", func := "loop.example/g00365/laws.FnExactWheelTick", spec := "fnExactWheelTick", unfollowed := true, recurses := true, apart := false, narrowed := true }
def FnExactWheelTickUptoSaid : Prop := fnExactWheelTickUptoRow.holds Try.pinned (OpenSpec.upto fnExactWheelTickSpec)

end Rows
end Go.Proofs.Ytiinknnnpcikgaa
