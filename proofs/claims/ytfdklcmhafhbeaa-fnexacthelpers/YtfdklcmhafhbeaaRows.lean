/-
  No cell of these rows narrows 'for every input' (looked for: loops, veiled, ifaces, maps, wideKeys, modest, calm, conditions, laid).
  DERIVED. THE GIVEN ROWS OF THIS SEAT. 3 by the template 'for every input the law returns true; each argument reads behind the call as it read before'; 0 by the template 'total and deterministic' (their statements: YtfdklcmhafhbeaaTotals.lean).
  GIVEN WITH THE SEED: the statements are not yours to turn. If you find one false, say at which input.
  Laid BY PROGRAM, IN A SANDBOX (cutbox-rows.mjs): the forced cells as the released guide's own fill.sh prints them over the translation 655b9899d65b7c7a… (all of the seat's roots in one cut). By AI agents, Wed Nov 11 2026. No macro, syntax, notation, axiom, sorry.
-/
import Derived.Test.YtfdklcmhafhbeaaChecked
import GoSem.Claim
import GoSem.ClaimJoined
import GoSem.ClaimMapViews
import Derived.JoinedTies
import Derived.KernelRfl
namespace Go.Proofs.Ytfdklcmhafhbeaa
/- THE CELL 'sum', in the pinned program and in every row, IS THE sha256 OF THE DUMP (.gsa) THAT YtfdklcmhafhbeaaProg.lean LOADS. Nothing in Lean hashes anything: it is a label: what it is worth is what the hold of that sum in a sandbox is worth. -/
noncomputable def Try.pinned : Pinned := { name := "ytfdklcmhafhbeaa", sum := "655b9899d65b7c7a252bc35b9c66f8818a4fc3ec9f758cfbcefa74ff4582be42", checked := Try.checked }
namespace Rows
def none {H : Type} : Left H := { results := [], args := [] }

/-- 'laws.FnExactNextProbe': WHATEVER THE INPUT: true; the input reads as it did. -/
def fnExactNextProbeSpec : ChangeSpec := { name := "fnExactNextProbe", fn := fun _ => fun
  | [d1, d2] => { results := [.lit (.bool true)], args := [d1, d2] }
  | _ => none }
def fnExactNextProbeRow : OpenClaim := { program := "ytfdklcmhafhbeaa", sum := "655b9899d65b7c7a252bc35b9c66f8818a4fc3ec9f758cfbcefa74ff4582be42", func := "loop.example/g00365/laws.FnExactNextProbe", spec := "fnExactNextProbe", unfollowed := true, recurses := true, apart := false }
def FnExactNextProbeSaid : Prop := fnExactNextProbeRow.holds Try.pinned (OpenSpec.ofChange fnExactNextProbeSpec)

/-- ITS FALSE NEIGHBOUR: 'it returns false'. Refute it at one input. -/
def fnExactNextProbeWrong : ChangeSpec := { name := "fnExactNextProbe", fn := fun _ => fun
  | [d1, d2] => { results := [.lit (.bool false)], args := [d1, d2] }
  | _ => none }
def FnExactNextProbeWrongFalsely : Prop := fnExactNextProbeRow.holds Try.pinned (OpenSpec.ofChange fnExactNextProbeWrong)

/-- 'laws.FnExactHelpers': WHATEVER THE INPUT: true; the input reads as it did. -/
def fnExactHelpersSpec : ChangeSpec := { name := "fnExactHelpers", fn := fun _ => fun
  | [d1, d2, d3] => { results := [.lit (.bool true)], args := [d1, d2, d3] }
  | _ => none }
def fnExactHelpersRow : OpenClaim := { program := "ytfdklcmhafhbeaa", sum := "655b9899d65b7c7a252bc35b9c66f8818a4fc3ec9f758cfbcefa74ff4582be42", func := "loop.example/g00365/laws.FnExactHelpers", spec := "fnExactHelpers", unfollowed := true, recurses := true, apart := false }
def FnExactHelpersSaid : Prop := fnExactHelpersRow.holds Try.pinned (OpenSpec.ofChange fnExactHelpersSpec)

/-- ITS FALSE NEIGHBOUR: 'it returns false'. Refute it at one input. -/
def fnExactHelpersWrong : ChangeSpec := { name := "fnExactHelpers", fn := fun _ => fun
  | [d1, d2, d3] => { results := [.lit (.bool false)], args := [d1, d2, d3] }
  | _ => none }
def FnExactHelpersWrongFalsely : Prop := fnExactHelpersRow.holds Try.pinned (OpenSpec.ofChange fnExactHelpersWrong)

/-- 'laws.FnExactProbeTick': WHATEVER THE INPUT: true; the input reads as it did. -/
def fnExactProbeTickSpec : ChangeSpec := { name := "fnExactProbeTick", fn := fun _ => fun
  | [d1, d2] => { results := [.lit (.bool true)], args := [d1, d2] }
  | _ => none }
def fnExactProbeTickRow : OpenClaim := { program := "ytfdklcmhafhbeaa", sum := "655b9899d65b7c7a252bc35b9c66f8818a4fc3ec9f758cfbcefa74ff4582be42", func := "loop.example/g00365/laws.FnExactProbeTick", spec := "fnExactProbeTick", unfollowed := true, recurses := true, apart := false }
def FnExactProbeTickSaid : Prop := fnExactProbeTickRow.holds Try.pinned (OpenSpec.ofChange fnExactProbeTickSpec)

/-- ITS FALSE NEIGHBOUR: 'it returns false'. Refute it at one input. -/
def fnExactProbeTickWrong : ChangeSpec := { name := "fnExactProbeTick", fn := fun _ => fun
  | [d1, d2] => { results := [.lit (.bool false)], args := [d1, d2] }
  | _ => none }
def FnExactProbeTickWrongFalsely : Prop := fnExactProbeTickRow.holds Try.pinned (OpenSpec.ofChange fnExactProbeTickWrong)

/- THE SECOND FORM. 'bulk': how many values and letters a reading holds, each counted each time it is reached (what is shared counts as often as it is met; a slice's spare places count too). A statement '..UptoSaid' is the law's where the arguments, and the package variables that the reading takes, are together of bulk at most 1048576: NARROWER than '..Said'. Prove '..Said' where nothing that the law and all that it calls make is longer than what came in: it says more and counts as full. Else prove '..UptoSaid'. A law counts once. -/
mutual
def uptoBulk {H : Type} : DataW H → Nat
  | .lit (.string bytes) => bytes.length + 1
  | .lit _ => 1
  | .nil => 1
  | .ptr d => uptoBulk d + 1
  | .slice elems spare => uptoBulkAll elems + uptoBulkAll spare + 1
  | .agg parts => uptoBulkAll parts + 1
  | .iface _ d => uptoBulk d + 1
  | .map entries => uptoBulkEntries entries + 1
  | .held _ => 1
def uptoBulkAll {H : Type} : List (DataW H) → Nat
  | [] => 0
  | d :: r => uptoBulk d + uptoBulkAll r
def uptoBulkEntries {H : Type} : List (Lit × DataW H) → Nat
  | [] => 0
  | x :: r => uptoBulkEntry x + uptoBulkEntries r
def uptoBulkEntry {H : Type} : Lit × DataW H → Nat
  | (.string bytes, d) => bytes.length + uptoBulk d + 1
  | (_, d) => uptoBulk d + 1
 end
def uptoSmall : (H : Type) → List (DataW H) → Bool := fun _ ds => decide (uptoBulkAll ds ≤ 1048576)
def OpenSpec.upto (s : _root_.Go.ChangeSpec) : _root_.Go.OpenSpec := { _root_.Go.OpenSpec.ofChange s with cond := some uptoSmall }

/-- 'laws.FnExactNextProbe', WHERE WHAT IT READS IS OF BULK AT MOST 1048576: true; the input reads as it did. -/
def fnExactNextProbeUptoRow : OpenClaim := { program := "ytfdklcmhafhbeaa", sum := "655b9899d65b7c7a252bc35b9c66f8818a4fc3ec9f758cfbcefa74ff4582be42", func := "loop.example/g00365/laws.FnExactNextProbe", spec := "fnExactNextProbe", unfollowed := true, recurses := true, apart := false, narrowed := true }
def FnExactNextProbeUptoSaid : Prop := fnExactNextProbeUptoRow.holds Try.pinned (OpenSpec.upto fnExactNextProbeSpec)

/-- 'laws.FnExactHelpers', WHERE WHAT IT READS IS OF BULK AT MOST 1048576: true; the input reads as it did. -/
def fnExactHelpersUptoRow : OpenClaim := { program := "ytfdklcmhafhbeaa", sum := "655b9899d65b7c7a252bc35b9c66f8818a4fc3ec9f758cfbcefa74ff4582be42", func := "loop.example/g00365/laws.FnExactHelpers", spec := "fnExactHelpers", unfollowed := true, recurses := true, apart := false, narrowed := true }
def FnExactHelpersUptoSaid : Prop := fnExactHelpersUptoRow.holds Try.pinned (OpenSpec.upto fnExactHelpersSpec)

/-- 'laws.FnExactProbeTick', WHERE WHAT IT READS IS OF BULK AT MOST 1048576: true; the input reads as it did. -/
def fnExactProbeTickUptoRow : OpenClaim := { program := "ytfdklcmhafhbeaa", sum := "655b9899d65b7c7a252bc35b9c66f8818a4fc3ec9f758cfbcefa74ff4582be42", func := "loop.example/g00365/laws.FnExactProbeTick", spec := "fnExactProbeTick", unfollowed := true, recurses := true, apart := false, narrowed := true }
def FnExactProbeTickUptoSaid : Prop := fnExactProbeTickUptoRow.holds Try.pinned (OpenSpec.upto fnExactProbeTickSpec)

end Rows
end Go.Proofs.Ytfdklcmhafhbeaa
