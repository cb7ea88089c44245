/-
  NARROWER THAN 'FOR EVERY INPUT', by the rows' own cells (each row's printed sentence says how): FnExactTreeSize: loops · FnExactTreeKeys: loops · FnExactTreeLongest: loops · FnExactTreeNext: loops.
  DERIVED. THE GIVEN ROWS OF THIS SEAT. 4 by the template 'for every input the law returns true; each argument reads behind the call as it read before'; 0 by the template 'total and deterministic' (their statements: YtdeogmkcomdbjaaTotals.lean).
  GIVEN WITH THE SEED: the statements are not yours to turn. If you find one false, say at which input.
  Laid BY PROGRAM, IN A SANDBOX (cutbox-rows.mjs): the forced cells as the released guide's own fill.sh prints them over the translation 38bf6d5d4b48e207… (all of the seat's roots in one cut). By AI agents, Wed Nov 11 2026. No macro, syntax, notation, axiom, sorry.
-/
import Derived.Test.YtdeogmkcomdbjaaChecked
import GoSem.Claim
import GoSem.ClaimJoined
import GoSem.ClaimMapViews
import Derived.JoinedTies
import Derived.KernelRfl
namespace Go.Proofs.Ytdeogmkcomdbjaa
/- THE CELL 'sum', in the pinned program and in every row, IS THE sha256 OF THE DUMP (.gsa) THAT YtdeogmkcomdbjaaProg.lean LOADS. Nothing in Lean hashes anything: it is a label: what it is worth is what the hold of that sum in a sandbox is worth. -/
noncomputable def Try.pinned : Pinned := { name := "ytdeogmkcomdbjaa", sum := "38bf6d5d4b48e207c219c2509450d9e6de599237370cd6c0d8bd3365663f6256", checked := Try.checked }
namespace Rows
def none {H : Type} : Left H := { results := [], args := [] }

/-- 'laws.FnExactTreeSize': WHATEVER THE INPUT: true; the input reads as it did. -/
def fnExactTreeSizeSpec : ChangeSpec := { name := "fnExactTreeSize", fn := fun _ => fun
  | [d] => { results := [.lit (.bool true)], args := [d] }
  | _ => none }
def fnExactTreeSizeRow : OpenClaim := { program := "ytdeogmkcomdbjaa", sum := "38bf6d5d4b48e207c219c2509450d9e6de599237370cd6c0d8bd3365663f6256", func := "loop.example/g00365/laws.FnExactTreeSize", spec := "fnExactTreeSize", unfollowed := true, recurses := true, loops := true, apart := false }
def FnExactTreeSizeSaid : Prop := fnExactTreeSizeRow.holds Try.pinned (OpenSpec.ofChange fnExactTreeSizeSpec)

/-- ITS FALSE NEIGHBOUR: 'it returns false'. Refute it at one input. -/
def fnExactTreeSizeWrong : ChangeSpec := { name := "fnExactTreeSize", fn := fun _ => fun
  | [d] => { results := [.lit (.bool false)], args := [d] }
  | _ => none }
def FnExactTreeSizeWrongFalsely : Prop := fnExactTreeSizeRow.holds Try.pinned (OpenSpec.ofChange fnExactTreeSizeWrong)

/-- 'laws.FnExactTreeKeys': WHATEVER THE INPUT: true; the input reads as it did. -/
def fnExactTreeKeysSpec : ChangeSpec := { name := "fnExactTreeKeys", fn := fun _ => fun
  | [d1, d2] => { results := [.lit (.bool true)], args := [d1, d2] }
  | _ => none }
def fnExactTreeKeysRow : OpenClaim := { program := "ytdeogmkcomdbjaa", sum := "38bf6d5d4b48e207c219c2509450d9e6de599237370cd6c0d8bd3365663f6256", func := "loop.example/g00365/laws.FnExactTreeKeys", spec := "fnExactTreeKeys", inPlace := ["internal/bytealg.Compare"], unfollowed := true, recurses := true, loops := true, apart := false }
def FnExactTreeKeysSaid : Prop := fnExactTreeKeysRow.holds Try.pinned (OpenSpec.ofChange fnExactTreeKeysSpec)

/-- ITS FALSE NEIGHBOUR: 'it returns false'. Refute it at one input. -/
def fnExactTreeKeysWrong : ChangeSpec := { name := "fnExactTreeKeys", fn := fun _ => fun
  | [d1, d2] => { results := [.lit (.bool false)], args := [d1, d2] }
  | _ => none }
def FnExactTreeKeysWrongFalsely : Prop := fnExactTreeKeysRow.holds Try.pinned (OpenSpec.ofChange fnExactTreeKeysWrong)

/-- 'laws.FnExactTreeLongest': WHATEVER THE INPUT: true; the input reads as it did. -/
def fnExactTreeLongestSpec : ChangeSpec := { name := "fnExactTreeLongest", fn := fun _ => fun
  | [d1, d2] => { results := [.lit (.bool true)], args := [d1, d2] }
  | _ => none }
def fnExactTreeLongestRow : OpenClaim := { program := "ytdeogmkcomdbjaa", sum := "38bf6d5d4b48e207c219c2509450d9e6de599237370cd6c0d8bd3365663f6256", func := "loop.example/g00365/laws.FnExactTreeLongest", spec := "fnExactTreeLongest", inPlace := ["internal/bytealg.Compare"], unfollowed := true, recurses := true, loops := true, apart := false }
def FnExactTreeLongestSaid : Prop := fnExactTreeLongestRow.holds Try.pinned (OpenSpec.ofChange fnExactTreeLongestSpec)

/-- ITS FALSE NEIGHBOUR: 'it returns false'. Refute it at one input. -/
def fnExactTreeLongestWrong : ChangeSpec := { name := "fnExactTreeLongest", fn := fun _ => fun
  | [d1, d2] => { results := [.lit (.bool false)], args := [d1, d2] }
  | _ => none }
def FnExactTreeLongestWrongFalsely : Prop := fnExactTreeLongestRow.holds Try.pinned (OpenSpec.ofChange fnExactTreeLongestWrong)

/-- 'laws.FnExactTreeNext': WHATEVER THE INPUT: true; the input reads as it did. -/
def fnExactTreeNextSpec : ChangeSpec := { name := "fnExactTreeNext", fn := fun _ => fun
  | [d1, d2] => { results := [.lit (.bool true)], args := [d1, d2] }
  | _ => none }
def fnExactTreeNextRow : OpenClaim := { program := "ytdeogmkcomdbjaa", sum := "38bf6d5d4b48e207c219c2509450d9e6de599237370cd6c0d8bd3365663f6256", func := "loop.example/g00365/laws.FnExactTreeNext", spec := "fnExactTreeNext", inPlace := ["internal/bytealg.Compare"], unfollowed := true, recurses := true, loops := true, apart := false }
def FnExactTreeNextSaid : Prop := fnExactTreeNextRow.holds Try.pinned (OpenSpec.ofChange fnExactTreeNextSpec)

/-- ITS FALSE NEIGHBOUR: 'it returns false'. Refute it at one input. -/
def fnExactTreeNextWrong : ChangeSpec := { name := "fnExactTreeNext", fn := fun _ => fun
  | [d1, d2] => { results := [.lit (.bool false)], args := [d1, d2] }
  | _ => none }
def FnExactTreeNextWrongFalsely : Prop := fnExactTreeNextRow.holds Try.pinned (OpenSpec.ofChange fnExactTreeNextWrong)

/- THE SECOND FORM. 'bulk': how many values and letters a reading holds, each counted each time it is reached (what is shared counts as often as it is met; a slice's spare places count too). A statement '..UptoSaid' is the law's where the arguments, and the package variables that the reading takes, are together of bulk at most 1048576: NARROWER than '..Said'. Prove '..Said' where nothing that the law and all that it calls make is longer than what came in: it says more and counts as full. Else prove '..UptoSaid'. A law counts once. -/
mutual
def uptoBulk {H : Type} : DataW H → Nat
  | .lit (.string bytes) => bytes.length + 1
  | .lit _ => 1
  | .nil => 1
  | .ptr d => uptoBulk d + 1
  | .slice elems spare => uptoBulkAll elems + uptoBulkAll spare + 1
  | .agg parts => uptoBulkAll parts + 1
  | .iface _ d => uptoBulk d + 1
  | .map entries => uptoBulkEntries entries + 1
  | .held _ => 1
def uptoBulkAll {H : Type} : List (DataW H) → Nat
  | [] => 0
  | d :: r => uptoBulk d + uptoBulkAll r
def uptoBulkEntries {H : Type} : List (Lit × DataW H) → Nat
  | [] => 0
  | x :: r => uptoBulkEntry x + uptoBulkEntries r
def uptoBulkEntry {H : Type} : Lit × DataW H → Nat
  | (.string bytes, d) => bytes.length + uptoBulk d + 1
  | (_, d) => uptoBulk d + 1
 end
def uptoSmall : (H : Type) → List (DataW H) → Bool := fun _ ds => decide (uptoBulkAll ds ≤ 1048576)
def OpenSpec.upto (s : _root_.Go.ChangeSpec) : _root_.Go.OpenSpec := { _root_.Go.OpenSpec.ofChange s with cond := some uptoSmall }

/-- 'laws.FnExactTreeSize', WHERE WHAT IT READS IS OF BULK AT MOST 1048576: true; the input reads as it did. -/
def fnExactTreeSizeUptoRow : OpenClaim := { program := "ytdeogmkcomdbjaa", sum := "38bf6d5d4b48e207c219c2509450d9e6de599237370cd6c0d8bd3365663f6256", func := "loop.example/g00365/laws.FnExactTreeSize", spec := "fnExactTreeSize", unfollowed := true, recurses := true, loops := true, apart := false, narrowed := true }
def FnExactTreeSizeUptoSaid : Prop := fnExactTreeSizeUptoRow.holds Try.pinned (OpenSpec.upto fnExactTreeSizeSpec)

/-- 'laws.FnExactTreeKeys', WHERE WHAT IT READS IS OF BULK AT MOST 1048576: true; the input reads as it did. -/
def fnExactTreeKeysUptoRow : OpenClaim := { program := "ytdeogmkcomdbjaa", sum := "38bf6d5d4b48e207c219c2509450d9e6de599237370cd6c0d8bd3365663f6256", func := "loop.example/g00365/laws.FnExactTreeKeys", spec := "fnExactTreeKeys", inPlace := ["internal/bytealg.Compare"], unfollowed := true, recurses := true, loops := true, apart := false, narrowed := true }
def FnExactTreeKeysUptoSaid : Prop := fnExactTreeKeysUptoRow.holds Try.pinned (OpenSpec.upto fnExactTreeKeysSpec)

/-- 'laws.FnExactTreeLongest', WHERE WHAT IT READS IS OF BULK AT MOST 1048576: true; the input reads as it did. -/
def fnExactTreeLongestUptoRow : OpenClaim := { program := "ytdeogmkcomdbjaa", sum := "38bf6d5d4b48e207c219c2509450d9e6de599237370cd6c0d8bd3365663f6256", func := "loop.example/g00365/laws.FnExactTreeLongest", spec := "fnExactTreeLongest", inPlace := ["internal/bytealg.Compare"], unfollowed := true, recurses := true, loops := true, apart := false, narrowed := true }
def FnExactTreeLongestUptoSaid : Prop := fnExactTreeLongestUptoRow.holds Try.pinned (OpenSpec.upto fnExactTreeLongestSpec)

/-- 'laws.FnExactTreeNext', WHERE WHAT IT READS IS OF BULK AT MOST 1048576: true; the input reads as it did. -/
def fnExactTreeNextUptoRow : OpenClaim := { program := "ytdeogmkcomdbjaa", sum := "38bf6d5d4b48e207c219c2509450d9e6de599237370cd6c0d8bd3365663f6256", func := "loop.example/g00365/laws.FnExactTreeNext", spec := "fnExactTreeNext", inPlace := ["internal/bytealg.Compare"], unfollowed := true, recurses := true, loops := true, apart := false, narrowed := true }
def FnExactTreeNextUptoSaid : Prop := fnExactTreeNextUptoRow.holds Try.pinned (OpenSpec.upto fnExactTreeNextSpec)

end Rows
end Go.Proofs.Ytdeogmkcomdbjaa
