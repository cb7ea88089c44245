/-
  No cell of these rows narrows 'for every input' (looked for: loops, veiled, ifaces, maps, wideKeys, modest, calm, conditions, laid).
  DERIVED. THE GIVEN ROWS OF THIS SEAT. 3 by the template 'for every input the law returns true; each argument reads behind the call as it read before'; 0 by the template 'total and deterministic' (their statements: YtogjfoeohbmdfaaTotals.lean).
  GIVEN WITH THE SEED: the statements are not yours to turn. If you find one false, say at which input.
  Laid BY PROGRAM, IN A SANDBOX (cutbox-rows.mjs): the forced cells as the released guide's own fill.sh prints them over the translation a774b0d848f6aa3b… (all of the seat's roots in one cut). By AI agents, Wed Nov 11 2026. No macro, syntax, notation, axiom, sorry.
-/
import Derived.Test.YtogjfoeohbmdfaaChecked
import GoSem.Claim
import GoSem.ClaimJoined
import GoSem.ClaimMapViews
import Derived.JoinedTies
import Derived.KernelRfl
namespace Go.Proofs.Ytogjfoeohbmdfaa
/- THE CELL 'sum', in the pinned program and in every row, IS THE sha256 OF THE DUMP (.gsa) THAT YtogjfoeohbmdfaaProg.lean LOADS. Nothing in Lean hashes anything: it is a label: what it is worth is what the hold of that sum in a sandbox is worth. -/
noncomputable def Try.pinned : Pinned := { name := "ytogjfoeohbmdfaa", sum := "a774b0d848f6aa3b0c1394e54333820c19a234c2935725f9208d37d1787bc2a0", checked := Try.checked }
namespace Rows
def none {H : Type} : Left H := { results := [], args := [] }

/-- 'laws.FnExactWheelOk': WHATEVER THE INPUT: true; the input reads as it did. -/
def fnExactWheelOkSpec : ChangeSpec := { name := "fnExactWheelOk", fn := fun _ => fun
  | [d] => { results := [.lit (.bool true)], args := [d] }
  | _ => none }
def fnExactWheelOkRow : OpenClaim := { program := "ytogjfoeohbmdfaa", sum := "a774b0d848f6aa3b0c1394e54333820c19a234c2935725f9208d37d1787bc2a0", func := "loop.example/g00365/laws.FnExactWheelOk", spec := "fnExactWheelOk", apart := false }
def FnExactWheelOkSaid : Prop := fnExactWheelOkRow.holds Try.pinned (OpenSpec.ofChange fnExactWheelOkSpec)

/-- ITS FALSE NEIGHBOUR: 'it returns false'. Refute it at one input. -/
def fnExactWheelOkWrong : ChangeSpec := { name := "fnExactWheelOk", fn := fun _ => fun
  | [d] => { results := [.lit (.bool false)], args := [d] }
  | _ => none }
def FnExactWheelOkWrongFalsely : Prop := fnExactWheelOkRow.holds Try.pinned (OpenSpec.ofChange fnExactWheelOkWrong)

/-- 'laws.FnExactWheelLeft': WHATEVER THE INPUT: true; the input reads as it did. -/
def fnExactWheelLeftSpec : ChangeSpec := { name := "fnExactWheelLeft", fn := fun _ => fun
  | [d1, d2] => { results := [.lit (.bool true)], args := [d1, d2] }
  | _ => none }
def fnExactWheelLeftRow : OpenClaim := { program := "ytogjfoeohbmdfaa", sum := "a774b0d848f6aa3b0c1394e54333820c19a234c2935725f9208d37d1787bc2a0", func := "loop.example/g00365/laws.FnExactWheelLeft", spec := "fnExactWheelLeft", unfollowed := true, recurses := true, apart := false }
def FnExactWheelLeftSaid : Prop := fnExactWheelLeftRow.holds Try.pinned (OpenSpec.ofChange fnExactWheelLeftSpec)

/-- ITS FALSE NEIGHBOUR: 'it returns false'. Refute it at one input. -/
def fnExactWheelLeftWrong : ChangeSpec := { name := "fnExactWheelLeft", fn := fun _ => fun
  | [d1, d2] => { results := [.lit (.bool false)], args := [d1, d2] }
  | _ => none }
def FnExactWheelLeftWrongFalsely : Prop := fnExactWheelLeftRow.holds Try.pinned (OpenSpec.ofChange fnExactWheelLeftWrong)

/-- 'laws.FnExactWheelNext': WHATEVER THE INPUT: true; the input reads as it did. -/
def fnExactWheelNextSpec : ChangeSpec := { name := "fnExactWheelNext", fn := fun _ => fun
  | [d] => { results := [.lit (.bool true)], args := [d] }
  | _ => none }
def fnExactWheelNextRow : OpenClaim := { program := "ytogjfoeohbmdfaa", sum := "a774b0d848f6aa3b0c1394e54333820c19a234c2935725f9208d37d1787bc2a0", func := "loop.example/g00365/laws.FnExactWheelNext", spec := "fnExactWheelNext", apart := false }
def FnExactWheelNextSaid : Prop := fnExactWheelNextRow.holds Try.pinned (OpenSpec.ofChange fnExactWheelNextSpec)

/-- ITS FALSE NEIGHBOUR: 'it returns false'. Refute it at one input. -/
def fnExactWheelNextWrong : ChangeSpec := { name := "fnExactWheelNext", fn := fun _ => fun
  | [d] => { results := [.lit (.bool false)], args := [d] }
  | _ => none }
def FnExactWheelNextWrongFalsely : Prop := fnExactWheelNextRow.holds Try.pinned (OpenSpec.ofChange fnExactWheelNextWrong)

/- THE SECOND FORM. 'bulk': how many values and letters a reading holds, each counted each time it is reached (what is shared counts as often as it is met; a slice's spare places count too). A statement '..UptoSaid' is the law's where the arguments, and the package variables that the reading takes, are together of bulk at most 1048576: NARROWER than '..Said'. Prove '..Said' where nothing that the law and all that it calls make is longer than what came in: it says more and counts as full. Else prove '..UptoSaid'. A law counts once. -/
mutual
def uptoBulk {H : Type} : DataW H → Nat
  | .lit (.string bytes) => bytes.length + 1
  | .lit _ => 1
  | .nil => 1
  | .ptr d => uptoBulk d + 1
  | .slice elems spare => uptoBulkAll elems + uptoBulkAll spare + 1
  | .agg parts => uptoBulkAll parts + 1
  | .iface _ d => uptoBulk d + 1
  | .map entries => uptoBulkEntries entries + 1
  | .held _ => 1
def uptoBulkAll {H : Type} : List (DataW H) → Nat
  | [] => 0
  | d :: r => uptoBulk d + uptoBulkAll r
def uptoBulkEntries {H : Type} : List (Lit × DataW H) → Nat
  | [] => 0
  | x :: r => uptoBulkEntry x + uptoBulkEntries r
def uptoBulkEntry {H : Type} : Lit × DataW H → Nat
  | (.string bytes, d) => bytes.length + uptoBulk d + 1
  | (_, d) => uptoBulk d + 1
 end
def uptoSmall : (H : Type) → List (DataW H) → Bool := fun _ ds => decide (uptoBulkAll ds ≤ 1048576)
def OpenSpec.upto (s : _root_.Go.ChangeSpec) : _root_.Go.OpenSpec := { _root_.Go.OpenSpec.ofChange s with cond := some uptoSmall }

/-- 'laws.FnExactWheelOk', WHERE WHAT IT READS IS OF BULK AT MOST 1048576: true; the input reads as it did. -/
def fnExactWheelOkUptoRow : OpenClaim := { program := "ytogjfoeohbmdfaa", sum := "a774b0d848f6aa3b0c1394e54333820c19a234c2935725f9208d37d1787bc2a0", func := "loop.example/g00365/laws.FnExactWheelOk", spec := "fnExactWheelOk", apart := false, narrowed := true }
def FnExactWheelOkUptoSaid : Prop := fnExactWheelOkUptoRow.holds Try.pinned (OpenSpec.upto fnExactWheelOkSpec)

/-- 'laws.FnExactWheelLeft', WHERE WHAT IT READS IS OF BULK AT MOST 1048576: true; the input reads as it did. -/
def fnExactWheelLeftUptoRow : OpenClaim := { program := "ytogjfoeohbmdfaa", sum := "a774b0d848f6aa3b0c1394e54333820c19a234c2935725f9208d37d1787bc2a0", func := "loop.example/g00365/laws.FnExactWheelLeft", spec := "fnExactWheelLeft", unfollowed := true, recurses := true, apart := false, narrowed := true }
def FnExactWheelLeftUptoSaid : Prop := fnExactWheelLeftUptoRow.holds Try.pinned (OpenSpec.upto fnExactWheelLeftSpec)

/-- 'laws.FnExactWheelNext', WHERE WHAT IT READS IS OF BULK AT MOST 1048576: true; the input reads as it did. -/
def fnExactWheelNextUptoRow : OpenClaim := { program := "ytogjfoeohbmdfaa", sum := "a774b0d848f6aa3b0c1394e54333820c19a234c2935725f9208d37d1787bc2a0", func := "loop.example/g00365/laws.FnExactWheelNext", spec := "fnExactWheelNext", apart := false, narrowed := true }
def FnExactWheelNextUptoSaid : Prop := fnExactWheelNextUptoRow.holds Try.pinned (OpenSpec.upto fnExactWheelNextSpec)

end Rows
end Go.Proofs.Ytogjfoeohbmdfaa
