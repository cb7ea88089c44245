/-
  No cell of these rows narrows 'for every input' (looked for: loops, veiled, ifaces, maps, wideKeys, modest, calm, conditions, laid).
  DERIVED. THE GIVEN ROWS OF THIS SEAT. 5 by the template 'for every input the law returns true; each argument reads behind the call as it read before'; 0 by the template 'total and deterministic' (their statements: YtmokgfbggjcedaaTotals.lean).
  GIVEN WITH THE SEED: the statements are not yours to turn. If you find one false, say at which input.
  Laid BY PROGRAM, IN A SANDBOX (cutbox-rows.mjs): the forced cells as the released guide's own fill.sh prints them over the translation 69884778c9c40916… (all of the seat's roots in one cut). By AI agents, Wed Nov 11 2026. No macro, syntax, notation, axiom, sorry.
-/
import Derived.Test.YtmokgfbggjcedaaChecked
import GoSem.Claim
import GoSem.ClaimJoined
import GoSem.ClaimMapViews
import Derived.JoinedTies
import Derived.KernelRfl
namespace Go.Proofs.Ytmokgfbggjcedaa
/- THE CELL 'sum', in the pinned program and in every row, IS THE sha256 OF THE DUMP (.gsa) THAT YtmokgfbggjcedaaProg.lean LOADS. Nothing in Lean hashes anything: it is a label: what it is worth is what the hold of that sum in a sandbox is worth. -/
noncomputable def Try.pinned : Pinned := { name := "ytmokgfbggjcedaa", sum := "69884778c9c4091621739fc52a4090b44c2628ccac7872e08f36a891a0f42e10", checked := Try.checked }
namespace Rows
def none {H : Type} : Left H := { results := [], args := [] }

/-- 'laws.FnExactCheckOk': WHATEVER THE INPUT: true; the input reads as it did. -/
def fnExactCheckOkSpec : ChangeSpec := { name := "fnExactCheckOk", fn := fun _ => fun
  | [d] => { results := [.lit (.bool true)], args := [d] }
  | _ => none }
def fnExactCheckOkRow : OpenClaim := { program := "ytmokgfbggjcedaa", sum := "69884778c9c4091621739fc52a4090b44c2628ccac7872e08f36a891a0f42e10", func := "loop.example/g00365/laws.FnExactCheckOk", spec := "fnExactCheckOk", apart := false }
def FnExactCheckOkSaid : Prop := fnExactCheckOkRow.holds Try.pinned (OpenSpec.ofChange fnExactCheckOkSpec)

/-- ITS FALSE NEIGHBOUR: 'it returns false'. Refute it at one input. -/
def fnExactCheckOkWrong : ChangeSpec := { name := "fnExactCheckOk", fn := fun _ => fun
  | [d] => { results := [.lit (.bool false)], args := [d] }
  | _ => none }
def FnExactCheckOkWrongFalsely : Prop := fnExactCheckOkRow.holds Try.pinned (OpenSpec.ofChange fnExactCheckOkWrong)

/-- 'laws.FnExactCheckNew': WHATEVER THE INPUT: true; the input reads as it did. -/
def fnExactCheckNewSpec : ChangeSpec := { name := "fnExactCheckNew", fn := fun _ => fun
  | [d1, d2, d3] => { results := [.lit (.bool true)], args := [d1, d2, d3] }
  | _ => none }
def fnExactCheckNewRow : OpenClaim := { program := "ytmokgfbggjcedaa", sum := "69884778c9c4091621739fc52a4090b44c2628ccac7872e08f36a891a0f42e10", func := "loop.example/g00365/laws.FnExactCheckNew", spec := "fnExactCheckNew", apart := false }
def FnExactCheckNewSaid : Prop := fnExactCheckNewRow.holds Try.pinned (OpenSpec.ofChange fnExactCheckNewSpec)

/-- ITS FALSE NEIGHBOUR: 'it returns false'. Refute it at one input. -/
def fnExactCheckNewWrong : ChangeSpec := { name := "fnExactCheckNew", fn := fun _ => fun
  | [d1, d2, d3] => { results := [.lit (.bool false)], args := [d1, d2, d3] }
  | _ => none }
def FnExactCheckNewWrongFalsely : Prop := fnExactCheckNewRow.holds Try.pinned (OpenSpec.ofChange fnExactCheckNewWrong)

/-- 'laws.FnExactCheckPass': WHATEVER THE INPUT: true; the input reads as it did. -/
def fnExactCheckPassSpec : ChangeSpec := { name := "fnExactCheckPass", fn := fun _ => fun
  | [d] => { results := [.lit (.bool true)], args := [d] }
  | _ => none }
def fnExactCheckPassRow : OpenClaim := { program := "ytmokgfbggjcedaa", sum := "69884778c9c4091621739fc52a4090b44c2628ccac7872e08f36a891a0f42e10", func := "loop.example/g00365/laws.FnExactCheckPass", spec := "fnExactCheckPass", apart := false }
def FnExactCheckPassSaid : Prop := fnExactCheckPassRow.holds Try.pinned (OpenSpec.ofChange fnExactCheckPassSpec)

/-- ITS FALSE NEIGHBOUR: 'it returns false'. Refute it at one input. -/
def fnExactCheckPassWrong : ChangeSpec := { name := "fnExactCheckPass", fn := fun _ => fun
  | [d] => { results := [.lit (.bool false)], args := [d] }
  | _ => none }
def FnExactCheckPassWrongFalsely : Prop := fnExactCheckPassRow.holds Try.pinned (OpenSpec.ofChange fnExactCheckPassWrong)

/-- 'laws.FnExactCheckFail': WHATEVER THE INPUT: true; the input reads as it did. -/
def fnExactCheckFailSpec : ChangeSpec := { name := "fnExactCheckFail", fn := fun _ => fun
  | [d] => { results := [.lit (.bool true)], args := [d] }
  | _ => none }
def fnExactCheckFailRow : OpenClaim := { program := "ytmokgfbggjcedaa", sum := "69884778c9c4091621739fc52a4090b44c2628ccac7872e08f36a891a0f42e10", func := "loop.example/g00365/laws.FnExactCheckFail", spec := "fnExactCheckFail", apart := false }
def FnExactCheckFailSaid : Prop := fnExactCheckFailRow.holds Try.pinned (OpenSpec.ofChange fnExactCheckFailSpec)

/-- ITS FALSE NEIGHBOUR: 'it returns false'. Refute it at one input. -/
def fnExactCheckFailWrong : ChangeSpec := { name := "fnExactCheckFail", fn := fun _ => fun
  | [d] => { results := [.lit (.bool false)], args := [d] }
  | _ => none }
def FnExactCheckFailWrongFalsely : Prop := fnExactCheckFailRow.holds Try.pinned (OpenSpec.ofChange fnExactCheckFailWrong)

/-- 'laws.FnExactCheckTick': WHATEVER THE INPUT: true; the input reads as it did. -/
def fnExactCheckTickSpec : ChangeSpec := { name := "fnExactCheckTick", fn := fun _ => fun
  | [d1, d2] => { results := [.lit (.bool true)], args := [d1, d2] }
  | _ => none }
def fnExactCheckTickRow : OpenClaim := { program := "ytmokgfbggjcedaa", sum := "69884778c9c4091621739fc52a4090b44c2628ccac7872e08f36a891a0f42e10", func := "loop.example/g00365/laws.FnExactCheckTick", spec := "fnExactCheckTick", apart := false }
def FnExactCheckTickSaid : Prop := fnExactCheckTickRow.holds Try.pinned (OpenSpec.ofChange fnExactCheckTickSpec)

/-- ITS FALSE NEIGHBOUR: 'it returns false'. Refute it at one input. -/
def fnExactCheckTickWrong : ChangeSpec := { name := "fnExactCheckTick", fn := fun _ => fun
  | [d1, d2] => { results := [.lit (.bool false)], args := [d1, d2] }
  | _ => none }
def FnExactCheckTickWrongFalsely : Prop := fnExactCheckTickRow.holds Try.pinned (OpenSpec.ofChange fnExactCheckTickWrong)

/- THE SECOND FORM. 'bulk': how many values and letters a reading holds, each counted each time it is reached (what is shared counts as often as it is met; a slice's spare places count too). A statement '..UptoSaid' is the law's where the arguments, and the package variables that the reading takes, are together of bulk at most 1048576: NARROWER than '..Said'. Prove '..Said' where nothing that the law and all that it calls make is longer than what came in: it says more and counts as full. Else prove '..UptoSaid'. A law counts once. -/
mutual
def uptoBulk {H : Type} : DataW H → Nat
  | .lit (.string bytes) => bytes.length + 1
  | .lit _ => 1
  | .nil => 1
  | .ptr d => uptoBulk d + 1
  | .slice elems spare => uptoBulkAll elems + uptoBulkAll spare + 1
  | .agg parts => uptoBulkAll parts + 1
  | .iface _ d => uptoBulk d + 1
  | .map entries => uptoBulkEntries entries + 1
  | .held _ => 1
def uptoBulkAll {H : Type} : List (DataW H) → Nat
  | [] => 0
  | d :: r => uptoBulk d + uptoBulkAll r
def uptoBulkEntries {H : Type} : List (Lit × DataW H) → Nat
  | [] => 0
  | x :: r => uptoBulkEntry x + uptoBulkEntries r
def uptoBulkEntry {H : Type} : Lit × DataW H → Nat
  | (.string bytes, d) => bytes.length + uptoBulk d + 1
  | (_, d) => uptoBulk d + 1
 end
def uptoSmall : (H : Type) → List (DataW H) → Bool := fun _ ds => decide (uptoBulkAll ds ≤ 1048576)
def OpenSpec.upto (s : _root_.Go.ChangeSpec) : _root_.Go.OpenSpec := { _root_.Go.OpenSpec.ofChange s with cond := some uptoSmall }

/-- 'laws.FnExactCheckOk', WHERE WHAT IT READS IS OF BULK AT MOST 1048576: true; the input reads as it did. -/
def fnExactCheckOkUptoRow : OpenClaim := { program := "ytmokgfbggjcedaa", sum := "69884778c9c4091621739fc52a4090b44c2628ccac7872e08f36a891a0f42e10", func := "loop.example/g00365/laws.FnExactCheckOk", spec := "fnExactCheckOk", apart := false, narrowed := true }
def FnExactCheckOkUptoSaid : Prop := fnExactCheckOkUptoRow.holds Try.pinned (OpenSpec.upto fnExactCheckOkSpec)

/-- 'laws.FnExactCheckNew', WHERE WHAT IT READS IS OF BULK AT MOST 1048576: true; the input reads as it did. -/
def fnExactCheckNewUptoRow : OpenClaim := { program := "ytmokgfbggjcedaa", sum := "69884778c9c4091621739fc52a4090b44c2628ccac7872e08f36a891a0f42e10", func := "loop.example/g00365/laws.FnExactCheckNew", spec := "fnExactCheckNew", apart := false, narrowed := true }
def FnExactCheckNewUptoSaid : Prop := fnExactCheckNewUptoRow.holds Try.pinned (OpenSpec.upto fnExactCheckNewSpec)

/-- 'laws.FnExactCheckPass', WHERE WHAT IT READS IS OF BULK AT MOST 1048576: true; the input reads as it did. -/
def fnExactCheckPassUptoRow : OpenClaim := { program := "ytmokgfbggjcedaa", sum := "69884778c9c4091621739fc52a4090b44c2628ccac7872e08f36a891a0f42e10", func := "loop.example/g00365/laws.FnExactCheckPass", spec := "fnExactCheckPass", apart := false, narrowed := true }
def FnExactCheckPassUptoSaid : Prop := fnExactCheckPassUptoRow.holds Try.pinned (OpenSpec.upto fnExactCheckPassSpec)

/-- 'laws.FnExactCheckFail', WHERE WHAT IT READS IS OF BULK AT MOST 1048576: true; the input reads as it did. -/
def fnExactCheckFailUptoRow : OpenClaim := { program := "ytmokgfbggjcedaa", sum := "69884778c9c4091621739fc52a4090b44c2628ccac7872e08f36a891a0f42e10", func := "loop.example/g00365/laws.FnExactCheckFail", spec := "fnExactCheckFail", apart := false, narrowed := true }
def FnExactCheckFailUptoSaid : Prop := fnExactCheckFailUptoRow.holds Try.pinned (OpenSpec.upto fnExactCheckFailSpec)

/-- 'laws.FnExactCheckTick', WHERE WHAT IT READS IS OF BULK AT MOST 1048576: true; the input reads as it did. -/
def fnExactCheckTickUptoRow : OpenClaim := { program := "ytmokgfbggjcedaa", sum := "69884778c9c4091621739fc52a4090b44c2628ccac7872e08f36a891a0f42e10", func := "loop.example/g00365/laws.FnExactCheckTick", spec := "fnExactCheckTick", apart := false, narrowed := true }
def FnExactCheckTickUptoSaid : Prop := fnExactCheckTickUptoRow.holds Try.pinned (OpenSpec.upto fnExactCheckTickSpec)

end Rows
end Go.Proofs.Ytmokgfbggjcedaa
