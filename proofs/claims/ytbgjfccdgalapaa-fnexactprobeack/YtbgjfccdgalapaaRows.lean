/-
  No cell of these rows narrows 'for every input' (looked for: loops, veiled, ifaces, maps, wideKeys, modest, calm, conditions, laid).
  DERIVED. THE GIVEN ROWS OF THIS SEAT. 5 by the template 'for every input the law returns true; each argument reads behind the call as it read before'; 0 by the template 'total and deterministic' (their statements: YtbgjfccdgalapaaTotals.lean).
  GIVEN WITH THE SEED: the statements are not yours to turn. If you find one false, say at which input.
  Laid BY PROGRAM, IN A SANDBOX (cutbox-rows.mjs): the forced cells as the released guide's own fill.sh prints them over the translation d5178ab937dc82ec… (all of the seat's roots in one cut). By AI agents, Wed Nov 11 2026. No macro, syntax, notation, axiom, sorry.
-/
import Derived.Test.YtbgjfccdgalapaaChecked
import GoSem.Claim
import GoSem.ClaimJoined
import GoSem.ClaimMapViews
import Derived.JoinedTies
import Derived.KernelRfl
namespace Go.Proofs.Ytbgjfccdgalapaa
/- THE CELL 'sum', in the pinned program and in every row, IS THE sha256 OF THE DUMP (.gsa) THAT YtbgjfccdgalapaaProg.lean LOADS. Nothing in Lean hashes anything: it is a label: what it is worth is what the hold of that sum in a sandbox is worth. -/
noncomputable def Try.pinned : Pinned := { name := "ytbgjfccdgalapaa", sum := "d5178ab937dc82ec3eabadc7ce5b98732f8ad21cf369c146f1ab6a57364bedb8", checked := Try.checked }
namespace Rows
def none {H : Type} : Left H := { results := [], args := [] }

/-- 'laws.FnExactMix': WHATEVER THE INPUT: true; the input reads as it did. -/
def fnExactMixSpec : ChangeSpec := { name := "fnExactMix", fn := fun _ => fun
  | [d] => { results := [.lit (.bool true)], args := [d] }
  | _ => none }
def fnExactMixRow : OpenClaim := { program := "ytbgjfccdgalapaa", sum := "d5178ab937dc82ec3eabadc7ce5b98732f8ad21cf369c146f1ab6a57364bedb8", func := "loop.example/g00365/laws.FnExactMix", spec := "fnExactMix", apart := false }
def FnExactMixSaid : Prop := fnExactMixRow.holds Try.pinned (OpenSpec.ofChange fnExactMixSpec)

/-- ITS FALSE NEIGHBOUR: 'it returns false'. Refute it at one input. -/
def fnExactMixWrong : ChangeSpec := { name := "fnExactMix", fn := fun _ => fun
  | [d] => { results := [.lit (.bool false)], args := [d] }
  | _ => none }
def FnExactMixWrongFalsely : Prop := fnExactMixRow.holds Try.pinned (OpenSpec.ofChange fnExactMixWrong)

/-- 'laws.FnExactShuffle': WHATEVER THE INPUT: true; the input reads as it did. -/
def fnExactShuffleSpec : ChangeSpec := { name := "fnExactShuffle", fn := fun _ => fun
  | [d1, d2] => { results := [.lit (.bool true)], args := [d1, d2] }
  | _ => none }
def fnExactShuffleRow : OpenClaim := { program := "ytbgjfccdgalapaa", sum := "d5178ab937dc82ec3eabadc7ce5b98732f8ad21cf369c146f1ab6a57364bedb8", func := "loop.example/g00365/laws.FnExactShuffle", spec := "fnExactShuffle", apart := false }
def FnExactShuffleSaid : Prop := fnExactShuffleRow.holds Try.pinned (OpenSpec.ofChange fnExactShuffleSpec)

/-- ITS FALSE NEIGHBOUR: 'it returns false'. Refute it at one input. -/
def fnExactShuffleWrong : ChangeSpec := { name := "fnExactShuffle", fn := fun _ => fun
  | [d1, d2] => { results := [.lit (.bool false)], args := [d1, d2] }
  | _ => none }
def FnExactShuffleWrongFalsely : Prop := fnExactShuffleRow.holds Try.pinned (OpenSpec.ofChange fnExactShuffleWrong)

/-- 'laws.FnExactProberOk': WHATEVER THE INPUT: true; the input reads as it did. -/
def fnExactProberOkSpec : ChangeSpec := { name := "fnExactProberOk", fn := fun _ => fun
  | [d] => { results := [.lit (.bool true)], args := [d] }
  | _ => none }
def fnExactProberOkRow : OpenClaim := { program := "ytbgjfccdgalapaa", sum := "d5178ab937dc82ec3eabadc7ce5b98732f8ad21cf369c146f1ab6a57364bedb8", func := "loop.example/g00365/laws.FnExactProberOk", spec := "fnExactProberOk", apart := false }
def FnExactProberOkSaid : Prop := fnExactProberOkRow.holds Try.pinned (OpenSpec.ofChange fnExactProberOkSpec)

/-- ITS FALSE NEIGHBOUR: 'it returns false'. Refute it at one input. -/
def fnExactProberOkWrong : ChangeSpec := { name := "fnExactProberOk", fn := fun _ => fun
  | [d] => { results := [.lit (.bool false)], args := [d] }
  | _ => none }
def FnExactProberOkWrongFalsely : Prop := fnExactProberOkRow.holds Try.pinned (OpenSpec.ofChange fnExactProberOkWrong)

/-- 'laws.FnExactProberNew': WHATEVER THE INPUT: true; the input reads as it did. -/
def fnExactProberNewSpec : ChangeSpec := { name := "fnExactProberNew", fn := fun _ => fun
  | [d] => { results := [.lit (.bool true)], args := [d] }
  | _ => none }
def fnExactProberNewRow : OpenClaim := { program := "ytbgjfccdgalapaa", sum := "d5178ab937dc82ec3eabadc7ce5b98732f8ad21cf369c146f1ab6a57364bedb8", func := "loop.example/g00365/laws.FnExactProberNew", spec := "fnExactProberNew", apart := false }
def FnExactProberNewSaid : Prop := fnExactProberNewRow.holds Try.pinned (OpenSpec.ofChange fnExactProberNewSpec)

/-- ITS FALSE NEIGHBOUR: 'it returns false'. Refute it at one input. -/
def fnExactProberNewWrong : ChangeSpec := { name := "fnExactProberNew", fn := fun _ => fun
  | [d] => { results := [.lit (.bool false)], args := [d] }
  | _ => none }
def FnExactProberNewWrongFalsely : Prop := fnExactProberNewRow.holds Try.pinned (OpenSpec.ofChange fnExactProberNewWrong)

/-- 'laws.FnExactProbeAck': WHATEVER THE INPUT: true; the input reads as it did. -/
def fnExactProbeAckSpec : ChangeSpec := { name := "fnExactProbeAck", fn := fun _ => fun
  | [d1, d2] => { results := [.lit (.bool true)], args := [d1, d2] }
  | _ => none }
def fnExactProbeAckRow : OpenClaim := { program := "ytbgjfccdgalapaa", sum := "d5178ab937dc82ec3eabadc7ce5b98732f8ad21cf369c146f1ab6a57364bedb8", func := "loop.example/g00365/laws.FnExactProbeAck", spec := "fnExactProbeAck", apart := false }
def FnExactProbeAckSaid : Prop := fnExactProbeAckRow.holds Try.pinned (OpenSpec.ofChange fnExactProbeAckSpec)

/-- ITS FALSE NEIGHBOUR: 'it returns false'. Refute it at one input. -/
def fnExactProbeAckWrong : ChangeSpec := { name := "fnExactProbeAck", fn := fun _ => fun
  | [d1, d2] => { results := [.lit (.bool false)], args := [d1, d2] }
  | _ => none }
def FnExactProbeAckWrongFalsely : Prop := fnExactProbeAckRow.holds Try.pinned (OpenSpec.ofChange fnExactProbeAckWrong)

/- THE SECOND FORM. 'bulk': how many values and letters a reading holds, each counted each time it is reached (what is shared counts as often as it is met; a slice's spare places count too). A statement '..UptoSaid' is the law's where the arguments, and the package variables that the reading takes, are together of bulk at most 1048576: NARROWER than '..Said'. Prove '..Said' where nothing that the law and all that it calls make is longer than what came in: it says more and counts as full. Else prove '..UptoSaid'. A law counts once. -/
mutual
def uptoBulk {H : Type} : DataW H → Nat
  | .lit (.string bytes) => bytes.length + 1
  | .lit _ => 1
  | .nil => 1
  | .ptr d => uptoBulk d + 1
  | .slice elems spare => uptoBulkAll elems + uptoBulkAll spare + 1
  | .agg parts => uptoBulkAll parts + 1
  | .iface _ d => uptoBulk d + 1
  | .map entries => uptoBulkEntries entries + 1
  | .held _ => 1
def uptoBulkAll {H : Type} : List (DataW H) → Nat
  | [] => 0
  | d :: r => uptoBulk d + uptoBulkAll r
def uptoBulkEntries {H : Type} : List (Lit × DataW H) → Nat
  | [] => 0
  | x :: r => uptoBulkEntry x + uptoBulkEntries r
def uptoBulkEntry {H : Type} : Lit × DataW H → Nat
  | (.string bytes, d) => bytes.length + uptoBulk d + 1
  | (_, d) => uptoBulk d + 1
 end
def uptoSmall : (H : Type) → List (DataW H) → Bool := fun _ ds => decide (uptoBulkAll ds ≤ 1048576)
def OpenSpec.upto (s : _root_.Go.ChangeSpec) : _root_.Go.OpenSpec := { _root_.Go.OpenSpec.ofChange s with cond := some uptoSmall }

/-- 'laws.FnExactMix', WHERE WHAT IT READS IS OF BULK AT MOST 1048576: true; the input reads as it did. -/
def fnExactMixUptoRow : OpenClaim := { program := "ytbgjfccdgalapaa", sum := "d5178ab937dc82ec3eabadc7ce5b98732f8ad21cf369c146f1ab6a57364bedb8", func := "loop.example/g00365/laws.FnExactMix", spec := "fnExactMix", apart := false, narrowed := true }
def FnExactMixUptoSaid : Prop := fnExactMixUptoRow.holds Try.pinned (OpenSpec.upto fnExactMixSpec)

/-- 'laws.FnExactShuffle', WHERE WHAT IT READS IS OF BULK AT MOST 1048576: true; the input reads as it did. -/
def fnExactShuffleUptoRow : OpenClaim := { program := "ytbgjfccdgalapaa", sum := "d5178ab937dc82ec3eabadc7ce5b98732f8ad21cf369c146f1ab6a57364bedb8", func := "loop.example/g00365/laws.FnExactShuffle", spec := "fnExactShuffle", apart := false, narrowed := true }
def FnExactShuffleUptoSaid : Prop := fnExactShuffleUptoRow.holds Try.pinned (OpenSpec.upto fnExactShuffleSpec)

/-- 'laws.FnExactProberOk', WHERE WHAT IT READS IS OF BULK AT MOST 1048576: true; the input reads as it did. -/
def fnExactProberOkUptoRow : OpenClaim := { program := "ytbgjfccdgalapaa", sum := "d5178ab937dc82ec3eabadc7ce5b98732f8ad21cf369c146f1ab6a57364bedb8", func := "loop.example/g00365/laws.FnExactProberOk", spec := "fnExactProberOk", apart := false, narrowed := true }
def FnExactProberOkUptoSaid : Prop := fnExactProberOkUptoRow.holds Try.pinned (OpenSpec.upto fnExactProberOkSpec)

/-- 'laws.FnExactProberNew', WHERE WHAT IT READS IS OF BULK AT MOST 1048576: true; the input reads as it did. -/
def fnExactProberNewUptoRow : OpenClaim := { program := "ytbgjfccdgalapaa", sum := "d5178ab937dc82ec3eabadc7ce5b98732f8ad21cf369c146f1ab6a57364bedb8", func := "loop.example/g00365/laws.FnExactProberNew", spec := "fnExactProberNew", apart := false, narrowed := true }
def FnExactProberNewUptoSaid : Prop := fnExactProberNewUptoRow.holds Try.pinned (OpenSpec.upto fnExactProberNewSpec)

/-- 'laws.FnExactProbeAck', WHERE WHAT IT READS IS OF BULK AT MOST 1048576: true; the input reads as it did. -/
def fnExactProbeAckUptoRow : OpenClaim := { program := "ytbgjfccdgalapaa", sum := "d5178ab937dc82ec3eabadc7ce5b98732f8ad21cf369c146f1ab6a57364bedb8", func := "loop.example/g00365/laws.FnExactProbeAck", spec := "fnExactProbeAck", apart := false, narrowed := true }
def FnExactProbeAckUptoSaid : Prop := fnExactProbeAckUptoRow.holds Try.pinned (OpenSpec.upto fnExactProbeAckSpec)

end Rows
end Go.Proofs.Ytbgjfccdgalapaa
