/-
  No cell of these rows narrows 'for every input' (looked for: loops, veiled, ifaces, maps, wideKeys, modest, calm, conditions, laid).
  DERIVED. THE GIVEN ROWS OF THIS SEAT. 5 by the template 'for every input the law returns true; each argument reads behind the call as it read before'; 0 by the template 'total and deterministic' (their statements: YtplgnohncdfgcanTotals.lean).
  GIVEN WITH THE SEED: the statements are not yours to turn. If you find one false, say at which input.
  Laid BY PROGRAM, IN A SANDBOX (cutbox-rows.mjs): the forced cells as the released guide's own fill.sh prints them over the translation dd7e846674616665… (all of the seat's roots in one cut). By AI agents, Wed Nov 11 2026. No macro, syntax, notation, axiom, sorry.
-/
import Derived.Test.YtplgnohncdfgcanChecked
import GoSem.Claim
import GoSem.ClaimJoined
import GoSem.ClaimMapViews
import Derived.JoinedTies
import Derived.KernelRfl
namespace Go.Proofs.Ytplgnohncdfgcan
/- THE CELL 'sum', in the pinned program and in every row, IS THE sha256 OF THE DUMP (.gsa) THAT YtplgnohncdfgcanProg.lean LOADS. Nothing in Lean hashes anything: it is a label: what it is worth is what the hold of that sum in a sandbox is worth. -/
noncomputable def Try.pinned : Pinned := { name := "ytplgnohncdfgcan", sum := "dd7e846674616665c25abddf6cd774636e754d8d58b5414534a472d725e38479", checked := Try.checked }
namespace Rows
def none {H : Type} : Left H := { results := [], args := [] }

/-- 'laws.FnExactNewer': WHATEVER THE INPUT: true; the input reads as it did. -/
def fnExactNewerSpec : ChangeSpec := { name := "fnExactNewer", fn := fun _ => fun
  | [d1, d2, d3, d4] => { results := [.lit (.bool true)], args := [d1, d2, d3, d4] }
  | _ => none }
def fnExactNewerRow : OpenClaim := { program := "ytplgnohncdfgcan", sum := "dd7e846674616665c25abddf6cd774636e754d8d58b5414534a472d725e38479", func := "loop.example/g00365/laws.FnExactNewer", spec := "fnExactNewer", unfollowed := true, recurses := true, apart := false }
def FnExactNewerSaid : Prop := fnExactNewerRow.holds Try.pinned (OpenSpec.ofChange fnExactNewerSpec)

/-- ITS FALSE NEIGHBOUR: 'it returns false'. Refute it at one input. -/
def fnExactNewerWrong : ChangeSpec := { name := "fnExactNewer", fn := fun _ => fun
  | [d1, d2, d3, d4] => { results := [.lit (.bool false)], args := [d1, d2, d3, d4] }
  | _ => none }
def FnExactNewerWrongFalsely : Prop := fnExactNewerRow.holds Try.pinned (OpenSpec.ofChange fnExactNewerWrong)

/-- 'laws.FnExactBacked': WHATEVER THE INPUT: true; the input reads as it did. -/
def fnExactBackedSpec : ChangeSpec := { name := "fnExactBacked", fn := fun _ => fun
  | [d1, d2, d3] => { results := [.lit (.bool true)], args := [d1, d2, d3] }
  | _ => none }
def fnExactBackedRow : OpenClaim := { program := "ytplgnohncdfgcan", sum := "dd7e846674616665c25abddf6cd774636e754d8d58b5414534a472d725e38479", func := "loop.example/g00365/laws.FnExactBacked", spec := "fnExactBacked", unfollowed := true, recurses := true, apart := false }
def FnExactBackedSaid : Prop := fnExactBackedRow.holds Try.pinned (OpenSpec.ofChange fnExactBackedSpec)

/-- ITS FALSE NEIGHBOUR: 'it returns false'. Refute it at one input. -/
def fnExactBackedWrong : ChangeSpec := { name := "fnExactBacked", fn := fun _ => fun
  | [d1, d2, d3] => { results := [.lit (.bool false)], args := [d1, d2, d3] }
  | _ => none }
def FnExactBackedWrongFalsely : Prop := fnExactBackedRow.holds Try.pinned (OpenSpec.ofChange fnExactBackedWrong)

/-- 'laws.FnExactAddFor': WHATEVER THE INPUT: true; the input reads as it did. -/
def fnExactAddForSpec : ChangeSpec := { name := "fnExactAddFor", fn := fun _ => fun
  | [d1, d2, d3] => { results := [.lit (.bool true)], args := [d1, d2, d3] }
  | _ => none }
def fnExactAddForRow : OpenClaim := { program := "ytplgnohncdfgcan", sum := "dd7e846674616665c25abddf6cd774636e754d8d58b5414534a472d725e38479", func := "loop.example/g00365/laws.FnExactAddFor", spec := "fnExactAddFor", unfollowed := true, recurses := true, apart := false }
def FnExactAddForSaid : Prop := fnExactAddForRow.holds Try.pinned (OpenSpec.ofChange fnExactAddForSpec)

/-- ITS FALSE NEIGHBOUR: 'it returns false'. Refute it at one input. -/
def fnExactAddForWrong : ChangeSpec := { name := "fnExactAddFor", fn := fun _ => fun
  | [d1, d2, d3] => { results := [.lit (.bool false)], args := [d1, d2, d3] }
  | _ => none }
def FnExactAddForWrongFalsely : Prop := fnExactAddForRow.holds Try.pinned (OpenSpec.ofChange fnExactAddForWrong)

/-- 'laws.FnExactBehind': WHATEVER THE INPUT: true; the input reads as it did. -/
def fnExactBehindSpec : ChangeSpec := { name := "fnExactBehind", fn := fun _ => fun
  | [d1, d2] => { results := [.lit (.bool true)], args := [d1, d2] }
  | _ => none }
def fnExactBehindRow : OpenClaim := { program := "ytplgnohncdfgcan", sum := "dd7e846674616665c25abddf6cd774636e754d8d58b5414534a472d725e38479", func := "loop.example/g00365/laws.FnExactBehind", spec := "fnExactBehind", unfollowed := true, recurses := true, apart := false }
def FnExactBehindSaid : Prop := fnExactBehindRow.holds Try.pinned (OpenSpec.ofChange fnExactBehindSpec)

/-- ITS FALSE NEIGHBOUR: 'it returns false'. Refute it at one input. -/
def fnExactBehindWrong : ChangeSpec := { name := "fnExactBehind", fn := fun _ => fun
  | [d1, d2] => { results := [.lit (.bool false)], args := [d1, d2] }
  | _ => none }
def FnExactBehindWrongFalsely : Prop := fnExactBehindRow.holds Try.pinned (OpenSpec.ofChange fnExactBehindWrong)

/-- 'laws.FnExactActionOk': WHATEVER THE INPUT: true; the input reads as it did. -/
def fnExactActionOkSpec : ChangeSpec := { name := "fnExactActionOk", fn := fun _ => fun
  | [d] => { results := [.lit (.bool true)], args := [d] }
  | _ => none }
def fnExactActionOkRow : OpenClaim := { program := "ytplgnohncdfgcan", sum := "dd7e846674616665c25abddf6cd774636e754d8d58b5414534a472d725e38479", func := "loop.example/g00365/laws.FnExactActionOk", spec := "fnExactActionOk", apart := false }
def FnExactActionOkSaid : Prop := fnExactActionOkRow.holds Try.pinned (OpenSpec.ofChange fnExactActionOkSpec)

/-- ITS FALSE NEIGHBOUR: 'it returns false'. Refute it at one input. -/
def fnExactActionOkWrong : ChangeSpec := { name := "fnExactActionOk", fn := fun _ => fun
  | [d] => { results := [.lit (.bool false)], args := [d] }
  | _ => none }
def FnExactActionOkWrongFalsely : Prop := fnExactActionOkRow.holds Try.pinned (OpenSpec.ofChange fnExactActionOkWrong)

/- THE SECOND FORM. 'bulk': how many values and letters a reading holds, each counted each time it is reached (what is shared counts as often as it is met; a slice's spare places count too). A statement '..UptoSaid' is the law's where the arguments, and the package variables that the reading takes, are together of bulk at most 1048576: NARROWER than '..Said'. Prove '..Said' where nothing that the law and all that it calls make is longer than what came in: it says more and counts as full. Else prove '..UptoSaid'. A law counts once. -/
mutual
def uptoBulk {H : Type} : DataW H → Nat
  | .lit (.string bytes) => bytes.length + 1
  | .lit _ => 1
  | .nil => 1
  | .ptr d => uptoBulk d + 1
  | .slice elems spare => uptoBulkAll elems + uptoBulkAll spare + 1
  | .agg parts => uptoBulkAll parts + 1
  | .iface _ d => uptoBulk d + 1
  | .map entries => uptoBulkEntries entries + 1
  | .held _ => 1
def uptoBulkAll {H : Type} : List (DataW H) → Nat
  | [] => 0
  | d :: r => uptoBulk d + uptoBulkAll r
def uptoBulkEntries {H : Type} : List (Lit × DataW H) → Nat
  | [] => 0
  | x :: r => uptoBulkEntry x + uptoBulkEntries r
def uptoBulkEntry {H : Type} : Lit × DataW H → Nat
  | (.string bytes, d) => bytes.length + uptoBulk d + 1
  | (_, d) => uptoBulk d + 1
 end
def uptoSmall : (H : Type) → List (DataW H) → Bool := fun _ ds => decide (uptoBulkAll ds ≤ 1048576)
def OpenSpec.upto (s : _root_.Go.ChangeSpec) : _root_.Go.OpenSpec := { _root_.Go.OpenSpec.ofChange s with cond := some uptoSmall }

/-- 'laws.FnExactNewer', WHERE WHAT IT READS IS OF BULK AT MOST 1048576: true; the input reads as it did. -/
def fnExactNewerUptoRow : OpenClaim := { program := "ytplgnohncdfgcan", sum := "dd7e846674616665c25abddf6cd774636e754d8d58b5414534a472d725e38479", func := "loop.example/g00365/laws.FnExactNewer", spec := "fnExactNewer", unfollowed := true, recurses := true, apart := false, narrowed := true }
def FnExactNewerUptoSaid : Prop := fnExactNewerUptoRow.holds Try.pinned (OpenSpec.upto fnExactNewerSpec)

/-- 'laws.FnExactBacked', WHERE WHAT IT READS IS OF BULK AT MOST 1048576: true; the input reads as it did. -/
def fnExactBackedUptoRow : OpenClaim := { program := "ytplgnohncdfgcan", sum := "dd7e846674616665c25abddf6cd774636e754d8d58b5414534a472d725e38479", func := "loop.example/g00365/laws.FnExactBacked", spec := "fnExactBacked", unfollowed := true, recurses := true, apart := false, narrowed := true }
def FnExactBackedUptoSaid : Prop := fnExactBackedUptoRow.holds Try.pinned (OpenSpec.upto fnExactBackedSpec)

/-- 'laws.FnExactAddFor', WHERE WHAT IT READS IS OF BULK AT MOST 1048576: true; the input reads as it did. -/
def fnExactAddForUptoRow : OpenClaim := { program := "ytplgnohncdfgcan", sum := "dd7e846674616665c25abddf6cd774636e754d8d58b5414534a472d725e38479", func := "loop.example/g00365/laws.FnExactAddFor", spec := "fnExactAddFor", unfollowed := true, recurses := true, apart := false, narrowed := true }
def FnExactAddForUptoSaid : Prop := fnExactAddForUptoRow.holds Try.pinned (OpenSpec.upto fnExactAddForSpec)

/-- 'laws.FnExactBehind', WHERE WHAT IT READS IS OF BULK AT MOST 1048576: true; the input reads as it did. -/
def fnExactBehindUptoRow : OpenClaim := { program := "ytplgnohncdfgcan", sum := "dd7e846674616665c25abddf6cd774636e754d8d58b5414534a472d725e38479", func := "loop.example/g00365/laws.FnExactBehind", spec := "fnExactBehind", unfollowed := true, recurses := true, apart := false, narrowed := true }
def FnExactBehindUptoSaid : Prop := fnExactBehindUptoRow.holds Try.pinned (OpenSpec.upto fnExactBehindSpec)

/-- 'laws.FnExactActionOk', WHERE WHAT IT READS IS OF BULK AT MOST 1048576: true; the input reads as it did. -/
def fnExactActionOkUptoRow : OpenClaim := { program := "ytplgnohncdfgcan", sum := "dd7e846674616665c25abddf6cd774636e754d8d58b5414534a472d725e38479", func := "loop.example/g00365/laws.FnExactActionOk", spec := "fnExactActionOk", apart := false, narrowed := true }
def FnExactActionOkUptoSaid : Prop := fnExactActionOkUptoRow.holds Try.pinned (OpenSpec.upto fnExactActionOkSpec)

end Rows
end Go.Proofs.Ytplgnohncdfgcan
