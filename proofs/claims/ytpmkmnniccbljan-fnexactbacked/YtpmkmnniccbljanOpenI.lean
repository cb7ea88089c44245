/- Arguments opened: a list of items that came in reads as data. -/
import Derived.Test.YtpmkmnniccbljanOpen2
import Derived.Test.YtpmkmnniccbljanOpenS
import Derived.Test.YtpmkmnniccbljanMsA
namespace Go.Proofs.Ytpmkmnniccbljan
open Go.ChangeShapes Go.WideShapes Go.ChangeAt Go.RowKit Go.Joins

section
variable {H : Type} {enc : TypeId × Value → H} {W : World} {fuel : Nat} {v : Value} {y : DataW H × List MemPlace}

set_option maxRecDepth 100000 in
theorem items_of_trod (h : DataW.trod enc Try.prog W 0 (fun _ => true) true fuel 22 [v] = some y) : ∃ rs, VItems W v rs := by
  obtain ⟨n, C, hS, m, D, hD⟩ := sl_of_trod (k := 7) Try.underlying22 (by kernel_rfl) (by omega) h
  obtain ⟨rs, hl, hr⟩ := list_of (p := fun i (d : DItem) => C i 0 = .int .i64 d.term ∧ C i 1 = .int .i64 d.cmd.client ∧ C i 2 = .int .i64 d.cmd.req ∧ C i 3 = .int .i64 d.cmd.op.kind ∧ RV W (C i 4) d.cmd.op.key ∧ RV W (C i 5) d.cmd.op.val ∧ C i 6 = .int .i64 d.cmd.op.n) n (fun i hi => by
    have hf : DataW.trod enc Try.prog W 0 (fun _ => true) true m 100 [C i 0, C i 1, C i 2, C i 3, C i 4, C i 5, C i 6] = some (D i) := hD i hi
    obtain ⟨d, ⟨kv, vv, e, rk, rv⟩, _, _⟩ := item_of_trod hf
    simp only [Value.agg.injEq, Array.mk.injEq, List.cons.injEq, and_true] at e
    obtain ⟨e0, e1, e2, e3, e4, e5, e6⟩ := e
    exact ⟨d, e0, e1, e2, e3, by rw [e4]; exact rk, by rw [e5]; exact rv, e6⟩)
  exact ⟨rs, C, by rw [hl]; exact hS, hr⟩
end

end Go.Proofs.Ytpmkmnniccbljan
