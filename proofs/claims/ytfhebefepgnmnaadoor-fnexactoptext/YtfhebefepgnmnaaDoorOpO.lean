/- Arguments opened: an operation that came in reads as data. -/
import Derived.Test.YtfhebefepgnmnaaDoorOp1
import Derived.Test.YtfhebefepgnmnaaDoorOpen0
import Derived.ProofKit
import Derived.OpenShut
import Derived.Lib.SmallJoins
namespace Go.Proofs.YtfhebefepgnmnaaDoor
open Go.ChangeShapes Go.WideShapes Go.ChangeAt Go.RowKit Go.Joins

def intOp (d : DOp) : Prop := (-9223372036854775808 ≤ d.kind ∧ d.kind ≤ 9223372036854775807) ∧ (-9223372036854775808 ≤ d.n ∧ d.n ≤ 9223372036854775807)

set_option maxRecDepth 100000 in
theorem open_Op {H : Type} {enc : TypeId × Value → H} {W : World} {r : Reach} {b0 : Nat} {v : Value} {d : DataW H} {p : List MemPlace}
    (hv : Value.okWide Tryd.prog W r b0 24 v) (h : DataW.Trod enc Tryd.prog W 0 (fun _ => true) true 24 v d p) : ∃ D, VOp W v D ∧ rngOp D ∧ intOp D := by
  obtain ⟨c0, c1, c2, c3, y0, y1, y2, y3, n, rfl, rfl, rfl, h0, h1, h2, h3⟩ := open_agg4 Tryd.underlying24 (by kernel_rfl) (by kernel_rfl) hv h
  obtain ⟨k, rfl, k1, k2⟩ := int_of_trod h0
  obtain ⟨ky, rk, hk⟩ := rv_of_trod h1
  obtain ⟨vl, rv, hvl⟩ := rv_of_trod h2
  obtain ⟨q, rfl, q1, q2⟩ := int_of_trod h3
  exact ⟨⟨k, ky, vl, q⟩, ⟨c1, c2, rfl, rk, rv⟩, ⟨hk, hvl⟩, ⟨k1, k2⟩, ⟨q1, q2⟩⟩

end Go.Proofs.YtfhebefepgnmnaaDoor
