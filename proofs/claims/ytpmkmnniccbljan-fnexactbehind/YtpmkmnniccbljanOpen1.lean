/- Arguments opened: an operation or a command that came in reads as data. -/
import Derived.Test.YtpmkmnniccbljanCm1
import Derived.Test.YtpmkmnniccbljanOpen0
import Derived.ProofKit
import Derived.OpenShut
import Derived.Lib.SmallJoins
namespace Go.Proofs.Ytpmkmnniccbljan
open Go.ChangeShapes Go.WideShapes Go.ChangeAt Go.RowKit Go.Joins

def intOp (d : DOp) : Prop := (-9223372036854775808 ≤ d.kind ∧ d.kind ≤ 9223372036854775807) ∧ (-9223372036854775808 ≤ d.n ∧ d.n ≤ 9223372036854775807)

set_option maxRecDepth 100000 in
theorem open_Op {H : Type} {enc : TypeId × Value → H} {W : World} {r : Reach} {b0 : Nat} {v : Value} {d : DataW H} {p : List MemPlace}
    (hv : Value.okWide Try.prog W r b0 50 v) (h : DataW.Trod enc Try.prog W 0 (fun _ => true) true 50 v d p) : ∃ D, VOp W v D ∧ rngOp D ∧ intOp D := by
  obtain ⟨c0, c1, c2, c3, y0, y1, y2, y3, n, rfl, rfl, rfl, h0, h1, h2, h3⟩ := open_agg4 Try.underlying50 (by kernel_rfl) (by kernel_rfl) hv h
  obtain ⟨k, rfl, k1, k2⟩ := int_of_trod h0
  obtain ⟨ky, rk, hk⟩ := rv_of_trod h1
  obtain ⟨vl, rv, hvl⟩ := rv_of_trod h2
  obtain ⟨q, rfl, q1, q2⟩ := int_of_trod h3
  exact ⟨⟨k, ky, vl, q⟩, ⟨c1, c2, rfl, rk, rv⟩, ⟨hk, hvl⟩, ⟨k1, k2⟩, ⟨q1, q2⟩⟩

set_option maxRecDepth 100000 in
theorem open_Cmd {H : Type} {enc : TypeId × Value → H} {W : World} {r : Reach} {b0 : Nat} {v : Value} {d : DataW H} {p : List MemPlace}
    (hv : Value.okWide Try.prog W r b0 98 v) (h : DataW.Trod enc Try.prog W 0 (fun _ => true) true 98 v d p) : ∃ D, VCmd W v D ∧ rngOp D.op ∧ intOp D.op ∧ (-9223372036854775808 ≤ D.client ∧ D.client ≤ 9223372036854775807) ∧ (-9223372036854775808 ≤ D.req ∧ D.req ≤ 9223372036854775807) := by
  obtain ⟨cs, rfl, hsz⟩ := okWide_struct Try.underlying98 hv
  have h6 : Try.prog.cellsOf 98 = 6 := by kernel_rfl
  obtain ⟨c0, c1, c2, c3, c4, c5, rfl⟩ := array6 (hsz.trans h6)
  obtain ⟨fuel, hf⟩ := h
  obtain ⟨xs, n, _, _, _, hxl, hx⟩ := DataW.trod_struct Try.underlying98 hf
  match xs, hxl with
  | [y0, y1, y2], _ =>
    have h0 : DataW.trod enc Try.prog W 0 (fun _ => true) true n 3 [c0] = some y0 := hx 0 _ rfl
    have h1 : DataW.trod enc Try.prog W 0 (fun _ => true) true n 3 [c1] = some y1 := hx 1 _ rfl
    have h2 : DataW.trod enc Try.prog W 0 (fun _ => true) true n 50 [c2, c3, c4, c5] = some y2 := hx 2 _ rfl
    obtain ⟨zs, m, _, _, _, hzl, hz⟩ := DataW.trod_struct Try.underlying50 h2
    match zs, hzl with
    | [z0, z1, z2, z3], _ =>
      have g0 : DataW.trod enc Try.prog W 0 (fun _ => true) true m 3 [c2] = some z0 := hz 0 _ rfl
      have g1 : DataW.trod enc Try.prog W 0 (fun _ => true) true m 48 [c3] = some z1 := hz 1 _ rfl
      have g2 : DataW.trod enc Try.prog W 0 (fun _ => true) true m 48 [c4] = some z2 := hz 2 _ rfl
      have g3 : DataW.trod enc Try.prog W 0 (fun _ => true) true m 3 [c5] = some z3 := hz 3 _ rfl
      obtain ⟨cl, rfl, a1, a2⟩ := int_of_trod h0
      obtain ⟨rq, rfl, b1, b2⟩ := int_of_trod h1
      obtain ⟨k, rfl, k1, k2⟩ := int_of_trod g0
      obtain ⟨ky, rk, hk⟩ := rv_of_trod g1
      obtain ⟨vl, rv, hvl⟩ := rv_of_trod g2
      obtain ⟨q, rfl, q1, q2⟩ := int_of_trod g3
      exact ⟨⟨cl, rq, ⟨k, ky, vl, q⟩⟩, ⟨c3, c4, rfl, rk, rv⟩, ⟨hk, hvl⟩, ⟨⟨k1, k2⟩, ⟨q1, q2⟩⟩, ⟨a1, a2⟩, ⟨b1, b2⟩⟩

end Go.Proofs.Ytpmkmnniccbljan
