/- An item that came in reads as data. -/
import Derived.Test.YtpmkmnniccbljanOpen1
import Derived.Test.YtpmkmnniccbljanIt1
namespace Go.Proofs.Ytpmkmnniccbljan
open Go.ChangeShapes Go.WideShapes Go.ChangeAt Go.RowKit Go.Joins

theorem array7 {cs : Array Value} (h : cs.size = 7) : ∃ a b c d e f g, cs = #[a, b, c, d, e, f, g] := by
  obtain ⟨l⟩ := cs
  match l, h with
  | [a, b, c, d, e, f, g], _ => exact ⟨a, b, c, d, e, f, g, rfl⟩

/-- What an item's numbers are bounded by. -/
def intItem (d : DItem) : Prop := intOp d.cmd.op ∧ (-9223372036854775808 ≤ d.cmd.client ∧ d.cmd.client ≤ 9223372036854775807) ∧ (-9223372036854775808 ≤ d.cmd.req ∧ d.cmd.req ≤ 9223372036854775807) ∧ (-9223372036854775808 ≤ d.term ∧ d.term ≤ 9223372036854775807)

section
variable {H : Type} {enc : TypeId × Value → H} {W : World} {fuel : Nat} {y : DataW H × List MemPlace}

set_option maxRecDepth 100000 in
/-- Seven cells that were trodden as an item read as one. -/
theorem item_of_trod {c0 c1 c2 c3 c4 c5 c6 : Value} (hf : DataW.trod enc Try.prog W 0 (fun _ => true) true fuel 100 [c0, c1, c2, c3, c4, c5, c6] = some y) : ∃ D, VItem W (.agg #[c0, c1, c2, c3, c4, c5, c6]) D ∧ rngOp D.cmd.op ∧ intItem D := by
  obtain ⟨xs, n, _, _, _, hxl, hx⟩ := DataW.trod_struct Try.underlying100 hf
  match xs, hxl with
  | [y0, y1], _ =>
    have h0 : DataW.trod enc Try.prog W 0 (fun _ => true) true n 3 [c0] = some y0 := hx 0 _ rfl
    have hC : DataW.trod enc Try.prog W 0 (fun _ => true) true n 98 [c1, c2, c3, c4, c5, c6] = some y1 := hx 1 _ rfl
    obtain ⟨us, n', _, _, _, hul, hu⟩ := DataW.trod_struct Try.underlying98 hC
    match us, hul with
    | [u0, u1, u2], _ =>
      have e0 : DataW.trod enc Try.prog W 0 (fun _ => true) true n' 3 [c1] = some u0 := hu 0 _ rfl
      have e1 : DataW.trod enc Try.prog W 0 (fun _ => true) true n' 3 [c2] = some u1 := hu 1 _ rfl
      have e2 : DataW.trod enc Try.prog W 0 (fun _ => true) true n' 50 [c3, c4, c5, c6] = some u2 := hu 2 _ rfl
      obtain ⟨zs, m, _, _, _, hzl, hz⟩ := DataW.trod_struct Try.underlying50 e2
      match zs, hzl with
      | [z0, z1, z2, z3], _ =>
        have g0 : DataW.trod enc Try.prog W 0 (fun _ => true) true m 3 [c3] = some z0 := hz 0 _ rfl
        have g1 : DataW.trod enc Try.prog W 0 (fun _ => true) true m 48 [c4] = some z1 := hz 1 _ rfl
        have g2 : DataW.trod enc Try.prog W 0 (fun _ => true) true m 48 [c5] = some z2 := hz 2 _ rfl
        have g3 : DataW.trod enc Try.prog W 0 (fun _ => true) true m 3 [c6] = some z3 := hz 3 _ rfl
        obtain ⟨tm, rfl, t1, t2⟩ := int_of_trod h0
        obtain ⟨cl, rfl, a1, a2⟩ := int_of_trod e0
        obtain ⟨rq, rfl, b1, b2⟩ := int_of_trod e1
        obtain ⟨k, rfl, k1, k2⟩ := int_of_trod g0
        obtain ⟨ky, rk, hk⟩ := rv_of_trod g1
        obtain ⟨vl, rv, hvl⟩ := rv_of_trod g2
        obtain ⟨q, rfl, q1, q2⟩ := int_of_trod g3
        exact ⟨⟨tm, ⟨cl, rq, ⟨k, ky, vl, q⟩⟩⟩, ⟨c4, c5, rfl, rk, rv⟩, ⟨hk, hvl⟩, ⟨⟨⟨k1, k2⟩, ⟨q1, q2⟩⟩, ⟨a1, a2⟩, ⟨b1, b2⟩, ⟨t1, t2⟩⟩⟩
end

set_option maxRecDepth 100000 in
theorem open_Item {H : Type} {enc : TypeId × Value → H} {W : World} {r : Reach} {b0 : Nat} {v : Value} {d : DataW H} {p : List MemPlace}
    (hv : Value.okWide Try.prog W r b0 100 v) (h : DataW.Trod enc Try.prog W 0 (fun _ => true) true 100 v d p) : ∃ D, VItem W v D ∧ rngOp D.cmd.op ∧ intItem D := by
  obtain ⟨cs, rfl, hsz⟩ := okWide_struct Try.underlying100 hv
  have h7 : Try.prog.cellsOf 100 = 7 := by kernel_rfl
  obtain ⟨c0, c1, c2, c3, c4, c5, c6, rfl⟩ := array7 (hsz.trans h7)
  obtain ⟨fuel, hf⟩ := h
  exact item_of_trod hf

end Go.Proofs.Ytpmkmnniccbljan
