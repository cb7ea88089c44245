/- Arguments opened: a message that came in reads as data. -/
import Derived.Test.YtpmkmnniccbljalOpenI
import Derived.Test.YtpmkmnniccbljalMsB
namespace Go.Proofs.Ytpmkmnniccbljal
open Go.ChangeShapes Go.WideShapes Go.ChangeAt Go.RowKit Go.Joins

theorem array9 {cs : Array Value} (h : cs.size = 9) : ∃ a b c d e f g i j, cs = #[a, b, c, d, e, f, g, i, j] := by
  obtain ⟨l⟩ := cs
  match l, h with
  | [a, b, c, d, e, f, g, i, j], _ => exact ⟨a, b, c, d, e, f, g, i, j, rfl⟩

set_option maxRecDepth 100000 in
theorem open_Msg {H : Type} {enc : TypeId × Value → H} {W : World} {r : Reach} {b0 : Nat} {v : Value} {d : DataW H} {p : List MemPlace}
    (hv : Value.okWide Try.prog W r b0 63 v) (h : DataW.Trod enc Try.prog W 0 (fun _ => true) true 63 v d p) : ∃ M, VMsg W v M ∧ True ∧ (-9223372036854775808 ≤ M.term ∧ M.term ≤ 9223372036854775807) := by
  obtain ⟨cs, rfl, hsz⟩ := okWide_struct Try.underlying63 hv
  have h9 : Try.prog.cellsOf 63 = 9 := by kernel_rfl
  obtain ⟨c0, c1, c2, c3, c4, c5, c6, c7, c8, rfl⟩ := array9 (hsz.trans h9)
  obtain ⟨fuel, hf⟩ := h
  obtain ⟨xs, n, _, _, _, hxl, hx⟩ := DataW.trod_struct Try.underlying63 hf
  match xs, hxl with
  | [y0, y1, y2, y3, y4, y5, y6, y7, y8], _ =>
    have h0 : DataW.trod enc Try.prog W 0 (fun _ => true) true n 3 [c0] = some y0 := hx 0 _ rfl
    have h1 : DataW.trod enc Try.prog W 0 (fun _ => true) true n 3 [c1] = some y1 := hx 1 _ rfl
    have h2 : DataW.trod enc Try.prog W 0 (fun _ => true) true n 3 [c2] = some y2 := hx 2 _ rfl
    have h3 : DataW.trod enc Try.prog W 0 (fun _ => true) true n 3 [c3] = some y3 := hx 3 _ rfl
    have h4 : DataW.trod enc Try.prog W 0 (fun _ => true) true n 3 [c4] = some y4 := hx 4 _ rfl
    have h5 : DataW.trod enc Try.prog W 0 (fun _ => true) true n 3 [c5] = some y5 := hx 5 _ rfl
    have h6 : DataW.trod enc Try.prog W 0 (fun _ => true) true n 61 [c6] = some y6 := hx 6 _ rfl
    have h7 : DataW.trod enc Try.prog W 0 (fun _ => true) true n 3 [c7] = some y7 := hx 7 _ rfl
    have h8 : DataW.trod enc Try.prog W 0 (fun _ => true) true n 4 [c8] = some y8 := hx 8 _ rfl
    obtain ⟨q0, rfl, _, _⟩ := int_of_trod h0
    obtain ⟨q1, rfl, _, _⟩ := int_of_trod h1
    obtain ⟨q2, rfl, _, _⟩ := int_of_trod h2
    obtain ⟨q3, rfl, a1, a2⟩ := int_of_trod h3
    obtain ⟨q4, rfl, _, _⟩ := int_of_trod h4
    obtain ⟨q5, rfl, _, _⟩ := int_of_trod h5
    obtain ⟨rs, v6⟩ := items_of_trod h6
    obtain ⟨q7, rfl, _, _⟩ := int_of_trod h7
    obtain ⟨q8, rfl⟩ := bool_of_trod h8
    exact ⟨⟨q0, q1, q2, q3, q4, q5, rs, q7, q8⟩, ⟨c6, rfl, v6⟩, trivial, a1, a2⟩

end Go.Proofs.Ytpmkmnniccbljal
