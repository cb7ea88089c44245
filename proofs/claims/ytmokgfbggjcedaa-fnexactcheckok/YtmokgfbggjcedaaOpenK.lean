
/- Arguments opened: a check that came in reads as data. -/
import Derived.Test.YtmokgfbggjcedaaOpen0
import Derived.Test.YtmokgfbggjcedaaCk0
namespace Go.Proofs.Ytmokgfbggjcedaa
open Go.ChangeShapes Go.WideShapes Go.ChangeAt Go.RowKit Go.Joins

theorem arr6 {cs : Array Value} (h : cs.size = 6) : ∃ a b c d e f, cs = #[a, b, c, d, e, f] := by
  obtain ⟨l⟩ := cs
  match l, h with
  | [a, b, c, d, e, f], _ => exact ⟨a, b, c, d, e, f, rfl⟩

set_option maxRecDepth 100000 in
theorem open_Check {H : Type} {enc : TypeId × Value → H} {W : World} {r : Reach} {b0 : Nat} {v : Value} {d : DataW H} {p : List MemPlace}
    (hv : Value.okWide Try.prog W r b0 24 v) (h : DataW.Trod enc Try.prog W 0 (fun _ => true) true 24 v d p) : ∃ D, VChk W v D := by
  obtain ⟨cs, rfl, hsz⟩ := okWide_struct Try.underlying24 hv
  have h6 : Try.prog.cellsOf 24 = 6 := by kernel_rfl
  obtain ⟨c0, c1, c2, c3, c4, c5, rfl⟩ := arr6 (hsz.trans h6)
  obtain ⟨fuel, hf⟩ := h
  obtain ⟨xs, n, _, _, _, hxl, hx⟩ := DataW.trod_struct Try.underlying24 hf
  match xs, hxl with
  | [y0, y1, y2, y3, y4, y5], _ =>
    have h0 : DataW.trod enc Try.prog W 0 (fun _ => true) true n 22 [c0] = some y0 := hx 0 _ rfl
    have h1 : DataW.trod enc Try.prog W 0 (fun _ => true) true n 3 [c1] = some y1 := hx 1 _ rfl
    have h2 : DataW.trod enc Try.prog W 0 (fun _ => true) true n 3 [c2] = some y2 := hx 2 _ rfl
    have h3 : DataW.trod enc Try.prog W 0 (fun _ => true) true n 3 [c3] = some y3 := hx 3 _ rfl
    have h4 : DataW.trod enc Try.prog W 0 (fun _ => true) true n 3 [c4] = some y4 := hx 4 _ rfl
    have h5 : DataW.trod enc Try.prog W 0 (fun _ => true) true n 3 [c5] = some y5 := hx 5 _ rfl
    obtain ⟨q1, rfl, _, _⟩ := int_of_trod h1
    obtain ⟨q2, rfl, _, _⟩ := int_of_trod h2
    obtain ⟨q3, rfl, _, _⟩ := int_of_trod h3
    obtain ⟨q4, rfl, _, _⟩ := int_of_trod h4
    obtain ⟨q5, rfl, _, _⟩ := int_of_trod h5
    obtain ⟨ts, v0, _⟩ := rv_of_trod h0
    exact ⟨⟨ts, q1, q2, q3, q4, q5⟩, c0, rfl, v0⟩

end Go.Proofs.Ytmokgfbggjcedaa
