/- An argument opened: a move that came in reads as data. -/
import Derived.Test.YtdfjonamolgjnaaMo0
import Derived.Test.YtdfjonamolgjnaaOpZ
namespace Go.Proofs.Ytdfjonamolgjnaa
open Go.ChangeShapes Go.WideShapes Go.ChangeAt Go.RowKit Go.Joins

/-- The value v reads as the move m. -/
def VMo (_w : World) (v : Value) (m : DMov) : Prop := v = .agg #[.int .i64 m.kind, .int .i64 m.who, .int .i64 m.i]
def intMo (m : DMov) : Prop := (-9223372036854775808 ≤ m.kind ∧ m.kind ≤ 9223372036854775807) ∧ (-9223372036854775808 ≤ m.who ∧ m.who ≤ 9223372036854775807) ∧ (-9223372036854775808 ≤ m.i ∧ m.i ≤ 9223372036854775807)

theorem arr3 {cs : Array Value} (h : cs.size = 3) : ∃ a b c, cs = #[a, b, c] := by
  obtain ⟨l⟩ := cs
  match l, h with
  | [a, b, c], _ => exact ⟨a, b, c, rfl⟩

set_option maxRecDepth 100000 in
theorem open_Move {H : Type} {enc : TypeId × Value → H} {W : World} {r : Reach} {b0 : Nat} {v : Value} {d : DataW H} {p : List MemPlace}
    (hv : Value.okWide Try.prog W r b0 23 v) (h : DataW.Trod enc Try.prog W 0 (fun _ => true) true 23 v d p) : ∃ m, VMo W v m ∧ True ∧ intMo m := by
  obtain ⟨cs, rfl, hsz⟩ := okWide_struct Try.underlying23 hv
  have h6 : Try.prog.cellsOf 23 = 3 := by kernel_rfl
  obtain ⟨c0, c1, c2, rfl⟩ := arr3 (hsz.trans h6)
  obtain ⟨fuel, hf⟩ := h
  obtain ⟨xs, n, _, _, _, hxl, hx⟩ := DataW.trod_struct Try.underlying23 hf
  match xs, hxl with
  | [y0, y1, y2], _ =>
    have h0 : DataW.trod enc Try.prog W 0 (fun _ => true) true n 3 [c0] = some y0 := hx 0 _ rfl
    have h1 : DataW.trod enc Try.prog W 0 (fun _ => true) true n 3 [c1] = some y1 := hx 1 _ rfl
    have h2 : DataW.trod enc Try.prog W 0 (fun _ => true) true n 3 [c2] = some y2 := hx 2 _ rfl
    obtain ⟨q0, rfl, a1, a2⟩ := int_of_trod h0
    obtain ⟨q1, rfl, b1, b2⟩ := int_of_trod h1
    obtain ⟨q2, rfl, d1, d2⟩ := int_of_trod h2
    exact ⟨⟨q0, q1, q2⟩, rfl, trivial, ⟨a1, a2⟩, ⟨b1, b2⟩, ⟨d1, d2⟩⟩

end Go.Proofs.Ytdfjonamolgjnaa
