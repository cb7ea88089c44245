/- Arguments opened: a table, a member that came in read as data. -/
import Derived.Test.YtfdklcmhafhbeaaTb1
import Derived.Test.YtfdklcmhafhbeaaOpenS
namespace Go.Proofs.Ytfdklcmhafhbeaa
open Go.ChangeShapes Go.WideShapes Go.ChangeAt Go.RowKit Go.Joins

/-- The value v reads as the member m. -/
def VMb (_w : World) (v : Value) (m : DMem) : Prop := v = .agg #[.int .i64 m.id, .int .i64 m.st, .int .i64 m.life]
def intMb (m : DMem) : Prop := (-9223372036854775808 ≤ m.id ∧ m.id ≤ 9223372036854775807) ∧ (-9223372036854775808 ≤ m.st ∧ m.st ≤ 9223372036854775807) ∧ (-9223372036854775808 ≤ m.life ∧ m.life ≤ 9223372036854775807)

section
variable {H : Type} {enc : TypeId × Value → H} {W : World} {fuel : Nat} {v : Value} {y : DataW H × List MemPlace}

set_option maxRecDepth 100000 in
theorem mems_of_trod (h : DataW.trod enc Try.prog W 0 (fun _ => true) true fuel 25 [v] = some y) : ∃ rs, VMem W v rs := by
  obtain ⟨n, C, hS, m, D, hD⟩ := sl_of_trod (k := 3) Try.underlying25 (by kernel_rfl) (by omega) h
  obtain ⟨rs, hl, hr⟩ := list_of (p := fun i (r : DMem) => C i 0 = .int .i64 r.id ∧ C i 1 = .int .i64 r.st ∧ C i 2 = .int .i64 r.life) n (fun i hi => by
    have hf := hD i hi
    obtain ⟨xs, n', _, _, _, hxl, hx⟩ := DataW.trod_struct Try.underlying75 hf
    match xs, hxl with
    | [y0, y1, y2], _ =>
      have h0 : DataW.trod enc Try.prog W 0 (fun _ => true) true n' 3 [C i 0] = some y0 := hx 0 _ rfl
      have h1 : DataW.trod enc Try.prog W 0 (fun _ => true) true n' 3 [C i 1] = some y1 := hx 1 _ rfl
      have h2 : DataW.trod enc Try.prog W 0 (fun _ => true) true n' 3 [C i 2] = some y2 := hx 2 _ rfl
      obtain ⟨q, e1, _, _⟩ := int_of_trod h0
      obtain ⟨b, e2, _, _⟩ := int_of_trod h1
      obtain ⟨c, e3, _, _⟩ := int_of_trod h2
      exact ⟨⟨q, b, c⟩, e1, e2, e3⟩)
  exact ⟨rs, C, by rw [hl]; exact hS, hr⟩
end

theorem arr2 {cs : Array Value} (h : cs.size = 2) : ∃ a b, cs = #[a, b] := by
  obtain ⟨l⟩ := cs
  match l, h with
  | [a, b], _ => exact ⟨a, b, rfl⟩
theorem arr3 {cs : Array Value} (h : cs.size = 3) : ∃ a b c, cs = #[a, b, c] := by
  obtain ⟨l⟩ := cs
  match l, h with
  | [a, b, c], _ => exact ⟨a, b, c, rfl⟩

set_option maxRecDepth 100000 in
theorem open_Table {H : Type} {enc : TypeId × Value → H} {W : World} {r : Reach} {b0 : Nat} {v : Value} {d : DataW H} {p : List MemPlace}
    (hv : Value.okWide Try.prog W r b0 27 v) (h : DataW.Trod enc Try.prog W 0 (fun _ => true) true 27 v d p) : ∃ D, VTab W v D := by
  obtain ⟨cs, rfl, hsz⟩ := okWide_struct Try.underlying27 hv
  have h6 : Try.prog.cellsOf 27 = 2 := by kernel_rfl
  obtain ⟨c0, c1, rfl⟩ := arr2 (hsz.trans h6)
  obtain ⟨fuel, hf⟩ := h
  obtain ⟨xs, n, _, _, _, hxl, hx⟩ := DataW.trod_struct Try.underlying27 hf
  match xs, hxl with
  | [y0, y1], _ =>
    have h0 : DataW.trod enc Try.prog W 0 (fun _ => true) true n 3 [c0] = some y0 := hx 0 _ rfl
    have h1 : DataW.trod enc Try.prog W 0 (fun _ => true) true n 25 [c1] = some y1 := hx 1 _ rfl
    obtain ⟨q0, rfl, a1, a2⟩ := int_of_trod h0
    obtain ⟨ts, v1⟩ := mems_of_trod h1
    exact ⟨⟨q0, ts⟩, c1, rfl, v1⟩

set_option maxRecDepth 100000 in
theorem open_Member {H : Type} {enc : TypeId × Value → H} {W : World} {r : Reach} {b0 : Nat} {v : Value} {d : DataW H} {p : List MemPlace}
    (hv : Value.okWide Try.prog W r b0 75 v) (h : DataW.Trod enc Try.prog W 0 (fun _ => true) true 75 v d p) : ∃ m, VMb W v m ∧ True ∧ intMb m := by
  obtain ⟨cs, rfl, hsz⟩ := okWide_struct Try.underlying75 hv
  have h6 : Try.prog.cellsOf 75 = 3 := by kernel_rfl
  obtain ⟨c0, c1, c2, rfl⟩ := arr3 (hsz.trans h6)
  obtain ⟨fuel, hf⟩ := h
  obtain ⟨xs, n, _, _, _, hxl, hx⟩ := DataW.trod_struct Try.underlying75 hf
  match xs, hxl with
  | [y0, y1, y2], _ =>
    have h0 : DataW.trod enc Try.prog W 0 (fun _ => true) true n 3 [c0] = some y0 := hx 0 _ rfl
    have h1 : DataW.trod enc Try.prog W 0 (fun _ => true) true n 3 [c1] = some y1 := hx 1 _ rfl
    have h2 : DataW.trod enc Try.prog W 0 (fun _ => true) true n 3 [c2] = some y2 := hx 2 _ rfl
    obtain ⟨q0, rfl, a1, a2⟩ := int_of_trod h0
    obtain ⟨q1, rfl, b1, b2⟩ := int_of_trod h1
    obtain ⟨q2, rfl, d1, d2⟩ := int_of_trod h2
    exact ⟨⟨q0, q1, q2⟩, rfl, trivial, ⟨a1, a2⟩, ⟨b1, b2⟩, ⟨d1, d2⟩⟩

end Go.Proofs.Ytfdklcmhafhbeaa
