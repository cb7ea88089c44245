
/- Arguments opened: a wheel that came in reads as data. -/
import Derived.Test.YtgafnajnndbofaaWh0
import Derived.Test.YtgafnajnndbofaaOpenS
namespace Go.Proofs.Ytgafnajnndbofaa
open Go.ChangeShapes Go.WideShapes Go.ChangeAt Go.RowKit Go.Joins

section
variable {H : Type} {enc : TypeId × Value → H} {W : World} {fuel : Nat} {v : Value} {y : DataW H × List MemPlace}

set_option maxRecDepth 100000 in
theorem tims_of_trod (h : DataW.trod enc Try.prog W 0 (fun _ => true) true fuel 22 [v] = some y) : ∃ rs, VTims W v rs := by
  obtain ⟨n, C, hS, m, D, hD⟩ := sl_of_trod (k := 2) Try.underlying22 (by kernel_rfl) (by omega) h
  obtain ⟨rs, hl, hr⟩ := list_of (p := fun i (r : DTim) => C i 0 = .int .i64 r.id ∧ C i 1 = .int .i64 r.due) n (fun i hi => by
    have hf := hD i hi
    obtain ⟨xs, n', _, _, _, hxl, hx⟩ := DataW.trod_struct Try.underlying74 hf
    match xs, hxl with
    | [y0, y1], _ =>
      have h0 : DataW.trod enc Try.prog W 0 (fun _ => true) true n' 3 [C i 0] = some y0 := hx 0 _ rfl
      have h1 : DataW.trod enc Try.prog W 0 (fun _ => true) true n' 3 [C i 1] = some y1 := hx 1 _ rfl
      obtain ⟨q, e1, _, _⟩ := int_of_trod h0
      obtain ⟨b, e2, _, _⟩ := int_of_trod h1
      exact ⟨⟨q, b⟩, e1, e2⟩)
  exact ⟨rs, C, by rw [hl]; exact hS, hr⟩
end

theorem array2 {cs : Array Value} (h : cs.size = 2) : ∃ a b, cs = #[a, b] := by
  obtain ⟨l⟩ := cs
  match l, h with
  | [a, b], _ => exact ⟨a, b, rfl⟩

set_option maxRecDepth 100000 in
theorem open_Wheel {H : Type} {enc : TypeId × Value → H} {W : World} {r : Reach} {b0 : Nat} {v : Value} {d : DataW H} {p : List MemPlace}
    (hv : Value.okWide Try.prog W r b0 24 v) (h : DataW.Trod enc Try.prog W 0 (fun _ => true) true 24 v d p) : ∃ D, VWheel W v D := by
  obtain ⟨cs, rfl, hsz⟩ := okWide_struct Try.underlying24 hv
  have h6 : Try.prog.cellsOf 24 = 2 := by kernel_rfl
  obtain ⟨c0, c1, rfl⟩ := array2 (hsz.trans h6)
  obtain ⟨fuel, hf⟩ := h
  obtain ⟨xs, n, _, _, _, hxl, hx⟩ := DataW.trod_struct Try.underlying24 hf
  match xs, hxl with
  | [y0, y1], _ =>
    have h0 : DataW.trod enc Try.prog W 0 (fun _ => true) true n 3 [c0] = some y0 := hx 0 _ rfl
    have h1 : DataW.trod enc Try.prog W 0 (fun _ => true) true n 22 [c1] = some y1 := hx 1 _ rfl
    obtain ⟨q0, rfl, a1, a2⟩ := int_of_trod h0
    obtain ⟨ts, v1⟩ := tims_of_trod h1
    exact ⟨⟨q0, ts⟩, c1, rfl, v1⟩

end Go.Proofs.Ytgafnajnndbofaa
