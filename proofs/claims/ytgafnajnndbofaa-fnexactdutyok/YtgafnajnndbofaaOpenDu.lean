
/- Arguments opened: a duty that came in reads as data. -/
import Derived.Test.YtgafnajnndbofaaDy0
import Derived.Test.YtgafnajnndbofaaOpenW
namespace Go.Proofs.Ytgafnajnndbofaa
open Go.ChangeShapes Go.WideShapes Go.ChangeAt Go.RowKit Go.Joins

theorem array3 {cs : Array Value} (h : cs.size = 3) : ∃ a b c, cs = #[a, b, c] := by
  obtain ⟨l⟩ := cs
  match l, h with
  | [a, b, c], _ => exact ⟨a, b, c, rfl⟩

set_option maxRecDepth 100000 in
theorem open_Duty {H : Type} {enc : TypeId × Value → H} {W : World} {r : Reach} {b0 : Nat} {v : Value} {d : DataW H} {p : List MemPlace}
    (hv : Value.okWide Try.prog W r b0 26 v) (h : DataW.Trod enc Try.prog W 0 (fun _ => true) true 26 v d p) : ∃ D, VDuty W v D := by
  obtain ⟨cs, rfl, hsz⟩ := okWide_struct Try.underlying26 hv
  have h6 : Try.prog.cellsOf 26 = 3 := by kernel_rfl
  obtain ⟨c0, c1, c2, rfl⟩ := array3 (hsz.trans h6)
  obtain ⟨fuel, hf⟩ := h
  obtain ⟨xs, n, _, _, _, hxl, hx⟩ := DataW.trod_struct Try.underlying26 hf
  match xs, hxl with
  | [y0, y1], _ =>
    have h0 : DataW.trod enc Try.prog W 0 (fun _ => true) true n 3 [c0] = some y0 := hx 0 _ rfl
    have h1 : DataW.trod enc Try.prog W 0 (fun _ => true) true n 24 [c1, c2] = some y1 := hx 1 _ rfl
    obtain ⟨zs, m, _, _, _, hzl, hz⟩ := DataW.trod_struct Try.underlying24 h1
    match zs, hzl with
    | [z0, z1], _ =>
      have g0 : DataW.trod enc Try.prog W 0 (fun _ => true) true m 3 [c1] = some z0 := hz 0 _ rfl
      have g1 : DataW.trod enc Try.prog W 0 (fun _ => true) true m 22 [c2] = some z1 := hz 1 _ rfl
      obtain ⟨t, rfl, _, _⟩ := int_of_trod h0
      obtain ⟨q0, rfl, _, _⟩ := int_of_trod g0
      obtain ⟨ts, v1⟩ := tims_of_trod g1
      exact ⟨⟨t, ⟨q0, ts⟩⟩, c2, rfl, v1⟩

end Go.Proofs.Ytgafnajnndbofaa
