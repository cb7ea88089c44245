
/- Arguments opened: a local that came in reads as data. -/
import Derived.Test.YtpnachakijpjkaaOpenKc
import Derived.Test.YtpnachakijpjkaaSvL
namespace Go.Proofs.Ytpnachakijpjkaa
open Go.ChangeShapes Go.WideShapes Go.ChangeAt Go.RowKit Go.Joins

set_option maxRecDepth 100000 in
theorem svcs_of_trod {H : Type} {enc : TypeId × Value → H} {W : World} {fuel : Nat} {v : Value} {y : DataW H × List MemPlace} (h : DataW.trod enc Try.prog W 0 (fun _ => true) true fuel 23 [v] = some y) : ∃ rs, VSvcs W v rs := by
  obtain ⟨n, C, hS, m, D, hD⟩ := sl_of_trod (k := 2) Try.underlying23 (by kernel_rfl) (by omega) h
  obtain ⟨rs, hl, hr⟩ := list_of (p := fun i (d : DSvc) => RV W (C i 0) d.name ∧ VChks W (C i 1) d.checks) n (fun i hi => by
    have hC : DataW.trod enc Try.prog W 0 (fun _ => true) true m 80 [C i 0, C i 1] = some (D i) := hD i hi
    obtain ⟨us, n', _, _, _, hul, hu⟩ := DataW.trod_struct Try.underlying80 hC
    match us, hul with
    | [u0, u1], _ =>
      have e0 : DataW.trod enc Try.prog W 0 (fun _ => true) true n' 22 [C i 0] = some u0 := hu 0 _ rfl
      have e1 : DataW.trod enc Try.prog W 0 (fun _ => true) true n' 78 [C i 1] = some u1 := hu 1 _ rfl
      obtain ⟨ts, r0, _⟩ := rv_of_trod e0
      obtain ⟨cs, r1⟩ := chks_of_trod e1
      exact ⟨⟨ts, cs⟩, r0, r1⟩)
  exact ⟨rs, C, by rw [hl]; exact hS, hr⟩

theorem arr2L {cs : Array Value} (h : cs.size = 2) : ∃ a b, cs = #[a, b] := by
  obtain ⟨l⟩ := cs
  match l, h with
  | [a, b], _ => exact ⟨a, b, rfl⟩

set_option maxRecDepth 100000 in
theorem open_Local {H : Type} {enc : TypeId × Value → H} {W : World} {r : Reach} {b0 : Nat} {v : Value} {d : DataW H} {p : List MemPlace}
    (hv : Value.okWide Try.prog W r b0 25 v) (h : DataW.Trod enc Try.prog W 0 (fun _ => true) true 25 v d p) : ∃ D, VLoc W v D := by
  obtain ⟨cs, rfl, hsz⟩ := okWide_struct Try.underlying25 hv
  have h6 : Try.prog.cellsOf 25 = 2 := by kernel_rfl
  obtain ⟨c0, c1, rfl⟩ := arr2L (hsz.trans h6)
  obtain ⟨fuel, hf⟩ := h
  obtain ⟨xs, n, _, _, _, hxl, hx⟩ := DataW.trod_struct Try.underlying25 hf
  match xs, hxl with
  | [y0, y1], _ =>
    have h0 : DataW.trod enc Try.prog W 0 (fun _ => true) true n 22 [c0] = some y0 := hx 0 _ rfl
    have h1 : DataW.trod enc Try.prog W 0 (fun _ => true) true n 23 [c1] = some y1 := hx 1 _ rfl
    obtain ⟨ts, r0, _⟩ := rv_of_trod h0
    obtain ⟨ss, r1⟩ := svcs_of_trod h1
    exact ⟨⟨ts, ss⟩, c0, c1, rfl, r0, r1⟩

end Go.Proofs.Ytpnachakijpjkaa
