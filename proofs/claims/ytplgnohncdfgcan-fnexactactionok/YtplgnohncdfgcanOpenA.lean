/- An action that came in reads as data. -/
import Derived.Test.YtplgnohncdfgcanOpen0
import Derived.Test.YtplgnohncdfgcanAc0
import Derived.ProofKit
import Derived.OpenShut
import Derived.Lib.SmallJoins
namespace Go.Proofs.Ytplgnohncdfgcan
open Go.ChangeShapes Go.WideShapes Go.ChangeAt Go.RowKit Go.Joins

theorem array8 {cs : Array Value} (h : cs.size = 8) : ∃ a b c d e f g i, cs = #[a, b, c, d, e, f, g, i] := by
  obtain ⟨l⟩ := cs
  match l, h with
  | [a, b, c, d, e, f, g, i], _ => exact ⟨a, b, c, d, e, f, g, i, rfl⟩

set_option maxRecDepth 100000 in
theorem open_Action {H : Type} {enc : TypeId × Value → H} {W : World} {r : Reach} {b0 : Nat} {v : Value} {d : DataW H} {p : List MemPlace}
    (hv : Value.okWide Try.prog W r b0 52 v) (h : DataW.Trod enc Try.prog W 0 (fun _ => true) true 52 v d p) : ∃ D, VAct W v D ∧ rngAct D ∧ True := by
  obtain ⟨cs, rfl, hsz⟩ := okWide_struct Try.underlying52 hv
  have h8 : Try.prog.cellsOf 52 = 8 := by kernel_rfl
  obtain ⟨c0, c1, c2, c3, c4, c5, c6, c7, rfl⟩ := array8 (hsz.trans h8)
  obtain ⟨fuel, hf⟩ := h
  obtain ⟨us, n', _, _, _, hul, hu⟩ := DataW.trod_struct Try.underlying52 hf
  match us, hul with
  | [u0, u1, u2, u3, u4], _ =>
    have e0 : DataW.trod enc Try.prog W 0 (fun _ => true) true n' 3 [c0] = some u0 := hu 0 _ rfl
    have e1 : DataW.trod enc Try.prog W 0 (fun _ => true) true n' 3 [c1] = some u1 := hu 1 _ rfl
    have e2 : DataW.trod enc Try.prog W 0 (fun _ => true) true n' 3 [c2] = some u2 := hu 2 _ rfl
    have e3 : DataW.trod enc Try.prog W 0 (fun _ => true) true n' 50 [c3, c4, c5, c6] = some u3 := hu 3 _ rfl
    have e4 : DataW.trod enc Try.prog W 0 (fun _ => true) true n' 48 [c7] = some u4 := hu 4 _ rfl
    obtain ⟨zs, m, _, _, _, hzl, hz⟩ := DataW.trod_struct Try.underlying50 e3
    match zs, hzl with
    | [z0, z1, z2, z3], _ =>
      have g0 : DataW.trod enc Try.prog W 0 (fun _ => true) true m 3 [c3] = some z0 := hz 0 _ rfl
      have g1 : DataW.trod enc Try.prog W 0 (fun _ => true) true m 48 [c4] = some z1 := hz 1 _ rfl
      have g2 : DataW.trod enc Try.prog W 0 (fun _ => true) true m 48 [c5] = some z2 := hz 2 _ rfl
      have g3 : DataW.trod enc Try.prog W 0 (fun _ => true) true m 3 [c6] = some z3 := hz 3 _ rfl
      obtain ⟨kd, rfl, _, _⟩ := int_of_trod e0
      obtain ⟨nd, rfl, _, _⟩ := int_of_trod e1
      obtain ⟨ii, rfl, _, _⟩ := int_of_trod e2
      obtain ⟨k, rfl, k1, k2⟩ := int_of_trod g0
      obtain ⟨ky, rk, hk⟩ := rv_of_trod g1
      obtain ⟨vl, rv, hvl⟩ := rv_of_trod g2
      obtain ⟨q, rfl, q1, q2⟩ := int_of_trod g3
      obtain ⟨yk, ry, hy⟩ := rv_of_trod e4
      exact ⟨⟨kd, nd, ii, ⟨k, ky, vl, q⟩, yk⟩, ⟨c4, c5, c7, rfl, rk, rv, ry⟩, ⟨⟨hk, hvl⟩, hy⟩, trivial⟩

end Go.Proofs.Ytplgnohncdfgcan
