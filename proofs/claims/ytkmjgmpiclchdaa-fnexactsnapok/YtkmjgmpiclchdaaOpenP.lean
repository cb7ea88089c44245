/- Arguments opened: a snapshot that came in reads as data. -/
import Derived.Test.YtkmjgmpiclchdaaOpen3
import Derived.Test.YtkmjgmpiclchdaaSnA
namespace Go.Proofs.Ytkmjgmpiclchdaa
open Go.ChangeShapes Go.WideShapes Go.ChangeAt Go.RowKit Go.Joins

theorem arr7 {cs : Array Value} (h : cs.size = 7) : ∃ a b c d e f g, cs = #[a, b, c, d, e, f, g] := by
  obtain ⟨l⟩ := cs
  match l, h with
  | [a, b, c, d, e, f, g], _ => exact ⟨a, b, c, d, e, f, g, rfl⟩

section
variable {H : Type} {enc : TypeId × Value → H} {W : World} {fuel : Nat} {v : Value} {y : DataW H × List MemPlace}

set_option maxRecDepth 100000 in
theorem cmds_of_trod (h : DataW.trod enc Try.prog W 0 (fun _ => true) true fuel 28 [v] = some y) : ∃ rs, VCmds W v rs := by
  obtain ⟨n, C, hS, m, D, hD⟩ := sl_of_trod (k := 6) Try.underlying28 (by kernel_rfl) (by omega) h
  obtain ⟨rs, hl, hr⟩ := list_of (p := fun i (d : DCmd) => C i 0 = .int .i64 d.client ∧ C i 1 = .int .i64 d.req ∧ C i 2 = .int .i64 d.op.kind ∧ RV W (C i 3) d.op.key ∧ RV W (C i 4) d.op.val ∧ C i 5 = .int .i64 d.op.n) n (fun i hi => by
    have hC : DataW.trod enc Try.prog W 0 (fun _ => true) true m 67 [C i 0, C i 1, C i 2, C i 3, C i 4, C i 5] = some (D i) := hD i hi
    obtain ⟨us, n', _, _, _, hul, hu⟩ := DataW.trod_struct Try.underlying67 hC
    match us, hul with
    | [u0, u1, u2], _ =>
      have e0 : DataW.trod enc Try.prog W 0 (fun _ => true) true n' 3 [C i 0] = some u0 := hu 0 _ rfl
      have e1 : DataW.trod enc Try.prog W 0 (fun _ => true) true n' 3 [C i 1] = some u1 := hu 1 _ rfl
      have e2 : DataW.trod enc Try.prog W 0 (fun _ => true) true n' 65 [C i 2, C i 3, C i 4, C i 5] = some u2 := hu 2 _ rfl
      obtain ⟨zs, m, _, _, _, hzl, hz⟩ := DataW.trod_struct Try.underlying65 e2
      match zs, hzl with
      | [z0, z1, z2, z3], _ =>
        have g0 : DataW.trod enc Try.prog W 0 (fun _ => true) true m 3 [C i 2] = some z0 := hz 0 _ rfl
        have g1 : DataW.trod enc Try.prog W 0 (fun _ => true) true m 49 [C i 3] = some z1 := hz 1 _ rfl
        have g2 : DataW.trod enc Try.prog W 0 (fun _ => true) true m 49 [C i 4] = some z2 := hz 2 _ rfl
        have g3 : DataW.trod enc Try.prog W 0 (fun _ => true) true m 3 [C i 5] = some z3 := hz 3 _ rfl
        obtain ⟨cl, x0, _, _⟩ := int_of_trod e0
        obtain ⟨rq, x1, _, _⟩ := int_of_trod e1
        obtain ⟨k, x2, _, _⟩ := int_of_trod g0
        obtain ⟨ky, rk, _⟩ := rv_of_trod g1
        obtain ⟨vl, rv, _⟩ := rv_of_trod g2
        obtain ⟨q, x5, _, _⟩ := int_of_trod g3
        exact ⟨⟨cl, rq, ⟨k, ky, vl, q⟩⟩, x0, x1, x2, rk, rv, x5⟩)
  exact ⟨rs, C, by rw [hl]; exact hS, hr⟩

set_option maxRecDepth 100000 in
theorem state_of_trod {c0 c1 c2 c3 c4 c5 : Value} (hf : DataW.trod enc Try.prog W 0 (fun _ => true) true fuel 27 [c0, c1, c2, c3, c4, c5] = some y) : ∃ S, VState W (.agg #[c0, c1, c2, c3, c4, c5]) S ∧ rngSt S ∧ intSt S := by
  obtain ⟨xs, n, _, _, _, hxl, hx⟩ := DataW.trod_struct Try.underlying27 hf
  match xs, hxl with
  | [y0, y1, y2, y3, y4, y5], _ =>
    have h0 : DataW.trod enc Try.prog W 0 (fun _ => true) true n 3 [c0] = some y0 := hx 0 _ rfl
    have h1 : DataW.trod enc Try.prog W 0 (fun _ => true) true n 22 [c1] = some y1 := hx 1 _ rfl
    have h2 : DataW.trod enc Try.prog W 0 (fun _ => true) true n 23 [c2] = some y2 := hx 2 _ rfl
    have h3 : DataW.trod enc Try.prog W 0 (fun _ => true) true n 3 [c3] = some y3 := hx 3 _ rfl
    have h4 : DataW.trod enc Try.prog W 0 (fun _ => true) true n 24 [c4] = some y4 := hx 4 _ rfl
    have h5 : DataW.trod enc Try.prog W 0 (fun _ => true) true n 25 [c5] = some y5 := hx 5 _ rfl
    obtain ⟨q0, rfl, a1, a2⟩ := int_of_trod h0
    obtain ⟨q3, rfl, b1, b2⟩ := int_of_trod h3
    obtain ⟨rs, v1⟩ := rows_of_trod h1
    obtain ⟨ts, v2⟩ := tombs_of_trod h2
    obtain ⟨ss, v4⟩ := sess_of_trod h4
    obtain ⟨ls, v5⟩ := lasts_of_trod h5
    have V : VState W (.agg #[.int .i64 q0, c1, c2, .int .i64 q3, c4, c5]) ⟨q0, rs, ts, q3, ss, ls⟩ := ⟨c1, c2, c4, c5, rfl, v1, v2, v4, v5⟩
    exact ⟨_, V, rngSt_of V, ⟨a1, a2⟩, ⟨b1, b2⟩⟩
end

set_option maxRecDepth 100000 in
theorem open_Snap {H : Type} {enc : TypeId × Value → H} {W : World} {r : Reach} {b0 : Nat} {v : Value} {d : DataW H} {p : List MemPlace}
    (hv : Value.okWide Try.prog W r b0 30 v) (h : DataW.Trod enc Try.prog W 0 (fun _ => true) true 30 v d p) : ∃ P, VSnap W v P ∧ rngSt P.base ∧ intSt P.base := by
  obtain ⟨cs, rfl, hsz⟩ := okWide_struct Try.underlying30 hv
  have h7 : Try.prog.cellsOf 30 = 7 := by kernel_rfl
  obtain ⟨c0, c1, c2, c3, c4, c5, c6, rfl⟩ := arr7 (hsz.trans h7)
  obtain ⟨fuel, hf⟩ := h
  obtain ⟨xs, n, _, _, _, hxl, hx⟩ := DataW.trod_struct Try.underlying30 hf
  match xs, hxl with
  | [y0, y1], _ =>
    have h0 : DataW.trod enc Try.prog W 0 (fun _ => true) true n 27 [c0, c1, c2, c3, c4, c5] = some y0 := hx 0 _ rfl
    have h1 : DataW.trod enc Try.prog W 0 (fun _ => true) true n 28 [c6] = some y1 := hx 1 _ rfl
    obtain ⟨S, V, hr, hi⟩ := state_of_trod h0
    obtain ⟨rs, vc⟩ := cmds_of_trod h1
    obtain ⟨rv, tv, sv, lv, e, v1, v2, v3, v4⟩ := V
    simp only [Value.agg.injEq, Array.mk.injEq, List.cons.injEq, and_true] at e
    obtain ⟨rfl, rfl, rfl, rfl, rfl, rfl⟩ := e
    exact ⟨⟨S, rs⟩, ⟨_, _, _, _, _, rfl, v1, v2, v3, v4, vc⟩, hr, hi⟩

end Go.Proofs.Ytkmjgmpiclchdaa
