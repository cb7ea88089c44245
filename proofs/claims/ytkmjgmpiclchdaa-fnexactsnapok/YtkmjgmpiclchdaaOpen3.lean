/- Arguments opened: a state that came in reads as data. -/
import Derived.Test.YtkmjgmpiclchdaaOpen0
import Derived.Test.YtkmjgmpiclchdaaToSt
import Derived.Test.YtkmjgmpiclchdaaOpenS
import Derived.Deep.Slices
namespace Go.Proofs.Ytkmjgmpiclchdaa
open Go.ChangeShapes Go.WideShapes Go.ChangeAt Go.RowKit Go.Joins

section
variable {H : Type} {enc : TypeId × Value → H} {W : World} {fuel : Nat} {v : Value} {y : DataW H × List MemPlace}

set_option maxRecDepth 100000 in
theorem rows_of_trod (h : DataW.trod enc Try.prog W 0 (fun _ => true) true fuel 22 [v] = some y) : ∃ rs, VRows W v rs := by
  obtain ⟨n, C, hS, m, D, hD⟩ := sl_of_trod (k := 4) Try.underlying22 (by kernel_rfl) (by omega) h
  obtain ⟨rs, hl, hr⟩ := list_of (p := fun i (r : DRow) => RV W (C i 0) r.key ∧ RV W (C i 1) r.val ∧ C i 2 = .int .i64 r.turned ∧ C i 3 = .int .i64 r.holder) n (fun i hi => by
    have hf := hD i hi
    obtain ⟨xs, n', _, _, _, hxl, hx⟩ := DataW.trod_struct Try.underlying96 hf
    match xs, hxl with
    | [y0, y1, y2, y3], _ =>
      have h0 : DataW.trod enc Try.prog W 0 (fun _ => true) true n' 49 [C i 0] = some y0 := hx 0 _ rfl
      have h1 : DataW.trod enc Try.prog W 0 (fun _ => true) true n' 49 [C i 1] = some y1 := hx 1 _ rfl
      have h2 : DataW.trod enc Try.prog W 0 (fun _ => true) true n' 3 [C i 2] = some y2 := hx 2 _ rfl
      have h3 : DataW.trod enc Try.prog W 0 (fun _ => true) true n' 3 [C i 3] = some y3 := hx 3 _ rfl
      obtain ⟨ky, rk, _⟩ := rv_of_trod h0
      obtain ⟨vl, rv, _⟩ := rv_of_trod h1
      obtain ⟨q, e2, _, _⟩ := int_of_trod h2
      obtain ⟨q', e3, _, _⟩ := int_of_trod h3
      exact ⟨⟨ky, vl, q, q'⟩, rk, rv, e2, e3⟩)
  exact ⟨rs, C, by rw [hl]; exact hS, hr⟩

set_option maxRecDepth 100000 in
theorem tombs_of_trod (h : DataW.trod enc Try.prog W 0 (fun _ => true) true fuel 23 [v] = some y) : ∃ rs, VTombs W v rs := by
  obtain ⟨n, C, hS, m, D, hD⟩ := sl_of_trod (k := 2) Try.underlying23 (by kernel_rfl) (by omega) h
  obtain ⟨rs, hl, hr⟩ := list_of (p := fun i (r : DTomb) => RV W (C i 0) r.key ∧ C i 1 = .int .i64 r.index) n (fun i hi => by
    have hf := hD i hi
    obtain ⟨xs, n', _, _, _, hxl, hx⟩ := DataW.trod_struct Try.underlying98 hf
    match xs, hxl with
    | [y0, y1], _ =>
      have h0 : DataW.trod enc Try.prog W 0 (fun _ => true) true n' 49 [C i 0] = some y0 := hx 0 _ rfl
      have h1 : DataW.trod enc Try.prog W 0 (fun _ => true) true n' 3 [C i 1] = some y1 := hx 1 _ rfl
      obtain ⟨ky, rk, _⟩ := rv_of_trod h0
      obtain ⟨q, e2, _, _⟩ := int_of_trod h1
      exact ⟨⟨ky, q⟩, rk, e2⟩)
  exact ⟨rs, C, by rw [hl]; exact hS, hr⟩

set_option maxRecDepth 100000 in
theorem sess_of_trod (h : DataW.trod enc Try.prog W 0 (fun _ => true) true fuel 24 [v] = some y) : ∃ rs, VSess W v rs := by
  obtain ⟨n, C, hS, m, D, hD⟩ := sl_of_trod (k := 2) Try.underlying24 (by kernel_rfl) (by omega) h
  obtain ⟨rs, hl, hr⟩ := list_of (p := fun i (r : DSess) => C i 0 = .int .i64 r.id ∧ C i 1 = .bool r.del) n (fun i hi => by
    have hf := hD i hi
    obtain ⟨xs, n', _, _, _, hxl, hx⟩ := DataW.trod_struct Try.underlying103 hf
    match xs, hxl with
    | [y0, y1], _ =>
      have h0 : DataW.trod enc Try.prog W 0 (fun _ => true) true n' 3 [C i 0] = some y0 := hx 0 _ rfl
      have h1 : DataW.trod enc Try.prog W 0 (fun _ => true) true n' 4 [C i 1] = some y1 := hx 1 _ rfl
      obtain ⟨q, e1, _, _⟩ := int_of_trod h0
      obtain ⟨b, e2⟩ := bool_of_trod h1
      exact ⟨⟨q, b⟩, e1, e2⟩)
  exact ⟨rs, C, by rw [hl]; exact hS, hr⟩

set_option maxRecDepth 100000 in
theorem lasts_of_trod (h : DataW.trod enc Try.prog W 0 (fun _ => true) true fuel 25 [v] = some y) : ∃ rs, VLasts W v rs := by
  obtain ⟨n, C, hS, m, D, hD⟩ := sl_of_trod (k := 4) Try.underlying25 (by kernel_rfl) (by omega) h
  obtain ⟨rs, hl, hr⟩ := list_of (p := fun i (r : DLast) => C i 0 = .int .i64 r.client ∧ C i 1 = .int .i64 r.req ∧ C i 2 = .int .i64 r.code ∧ C i 3 = .int .i64 r.index) n (fun i hi => by
    have hf := hD i hi
    obtain ⟨xs, n', _, _, _, hxl, hx⟩ := DataW.trod_struct Try.underlying107 hf
    match xs, hxl with
    | [y0, y1, y2], _ =>
      have h0 : DataW.trod enc Try.prog W 0 (fun _ => true) true n' 3 [C i 0] = some y0 := hx 0 _ rfl
      have h1 : DataW.trod enc Try.prog W 0 (fun _ => true) true n' 3 [C i 1] = some y1 := hx 1 _ rfl
      have h2 : DataW.trod enc Try.prog W 0 (fun _ => true) true n' 105 [C i 2, C i 3] = some y2 := hx 2 _ rfl
      obtain ⟨zs, n'', _, _, _, hzl, hz⟩ := DataW.trod_struct Try.underlying105 h2
      match zs, hzl with
      | [z0, z1], _ =>
        have g0 : DataW.trod enc Try.prog W 0 (fun _ => true) true n'' 3 [C i 2] = some z0 := hz 0 _ rfl
        have g1 : DataW.trod enc Try.prog W 0 (fun _ => true) true n'' 3 [C i 3] = some z1 := hz 1 _ rfl
        obtain ⟨q0, e0, _, _⟩ := int_of_trod h0
        obtain ⟨q1, e1, _, _⟩ := int_of_trod h1
        obtain ⟨q2, e2, _, _⟩ := int_of_trod g0
        obtain ⟨q3, e3, _, _⟩ := int_of_trod g1
        exact ⟨⟨q0, q1, q2, q3⟩, e0, e1, e2, e3⟩)
  exact ⟨rs, C, by rw [hl]; exact hS, hr⟩
end

/-- What a state's own numbers are bounded by. -/
def intSt (S : DState) : Prop := (-9223372036854775808 ≤ S.index ∧ S.index ≤ 9223372036854775807) ∧ (-9223372036854775808 ≤ S.lost ∧ S.lost ≤ 9223372036854775807)

set_option maxRecDepth 100000 in
theorem open_State {H : Type} {enc : TypeId × Value → H} {W : World} {r : Reach} {b0 : Nat} {v : Value} {d : DataW H} {p : List MemPlace}
    (hv : Value.okWide Try.prog W r b0 27 v) (h : DataW.Trod enc Try.prog W 0 (fun _ => true) true 27 v d p) : ∃ S, VState W v S ∧ rngSt S ∧ intSt S := by
  obtain ⟨cs, rfl, hsz⟩ := okWide_struct Try.underlying27 hv
  have h6 : Try.prog.cellsOf 27 = 6 := by kernel_rfl
  obtain ⟨c0, c1, c2, c3, c4, c5, rfl⟩ := array6 (hsz.trans h6)
  obtain ⟨fuel, hf⟩ := h
  obtain ⟨xs, n, _, _, _, hxl, hx⟩ := DataW.trod_struct Try.underlying27 hf
  match xs, hxl with
  | [y0, y1, y2, y3, y4, y5], _ =>
    have h0 : DataW.trod enc Try.prog W 0 (fun _ => true) true n 3 [c0] = some y0 := hx 0 _ rfl
    have h1 : DataW.trod enc Try.prog W 0 (fun _ => true) true n 22 [c1] = some y1 := hx 1 _ rfl
    have h2 : DataW.trod enc Try.prog W 0 (fun _ => true) true n 23 [c2] = some y2 := hx 2 _ rfl
    have h3 : DataW.trod enc Try.prog W 0 (fun _ => true) true n 3 [c3] = some y3 := hx 3 _ rfl
    have h4 : DataW.trod enc Try.prog W 0 (fun _ => true) true n 24 [c4] = some y4 := hx 4 _ rfl
    have h5 : DataW.trod enc Try.prog W 0 (fun _ => true) true n 25 [c5] = some y5 := hx 5 _ rfl
    obtain ⟨q0, rfl, a1, a2⟩ := int_of_trod h0
    obtain ⟨q3, rfl, b1, b2⟩ := int_of_trod h3
    obtain ⟨rs, v1⟩ := rows_of_trod h1
    obtain ⟨ts, v2⟩ := tombs_of_trod h2
    obtain ⟨ss, v4⟩ := sess_of_trod h4
    obtain ⟨ls, v5⟩ := lasts_of_trod h5
    have V : VState W (.agg #[.int .i64 q0, c1, c2, .int .i64 q3, c4, c5]) ⟨q0, rs, ts, q3, ss, ls⟩ := ⟨c1, c2, c4, c5, rfl, v1, v2, v4, v5⟩
    exact ⟨_, V, rngSt_of V, ⟨a1, a2⟩, ⟨b1, b2⟩⟩

end Go.Proofs.Ytkmjgmpiclchdaa
