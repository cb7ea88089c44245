/- Arguments opened: an operation or a command that came in reads as data. -/
import Derived.Test.YtkloodicbhcijakCm1
import Derived.ProofKit
import Derived.OpenShut
import Derived.Lib.SmallJoins
namespace Go.Proofs.Ytkloodicbhcijak
open Go.ChangeShapes Go.WideShapes Go.ChangeAt Go.RowKit Go.Joins

section
variable {H : Type} {enc : TypeId × Value → H} {W : World} {fuel : Nat} {v : Value} {y : DataW H × List MemPlace}

theorem rv_of_trod (h : DataW.trod enc Try.prog W 0 (fun _ => true) true fuel 28 [v] = some y) : ∃ xs, RV W v xs ∧ ∀ x ∈ xs, 0 ≤ x ∧ x ≤ 255 := by
  rcases open_ints Try.underlying28 Try.underlying5 (by kernel_rfl) h with ⟨hcs, _⟩ | ⟨x, len, cap, zs, hcs, _, hl, hm, hz, _, hcell, hwz⟩
  · simp only [List.cons.injEq, and_true] at hcs
    subst hcs
    exact ⟨[], ⟨none, 0, rfl, Rd.nil _ _, Nat.le_refl _, Nat.zero_le _⟩, fun x hx => by cases hx⟩
  · simp only [List.cons.injEq, and_true] at hcs
    subst hcs
    have hz' : zs.length = cap := by simpa using hz
    have hln : (zs.take len).length = len := by simp; omega
    have hrng : ∀ n ∈ zs.take len, 0 ≤ n ∧ n ≤ 255 := fun n hn => by
      have := hwz n (List.mem_of_mem_take hn)
      simp [Lit.wf, IntKind.min, IntKind.max, IntKind.signed, IntKind.bits] at this
      omega
    refine ⟨zs.take len, ⟨some x, cap, by rw [hln], ⟨rfl, fun i hi => ?_, hrng⟩, by omega, hm⟩, hrng⟩
    rw [hln] at hi
    obtain ⟨b, off, spot⟩ := x
    have hspot : spot = none := by simpa [Addr.add] using World.cell?_spot (hcell 0 (by omega))
    subst hspot
    have hc := hcell i (by omega)
    refine ⟨b, off, rfl, ?_⟩
    rw [Addr.add_lit] at hc
    rw [hc]
    simp [List.getD, hi]

theorem int_of_trod (h : DataW.trod enc Try.prog W 0 (fun _ => true) true fuel 3 [v] = some y) : ∃ q : Int, v = .int .i64 q ∧ -9223372036854775808 ≤ q ∧ q ≤ 9223372036854775807 := by
  obtain ⟨q, e0, rfl, wa⟩ := DataW.trod_int Try.underlying3 h
  simp only [List.cons.injEq, and_true] at e0
  subst e0
  simp [Lit.wf, IntKind.min, IntKind.max, IntKind.signed, IntKind.bits] at wa
  exact ⟨q, rfl, by omega, by omega⟩
end

def intOp (d : DOp) : Prop := (-9223372036854775808 ≤ d.kind ∧ d.kind ≤ 9223372036854775807) ∧ (-9223372036854775808 ≤ d.n ∧ d.n ≤ 9223372036854775807)

set_option maxRecDepth 100000 in
theorem open_Op {H : Type} {enc : TypeId × Value → H} {W : World} {r : Reach} {b0 : Nat} {v : Value} {d : DataW H} {p : List MemPlace}
    (hv : Value.okWide Try.prog W r b0 @T:laws.Op@ v) (h : DataW.Trod enc Try.prog W 0 (fun _ => true) true @T:laws.Op@ v d p) : ∃ D, VOp W v D ∧ rngOp D ∧ intOp D := by
  obtain ⟨c0, c1, c2, c3, y0, y1, y2, y3, n, rfl, rfl, rfl, h0, h1, h2, h3⟩ := open_agg4 Try.underlying@T:laws.Op@ (by kernel_rfl) (by kernel_rfl) hv h
  obtain ⟨k, rfl, k1, k2⟩ := int_of_trod h0
  obtain ⟨ky, rk, hk⟩ := rv_of_trod h1
  obtain ⟨vl, rv, hvl⟩ := rv_of_trod h2
  obtain ⟨q, rfl, q1, q2⟩ := int_of_trod h3
  exact ⟨⟨k, ky, vl, q⟩, ⟨c1, c2, rfl, rk, rv⟩, ⟨hk, hvl⟩, ⟨k1, k2⟩, ⟨q1, q2⟩⟩

theorem array6 {cs : Array Value} (h : cs.size = 6) : ∃ a b c d e f, cs = #[a, b, c, d, e, f] := by
  obtain ⟨l⟩ := cs
  match l, h with
  | [a, b, c, d, e, f], _ => exact ⟨a, b, c, d, e, f, rfl⟩

set_option maxRecDepth 100000 in
theorem open_Cmd {H : Type} {enc : TypeId × Value → H} {W : World} {r : Reach} {b0 : Nat} {v : Value} {d : DataW H} {p : List MemPlace}
    (hv : Value.okWide Try.prog W r b0 @T:laws.Cmd@ v) (h : DataW.Trod enc Try.prog W 0 (fun _ => true) true @T:laws.Cmd@ v d p) : ∃ D, VCmd W v D ∧ rngOp D.op ∧ intOp D.op ∧ (-9223372036854775808 ≤ D.client ∧ D.client ≤ 9223372036854775807) ∧ (-9223372036854775808 ≤ D.req ∧ D.req ≤ 9223372036854775807) := by
  obtain ⟨cs, rfl, hsz⟩ := okWide_struct Try.underlying@T:laws.Cmd@ hv
  have h6 : Try.prog.cellsOf @T:laws.Cmd@ = 6 := by kernel_rfl
  obtain ⟨c0, c1, c2, c3, c4, c5, rfl⟩ := array6 (hsz.trans h6)
  obtain ⟨fuel, hf⟩ := h
  obtain ⟨xs, n, _, _, _, hxl, hx⟩ := DataW.trod_struct Try.underlying@T:laws.Cmd@ hf
  match xs, hxl with
  | [y0, y1, y2], _ =>
    have h0 : DataW.trod enc Try.prog W 0 (fun _ => true) true n 3 [c0] = some y0 := hx 0 _ rfl
    have h1 : DataW.trod enc Try.prog W 0 (fun _ => true) true n 3 [c1] = some y1 := hx 1 _ rfl
    have h2 : DataW.trod enc Try.prog W 0 (fun _ => true) true n @T:laws.Op@ [c2, c3, c4, c5] = some y2 := hx 2 _ rfl
    obtain ⟨zs, m, _, _, _, hzl, hz⟩ := DataW.trod_struct Try.underlying@T:laws.Op@ h2
    match zs, hzl with
    | [z0, z1, z2, z3], _ =>
      have g0 : DataW.trod enc Try.prog W 0 (fun _ => true) true m 3 [c2] = some z0 := hz 0 _ rfl
      have g1 : DataW.trod enc Try.prog W 0 (fun _ => true) true m 28 [c3] = some z1 := hz 1 _ rfl
      have g2 : DataW.trod enc Try.prog W 0 (fun _ => true) true m 28 [c4] = some z2 := hz 2 _ rfl
      have g3 : DataW.trod enc Try.prog W 0 (fun _ => true) true m 3 [c5] = some z3 := hz 3 _ rfl
      obtain ⟨cl, rfl, a1, a2⟩ := int_of_trod h0
      obtain ⟨rq, rfl, b1, b2⟩ := int_of_trod h1
      obtain ⟨k, rfl, k1, k2⟩ := int_of_trod g0
      obtain ⟨ky, rk, hk⟩ := rv_of_trod g1
      obtain ⟨vl, rv, hvl⟩ := rv_of_trod g2
      obtain ⟨q, rfl, q1, q2⟩ := int_of_trod g3
      exact ⟨⟨cl, rq, ⟨k, ky, vl, q⟩⟩, ⟨c3, c4, rfl, rk, rv⟩, ⟨hk, hvl⟩, ⟨⟨k1, k2⟩, ⟨q1, q2⟩⟩, ⟨a1, a2⟩, ⟨b1, b2⟩⟩

end Go.Proofs.Ytkloodicbhcijak
