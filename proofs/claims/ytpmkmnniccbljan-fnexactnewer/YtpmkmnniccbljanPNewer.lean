/- The exact statement of Newer holds, without a condition. -/
import Derived.Test.YtpmkmnniccbljanOpenI
import Derived.Test.YtpmkmnniccbljanNdB
import Derived.Test.YtpmkmnniccbljanLNewer
import Derived.Test.YtpmkmnniccbljanNdN
import Derived.Test.YtpmkmnniccbljanRows
import Derived.ProofKit
import Derived.OpenShut
import Derived.ChangeOld
import Derived.Carry
namespace Go.Proofs.Ytpmkmnniccbljan
open Go.ChangeShapes Go.WideShapes Go.ChangeAt Go.RowKit Go.Joins

theorem array11 {cs : Array Value} (h : cs.size = 11) : ∃ c0 c1 c2 c3 c4 c5 c6 c7 c8 c9 c10, cs = #[c0, c1, c2, c3, c4, c5, c6, c7, c8, c9, c10] := by
  obtain ⟨l⟩ := cs
  match l, h with
  | [c0, c1, c2, c3, c4, c5, c6, c7, c8, c9, c10], _ => exact ⟨c0, c1, c2, c3, c4, c5, c6, c7, c8, c9, c10, rfl⟩

theorem vl_of_SL {α : Type} {f : α → Value} {w : World} {v : Value} {xs : List α} {C : Nat → Nat → Value} (h : SL w 1 v xs.length C) (hC : ∀ (i : Nat) (x : α), xs[i]? = some x → C i 0 = f x) : VL f w v xs := by
  obtain ⟨a, cap, hv, h1, h2, h3⟩ := h
  refine ⟨a, cap, hv, h1, h2, fun hn => ?_⟩
  obtain ⟨b, o, ha, hb, hc⟩ := h3 hn
  refine ⟨b, o, ha, hb, fun i x hx => ?_⟩
  have := hc i (List.getElem?_eq_some_iff.1 hx).1 0 (by omega)
  rw [Nat.mul_one, Nat.add_zero] at this
  rw [this, hC i x hx]

section
variable {H : Type} {enc : TypeId × Value → H} {W : World} {fuel : Nat} {v : Value} {y : DataW H × List MemPlace}

set_option maxRecDepth 100000 in
theorem ints_of_trod (h : DataW.trod enc Try.prog W 0 (fun _ => true) true fuel 24 [v] = some y) : ∃ xs, VL fI W v xs := by
  obtain ⟨n, C, hS, m, D, hD⟩ := sl_of_trod (k := 1) Try.underlying24 (by kernel_rfl) (by omega) h
  obtain ⟨rs, hl, hr⟩ := list_of (p := fun i (d : Int) => C i 0 = fI d) n (fun i hi => by
    have hf : DataW.trod enc Try.prog W 0 (fun _ => true) true m 3 [C i 0] = some (D i) := hD i hi
    obtain ⟨q, e, _, _⟩ := int_of_trod hf
    exact ⟨q, e⟩)
  exact ⟨rs, vl_of_SL (by rw [hl]; exact hS) hr⟩
set_option maxRecDepth 100000 in
theorem bools_of_trod (h : DataW.trod enc Try.prog W 0 (fun _ => true) true fuel 23 [v] = some y) : ∃ xs, VL fB W v xs := by
  obtain ⟨n, C, hS, m, D, hD⟩ := sl_of_trod (k := 1) Try.underlying23 (by kernel_rfl) (by omega) h
  obtain ⟨rs, hl, hr⟩ := list_of (p := fun i (d : Bool) => C i 0 = fB d) n (fun i hi => by
    have hf : DataW.trod enc Try.prog W 0 (fun _ => true) true m 4 [C i 0] = some (D i) := hD i hi
    obtain ⟨q, e⟩ := bool_of_trod hf
    exact ⟨q, e⟩)
  exact ⟨rs, vl_of_SL (by rw [hl]; exact hS) hr⟩
end

set_option maxRecDepth 100000 in
theorem open_Node {H : Type} {enc : TypeId × Value → H} {W : World} {r : Reach} {b0 : Nat} {v : Value} {d : DataW H} {p : List MemPlace}
    (hv : Value.okWide Try.prog W r b0 26 v) (h : DataW.Trod enc Try.prog W 0 (fun _ => true) true 26 v d p) : ∃ M, VNode W v M ∧ True ∧ (-9223372036854775808 ≤ M.term ∧ M.term ≤ 9223372036854775807) := by
  obtain ⟨cs, rfl, hsz⟩ := okWide_struct Try.underlying26 hv
  have h99 : Try.prog.cellsOf 26 = 11 := by kernel_rfl
  obtain ⟨c0, c1, c2, c3, c4, c5, c6, c7, c8, c9, c10, rfl⟩ := array11 (hsz.trans h99)
  obtain ⟨fuel, hf⟩ := h
  obtain ⟨xs, n, _, _, _, hxl, hx⟩ := DataW.trod_struct Try.underlying26 hf
  match xs, hxl with
  | [y0, y1, y2, y3, y4, y5, y6, y7, y8, y9, y10], _ =>
    have h0 : DataW.trod enc Try.prog W 0 (fun _ => true) true n 3 [c0] = some y0 := hx 0 _ rfl
    have h1 : DataW.trod enc Try.prog W 0 (fun _ => true) true n 3 [c1] = some y1 := hx 1 _ rfl
    have h2 : DataW.trod enc Try.prog W 0 (fun _ => true) true n 3 [c2] = some y2 := hx 2 _ rfl
    have h3 : DataW.trod enc Try.prog W 0 (fun _ => true) true n 22 [c3] = some y3 := hx 3 _ rfl
    have h4 : DataW.trod enc Try.prog W 0 (fun _ => true) true n 3 [c4] = some y4 := hx 4 _ rfl
    have h5 : DataW.trod enc Try.prog W 0 (fun _ => true) true n 3 [c5] = some y5 := hx 5 _ rfl
    have h6 : DataW.trod enc Try.prog W 0 (fun _ => true) true n 3 [c6] = some y6 := hx 6 _ rfl
    have h7 : DataW.trod enc Try.prog W 0 (fun _ => true) true n 3 [c7] = some y7 := hx 7 _ rfl
    have h8 : DataW.trod enc Try.prog W 0 (fun _ => true) true n 23 [c8] = some y8 := hx 8 _ rfl
    have h9 : DataW.trod enc Try.prog W 0 (fun _ => true) true n 24 [c9] = some y9 := hx 9 _ rfl
    have h10 : DataW.trod enc Try.prog W 0 (fun _ => true) true n 24 [c10] = some y10 := hx 10 _ rfl
    obtain ⟨q0, rfl, _, _⟩ := int_of_trod h0
    obtain ⟨q1, rfl, a1, z1⟩ := int_of_trod h1
    obtain ⟨q2, rfl, _, _⟩ := int_of_trod h2
    obtain ⟨q4, rfl, _, _⟩ := int_of_trod h4
    obtain ⟨q5, rfl, _, _⟩ := int_of_trod h5
    obtain ⟨q6, rfl, _, _⟩ := int_of_trod h6
    obtain ⟨q7, rfl, _, _⟩ := int_of_trod h7
    obtain ⟨q3, v3⟩ := items_of_trod h3
    obtain ⟨q8, v8⟩ := bools_of_trod h8
    obtain ⟨q9, v9⟩ := ints_of_trod h9
    obtain ⟨q10, v10⟩ := ints_of_trod h10
    exact ⟨⟨q0, q1, q2, q3, q4, q5, q6, q7, q8, q9, q10⟩, ⟨c3, c8, c9, c10, rfl, v3, v8, v9, v10⟩, trivial, a1, z1⟩

end Go.Proofs.Ytpmkmnniccbljan

namespace Go.Proofs.Ytpmkmnniccbljan
open Go.RowKit

theorem law_Newer (v : Value) (M : DNode) (s x y : Int) (w : World) (h : VNode w v M) (_h1 : True) (_h2 : -9223372036854775808 ≤ M.term ∧ M.term ≤ 9223372036854775807) (_a0 : -9223372036854775808 ≤ s) (_b0 : s ≤ 9223372036854775807) (_a1 : -9223372036854775808 ≤ x) (_b1 : x ≤ 9223372036854775807) (_a2 : -9223372036854775808 ≤ y) (_b2 : y ≤ 9223372036854775807) :
    Calls Try.prog 3 #[v, .int .i64 s, .int .i64 x, .int .i64 y] w fun e w' => e = .returned (.bool true) ∧ Below w.heap.size w w' :=
  law_Newer_of (fun M s x y => newerR M s x y) (fun v M s x y w h => sNewerV v M s x y w h) (fun v M s x y w h => iNewerV v M s x y w h) v M s x y w h

end Go.Proofs.Ytpmkmnniccbljan

namespace Go.Proofs.Ytpmkmnniccbljan
open Go.ChangeShapes Go.WideShapes Go.ChangeAt Go.RowKit

theorem own : ownKnob Try.prog.godebug = none := by kernel_rfl
theorem laidOut : laidOutB Try.prog = true := by kernel_rfl

theorem int_bd {q : Int} (h : (Lit.int .i64 q).wf = true) : -9223372036854775808 ≤ q ∧ q ≤ 9223372036854775807 := by
  simp [Lit.wf, IntKind.min, IntKind.max, IntKind.signed, IntKind.bits] at h
  omega

set_option maxRecDepth 100000 in
theorem lifted (os : Os) (started : os.Started) (H : Type) (enc : TypeId × Value → H) :
    ReturnsInHanded {} Try.checked os 3 .any (Rows.fnExactNewerSpec.pre6 enc Try.prog Try.f3 Rows.fnExactNewerRow.domain false) (Rows.fnExactNewerSpec.post enc Try.prog Try.f3 false true false false) := by
  refine returnsInHanded_of_change (C := Try.checked) own started (by kernel_rfl) Try.func3
    (ChangeSpec.witness6 (enc := enc) (C := Try.checked) false ⟨#[], #[.agg #[.int .i64 0, .int .i64 0, .int .i64 0, .slice none 0 0, .int .i64 0, .int .i64 0, .int .i64 0, .int .i64 0, .slice none 0 0, .slice none 0 0, .slice none 0 0], .int .i64 0, .int .i64 0, .int .i64 0], []⟩ 8 (by kernel_rfl) (by kernel_rfl) (by kernel_rfl) (by kernel_rfl)) ?_
  intro W base args ds gs before hval0 hW hcnd _
  have hval : ∀ (j : Nat) t v, Try.f3.params[j]? = some t → args[j]? = some v → Value.okWide Try.prog W .any base t v := hval0
  have hW' := hW
  obtain ⟨p, q, hA0, hV, rfl, hfz, hnd⟩ := hW
  have hA : DataW.TrodAll enc Try.prog W 0 (fun _ => true) true Try.f3.params.toList args.toList ds p := hA0
  rw [Try.params3] at hA hval
  obtain ⟨v0, vs0, d0, ds0, p0, q0, hargs, rfl, rfl, h0, r0⟩ := trodAll_cons hA
  obtain ⟨v1, vs1, d1, ds1, p1, q1, rfl, rfl, rfl, h1, r1⟩ := trodAll_cons r0
  obtain ⟨v2, vs2, d2, ds2, p2, q2, rfl, rfl, rfl, h2, r2⟩ := trodAll_cons r1
  obtain ⟨v3, vs3, d3, ds3, p3, q3, rfl, rfl, rfl, h3, r3⟩ := trodAll_cons r2
  obtain ⟨rfl, rfl, rfl⟩ := trodAll_nil r3
  obtain rfl : args = #[v0, v1, v2, v3] := by cases args; simp_all
  obtain ⟨rfl, rfl⟩ := trodVars_none hV
  have k0 := h0
  have lt0 : ∀ x ∈ p0, x.block < W.heap.size := by obtain ⟨m, hm⟩ := k0; exact DataW.trod_lt m _ _ _ hm
  obtain ⟨D0, w0⟩ := open_Node (hval 0 26 v0 rfl rfl) h0
  obtain ⟨a1, rfl, rfl, rfl, w1⟩ := open_int Try.underlying3 (hval 1 3 v1 rfl rfl) h1
  obtain ⟨a2, rfl, rfl, rfl, w2⟩ := open_int Try.underlying3 (hval 2 3 v2 rfl rfl) h2
  obtain ⟨a3, rfl, rfl, rfl, w3⟩ := open_int Try.underlying3 (hval 3 3 v3 rfl rfl) h3
  clear hA0 hval0
  refine (law_Newer v0 D0 a1 a2 a3 W w0.1 w0.2.1 w0.2.2 (int_bd w1).1 (int_bd w1).2 (int_bd w2).1 (int_bd w2).2 (int_bd w3).1 (int_bd w3).2).mono fun e W' ⟨he, bel⟩ => ?_
  subst he
  exact ⟨_, rfl, _, _, _, [], _, [], hW', trodAll_mk1 (shut_bool Try.underlying4 _), (trodAll_cons_mk (Below.trod laidOut (by kernel_rfl) (of_decide_eq_true (by kernel_rfl)) k0 bel lt0) (trodAll_cons_mk (shut_int Try.underlying3 w1) (trodAll_cons_mk (shut_int Try.underlying3 w2) (trodAll_cons_mk (shut_int Try.underlying3 w3) trodAll_mk0)))), rfl, bel.frame _, fun h => by cases h⟩

theorem over : Rows.fnExactNewerRow.holds Try.pinned (OpenSpec.ofChange Rows.fnExactNewerSpec) :=
  OpenClaim.holds_of_wide 3 Try.f3 rfl rfl rfl rfl rfl rfl rfl ⟨rfl, rfl, rfl, rfl, rfl⟩ rfl rfl rfl rfl rfl (by kernel_rfl) Try.func3 (by kernel_rfl)
    (of_decide_eq_true (by kernel_rfl)) (by unfold Func.isWrapper; first | (rw [if_pos (by decide +kernel)]; kernel_rfl) | (rw [if_neg (by decide +kernel)]; exact ⟨rfl, rfl⟩))
    (fun os started H enc _ => lifted os started H enc)

theorem proved : Rows.FnExactNewerSaid := over
#print axioms proved
end Go.Proofs.Ytpmkmnniccbljan

