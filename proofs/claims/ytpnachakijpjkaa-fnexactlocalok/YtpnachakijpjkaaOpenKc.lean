
/- A list of checks that was trodden reads as data. -/
import Derived.Test.YtpnachakijpjkaaOpen0
import Derived.Test.YtpnachakijpjkaaOpenS
import Derived.Test.YtpnachakijpjkaaLsK
namespace Go.Proofs.Ytpnachakijpjkaa
open Go.ChangeShapes Go.WideShapes Go.ChangeAt Go.RowKit Go.Joins

set_option maxRecDepth 100000 in
theorem chks_of_trod {H : Type} {enc : TypeId × Value → H} {W : World} {fuel : Nat} {v : Value} {y : DataW H × List MemPlace} (h : DataW.trod enc Try.prog W 0 (fun _ => true) true fuel 78 [v] = some y) : ∃ rs, VChks W v rs := by
  obtain ⟨n, C, hS, m, D, hD⟩ := sl_of_trod (k := 6) Try.underlying78 (by kernel_rfl) (by omega) h
  obtain ⟨rs, hl, hr⟩ := list_of (p := fun i (d : DChk) => RV W (C i 0) d.name ∧ C i 1 = .int .i64 d.ttl ∧ C i 2 = .int .i64 d.most ∧ C i 3 = .int .i64 d.st ∧ C i 4 = .int .i64 d.age ∧ C i 5 = .int .i64 d.fails) n (fun i hi => by
    have hC : DataW.trod enc Try.prog W 0 (fun _ => true) true m 42 [C i 0, C i 1, C i 2, C i 3, C i 4, C i 5] = some (D i) := hD i hi
    obtain ⟨us, n', _, _, _, hul, hu⟩ := DataW.trod_struct Try.underlying42 hC
    match us, hul with
    | [u0, u1, u2, u3, u4, u5], _ =>
      have e0 : DataW.trod enc Try.prog W 0 (fun _ => true) true n' 22 [C i 0] = some u0 := hu 0 _ rfl
      have e1 : DataW.trod enc Try.prog W 0 (fun _ => true) true n' 3 [C i 1] = some u1 := hu 1 _ rfl
      have e2 : DataW.trod enc Try.prog W 0 (fun _ => true) true n' 3 [C i 2] = some u2 := hu 2 _ rfl
      have e3 : DataW.trod enc Try.prog W 0 (fun _ => true) true n' 3 [C i 3] = some u3 := hu 3 _ rfl
      have e4 : DataW.trod enc Try.prog W 0 (fun _ => true) true n' 3 [C i 4] = some u4 := hu 4 _ rfl
      have e5 : DataW.trod enc Try.prog W 0 (fun _ => true) true n' 3 [C i 5] = some u5 := hu 5 _ rfl
      obtain ⟨ts, r0, _⟩ := rv_of_trod e0
      obtain ⟨q1, x1, _, _⟩ := int_of_trod e1
      obtain ⟨q2, x2, _, _⟩ := int_of_trod e2
      obtain ⟨q3, x3, _, _⟩ := int_of_trod e3
      obtain ⟨q4, x4, _, _⟩ := int_of_trod e4
      obtain ⟨q5, x5, _, _⟩ := int_of_trod e5
      exact ⟨⟨ts, q1, q2, q3, q4, q5⟩, r0, x1, x2, x3, x4, x5⟩)
  exact ⟨rs, C, by rw [hl]; exact hS, hr⟩

end Go.Proofs.Ytpnachakijpjkaa
