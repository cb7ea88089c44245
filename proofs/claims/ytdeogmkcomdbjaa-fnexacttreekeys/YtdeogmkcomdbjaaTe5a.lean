/- The specification's TreeOk: parts that may not be. -/
import Derived.Test.YtdeogmkcomdbjaaTe2
import Derived.Test.YtdeogmkcomdbjaaTe4
namespace Go.Proofs.Ytdeogmkcomdbjaa
open Go.RowKit

/-- What l6ok answers. -/
def OkRes (root : Bool) {d : Nat} (t : DTree d) (left deep r : Int) : Prop :=
  (ownOk root t ∧ kidsG t ∧ (cntT t : Int) ≤ left ∧ deep + depT t ≤ 24 ∧ r = left - cntT t) ∨ (¬ (ownOk root t ∧ kidsG t ∧ (cntT t : Int) ≤ left ∧ deep + depT t ≤ 24) ∧ r = -1)

abbrev L6Says {d : Nat} (t : DTree d) : Prop := ∀ (root : Bool) (v : Value) (left deep : Int) (w : World), VTree w t v → 0 ≤ left → left ≤ 200 → 0 ≤ deep → deep ≤ 25 →
  Calls Try.prog 40 #[v, .bool root, .int .i64 left, .int .i64 deep] w fun e w' => ∃ r, e = .returned (.int .i64 r) ∧ OkRes root t left deep r ∧ Below w.heap.size w w'

set_option maxHeartbeats 1000000 in
theorem l6ok_ill {d : Nat} (ed : List Int) (h : Bool) (x : Int) (n : Nat) (kid : Nat → DTree d) (root : Bool) (v : Value) (left deep : Int) (w : World) (ht : VTree w (DTree.node ed h x n kid) v) (h0 : 0 ≤ left) (h1 : left ≤ 200) (h2 : 0 ≤ deep) (h3 : deep ≤ 25)
    (hill : ¬ (ownOk root (DTree.node ed h x n kid) ∧ 1 ≤ left ∧ deep ≤ 24)) :
    Calls Try.prog 40 #[v, .bool root, .int .i64 left, .int .i64 deep] w fun e w' => e = .returned (.int .i64 (-1)) ∧ Below w.heap.size w w' := by
  obtain ⟨ev, kv, rfl, re, rk⟩ := ht.open_
  obtain ⟨ea, ec, rfl, _, he1, he2⟩ := re
  obtain ⟨ka, kc, rfl, hk1, hk2⟩ := rk.slice
  unfold maxLen at he2 hk2
  have hill : ¬ (ownF root ed h x n ∧ 1 ≤ left ∧ deep ≤ 24) := hill
  simp only [ownF] at hill
  generalize ed.length = m at *
  clear ht rk
  cases root <;> cases h <;> simp only [Bool.false_eq_true, Bool.true_eq_false, false_implies, true_implies, and_true, true_and] at hill
  all_goals
    go_enter Try.func40, Try.ntmps40
    go_wp2_with fail
  all_goals first
    | (exfalso; omega)
    | (go_ret; exact ⟨rfl, (Below.refl _ w).alloc (Nat.le_refl _) _⟩)


end Go.Proofs.Ytdeogmkcomdbjaa
