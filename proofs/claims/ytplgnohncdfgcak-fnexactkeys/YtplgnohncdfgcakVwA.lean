/- The exact statements' helpers on views. -/
import Derived.Test.YtplgnohncdfgcakVal
import Derived.Test.YtplgnohncdfgcakOp0
import Derived.Test.YtplgnohncdfgcakMkA
namespace Go.Proofs.Ytplgnohncdfgcak
open Go.RowKit

set_option maxHeartbeats 1000000 in
theorem eqVwV (i : Int) (h : Bool) (a b : Value) (xs : List Int) (w : World) (ra : RV w a xs) (rb : RV w b xs) (hn : xs.length ≤ 2097152) :
    Calls Try.prog 14 #[.agg #[.int .i64 i, .bool h, a], .agg #[.int .i64 i, .bool h, b]] w fun e w' => e = .returned (.bool true) ∧ Below w.heap.size w w' := by
  have hE : ∀ w : World, ∀ o, Ext w (w.alloc o) := fun w o => World.grownBy_alloc _ _ _
  have x2 : ∀ a b, Ext w ((w.alloc a).alloc b) := fun a b => (hE _ _).tr (hE _ _)
  have ra' := ra
  have rb' := rb
  obtain ⟨pa, pc, rfl, _, _, _⟩ := ra
  obtain ⟨qa, qc, rfl, _, _, _⟩ := rb
  go_enter Try.func14, Try.ntmps14
  go_wp2_with fail
  refine (eqV_yes _ _ xs _ (ra'.ext (x2 _ _)) (rb'.ext (x2 _ _)) hn).mono ?_
  rintro e w1 ⟨rfl, q, rfl⟩
  go_wp2
  go_ret
  exact ⟨rfl, below_drewN (((Below.refl _ w).alloc (Nat.le_refl _) _).alloc (by simp) _) q⟩

/-- A nil slice: nothing is marked, nothing is held. -/
theorem markNil (k : Int) (w : World) : Calls Try.prog 18 #[.slice none 0 0, .int .i64 k] w fun e w' => e = .returned (.int .i64 k) ∧ w' = w := by
  go_enter Try.func18, Try.ntmps18
  go_wp2
  refine wp_loop_rounds 1 ?_
  rw [rounds_succ]
  go_wp2
  go_ret
  exact ⟨rfl, rfl⟩
theorem heldNil (k : Int) (w : World) : Calls Try.prog 57 #[.slice none 0 0, .int .i64 k] w fun e w' => e = .returned (.int .i64 k) ∧ w' = w := by
  go_enter Try.func57, Try.ntmps57
  go_wp2
  refine wp_loop_rounds 1 ?_
  rw [rounds_succ]
  go_wp2
  go_ret
  exact ⟨rfl, rfl⟩

theorem rv_nil (w : World) : RV w (.slice none 0 0) [] := ⟨none, 0, rfl, Rd.nil _ _, Nat.le_refl _, Nat.zero_le _⟩

/-- Views without a value. -/
theorem eqVw0 (i : Int) (h : Bool) (w : World) :
    Calls Try.prog 14 #[.agg #[.int .i64 i, .bool h, .slice none 0 0], .agg #[.int .i64 i, .bool h, .slice none 0 0]] w fun e w' => e = .returned (.bool true) ∧ Below w.heap.size w w' :=
  eqVwV i h _ _ [] w (rv_nil w) (rv_nil w) (by simp)

theorem markVw0 (i k : Int) (h : Bool) (w : World) :
    Calls Try.prog 19 #[.agg #[.int .i64 i, .bool h, .slice none 0 0], .int .i64 k] w fun e w' => e = .returned (.int .i64 k) ∧ Below w.heap.size w w' := by
  have hB : ∀ w : World, ∀ o, Below w.heap.size w (w.alloc o) := fun w o => (Below.refl _ w).alloc (Nat.le_refl _) _
  go_enter Try.func19, Try.ntmps19
  go_wp2_with fail
  refine (markNil k _).mono ?_
  rintro e w1 ⟨rfl, rfl⟩
  go_wp2
  go_ret
  exact ⟨rfl, hB _ _⟩

theorem heldVw0 (i k : Int) (h : Bool) (w : World) (hk0 : 0 ≤ k) (hk : k ≤ 1073741824) :
    Calls Try.prog 20 #[.agg #[.int .i64 i, .bool h, .slice none 0 0], .int .i64 k] w fun e w' => e = .returned (.int .i64 k) ∧ Below w.heap.size w w' := by
  have hB : ∀ w : World, ∀ o, Below w.heap.size w (w.alloc o) := fun w o => (Below.refl _ w).alloc (Nat.le_refl _) _
  go_enter Try.func20, Try.ntmps20
  go_wp2_with fail
  refine (heldNil k _).mono ?_
  rintro e w1 ⟨rfl, rfl⟩
  go_wp2
  go_ret
  exact ⟨rfl, hB _ _⟩

end Go.Proofs.Ytplgnohncdfgcak
