/- The names of operations: the contracts of OpName. -/
import Derived.Test.YtfhebefepgnmnaaDoorOm
import Derived.Test.YtfhebefepgnmnaaDoorInf
import Derived.Test.YtfhebefepgnmnaaDoorOp0
import Derived.Test.YtfhebefepgnmnaaDoorWi
namespace Go.Proofs.YtfhebefepgnmnaaDoor
open Go.RowKit

/-- The name of a kind. -/
def nameL : Nat → List Int
  | 0 => [110, 111, 110, 101]
  | 1 => [115, 101, 116]
  | 2 => [99, 97, 115]
  | 3 => [100, 101, 108]
  | 4 => [111, 112, 101, 110]
  | 5 => [115, 104, 117, 116]
  | 6 => [116, 97, 107, 101]
  | 7 => [102, 114, 101, 101]
  | _ => []
/-- The same as a string. -/
def nameS : Nat → ByteArray
  | 0 => ⟨#[110, 111, 110, 101]⟩
  | 1 => ⟨#[115, 101, 116]⟩
  | 2 => ⟨#[99, 97, 115]⟩
  | 3 => ⟨#[100, 101, 108]⟩
  | 4 => ⟨#[111, 112, 101, 110]⟩
  | 5 => ⟨#[115, 104, 117, 116]⟩
  | 6 => ⟨#[116, 97, 107, 101]⟩
  | 7 => ⟨#[102, 114, 101, 101]⟩
  | _ => ⟨#[]⟩

theorem lt8 {k : Nat} (h : k < 8) : k = 0 ∨ k = 1 ∨ k = 2 ∨ k = 3 ∨ k = 4 ∨ k = 5 ∨ k = 6 ∨ k = 7 := by omega

theorem nameS_cells (k : Nat) (h : k < 8) : ((nameS k).data.map fun b => Value.int .u8 b.toNat).toList = B8 (nameL k) := by
  rw [Array.toList_map]
  rcases lt8 h with rfl | rfl | rfl | rfl | rfl | rfl | rfl | rfl <;> rfl
theorem nameS_size (k : Nat) (h : k < 8) : (nameS k).size ≤ 4 := by
  rcases lt8 h with rfl | rfl | rfl | rfl | rfl | rfl | rfl | rfl <;> decide
theorem nameL_rng (k : Nat) : ∀ x ∈ nameL k, 0 ≤ x ∧ x ≤ 255 := by
  by_cases h : k < 8
  · rcases lt8 h with rfl | rfl | rfl | rfl | rfl | rfl | rfl | rfl <;> decide
  · have : nameL k = [] := by
      unfold nameL
      split <;> first | rfl | omega
    rw [this]
    intro x hx; cases hx
theorem nameL_len (k : Nat) : (nameL k).length ≤ 4 := by
  by_cases h : k < 8
  · rcases lt8 h with rfl | rfl | rfl | rfl | rfl | rfl | rfl | rfl <;> decide
  · have : nameL k = [] := by
      unfold nameL
      split <;> first | rfl | omega
    rw [this]
    decide

set_option maxHeartbeats 1000000 in
theorem l8nameV (k : Nat) (h : k < 8) (w : World) : Calls Tryd.prog 23 #[.int .i64 k] w fun e w' => e = .returned (.string (nameS k)) ∧ Below w.heap.size w w' := by
  have HB : Hid (∀ o, Below w.heap.size w (w.alloc o)) := fun o => (Below.refl _ w).alloc (Nat.le_refl _) _
  rcases lt8 h with rfl | rfl | rfl | rfl | rfl | rfl | rfl | rfl
  all_goals
    clear h
    go_enter Tryd.func23, Tryd.ntmps23
    go_wp2
    go_ret
    exact ⟨rfl, HB.out _⟩

end Go.Proofs.YtfhebefepgnmnaaDoor
