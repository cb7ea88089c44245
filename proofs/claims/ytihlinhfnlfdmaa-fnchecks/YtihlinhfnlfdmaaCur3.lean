
/- Draws from a cursor: yes or no, a number out of a list. -/
import Derived.Test.YtihlinhfnlfdmaaCur
namespace Go.Proofs.Ytihlinhfnlfdmaa
open Go.RowKit

set_option maxHeartbeats 2000000 in
theorem onceC (B g : Nat) (n : Int) (w : World) (hc : Cur w B g) (hn : n ≤ 9223372036854775807) :
    Calls Try.prog 23 #[.pointer (some ⟨g, 0, none⟩), .int .i64 n] w fun e w' => ∃ y : Bool, e = .returned (.bool y) ∧ Cur w' B g ∧ w.grownBy w' (some g) := by
  go_enter Try.func23, Try.ntmps23
  go_wp2_with fail
  refine (belowC B g n w hc hn).mono ?_
  rintro e w1 ⟨r, hr0, hr1, hr2, rfl, hc1, hg1⟩
  clear hr1 hr2
  go_wp2
  go_ret
  exact ⟨_, rfl, hc1, hg1⟩

/-- It is an int. -/
def IsInt (z : Int) : Prop := -9223372036854775808 ≤ z ∧ z ≤ 9223372036854775807

set_option maxHeartbeats 2000000 in
theorem pickC (B g b m : Nat) (w : World) (hc : Cur w B g) (hm0 : 0 < m) (hm : m ≤ 100) (hne : b ≠ g) (hz : ∀ j, j < m → ∃ z, IsInt z ∧ w.cell? ⟨b, j, none⟩ = some (.int .i64 z)) :
    Calls Try.prog 14 #[.pointer (some ⟨g, 0, none⟩), .slice (some ⟨b, 0, none⟩) m m] w fun e w' => ∃ q, IsInt q ∧ e = .returned (.int .i64 q) ∧ Cur w' B g ∧ w.grownBy w' (some g) := by
  have HZ : Hid (∀ j, j < m → ∃ z, IsInt z ∧ w.cell? ⟨b, j, none⟩ = some (.int .i64 z)) := hz
  clear hz
  go_enter Try.func14, Try.ntmps14
  go_wp2_with fail
  refine (belowC B g m w hc (by omega)).mono ?_
  rintro e w1 ⟨r, hr0, hr1, hr2, rfl, hc1, hg1⟩
  have hr3 : r < m := hr1 (by omega)
  clear hr1 hr2
  obtain ⟨j, rfl⟩ := Int.eq_ofNat_of_zero_le hr0
  obtain ⟨z, hzi, hzc⟩ := HZ.out j (by omega)
  have hcz : w1.cell? ⟨b, j, none⟩ = some (.int .i64 z) := hg1.cell hzc (by simpa using hne)
  clear HZ hzc
  go_wp2
  go_ret
  exact ⟨z, hzi, rfl, hc1, hg1⟩

theorem lit_cells (w : World) (zs : List Int) (cs : Array Value) (t : TypeId) (hcs : cs.toList = zs.map (Value.int .i64)) (hz : ∀ z ∈ zs, IsInt z) :
    ∀ j, j < zs.length → ∃ z, IsInt z ∧ (w.alloc (.cells cs t)).cell? ⟨w.heap.size, j, none⟩ = some (.int .i64 z) := by
  intro j hj
  refine ⟨zs[j], hz _ (List.getElem_mem hj), ?_⟩
  rw [cell_of_row _ w.heap.size j cs t (0, 0) (heap_alloc_new w _)]
  have : cs[j]? = (zs.map (Value.int .i64))[j]? := by rw [← hcs]; simp
  rw [this]
  simp [hj]

end Go.Proofs.Ytihlinhfnlfdmaa
