
/- Draws of keys. -/
import Derived.Test.YtihlinhfnlfdmaaOm
import Derived.Test.YtihlinhfnlfdmaaCur3
import Derived.Test.YtihlinhfnlfdmaaCurO
namespace Go.Proofs.Ytihlinhfnlfdmaa
open Go.RowKit

/-- The keys that are drawn. -/
def dkS : Nat → ByteArray
  | 0 => ⟨#[97]⟩
  | 1 => ⟨#[98]⟩
  | 2 => ⟨#[99]⟩
  | 3 => ⟨#[97, 47, 98]⟩
  | 4 => ⟨#[100]⟩
  | _ => ⟨#[]⟩
def dkL : Nat → List Int
  | 0 => [97]
  | 1 => [98]
  | 2 => [99]
  | 3 => [97, 47, 98]
  | 4 => [100]
  | _ => []
theorem lt5 {k : Nat} (h : k < 5) : k = 0 ∨ k = 1 ∨ k = 2 ∨ k = 3 ∨ k = 4 := by omega
theorem dkS_cells (k : Nat) (h : k < 5) : ((dkS k).data.map fun b => Value.int .u8 b.toNat).toList = B8 (dkL k) := by
  rw [Array.toList_map]
  rcases lt5 h with rfl | rfl | rfl | rfl | rfl <;> rfl
theorem dkS_size (k : Nat) (h : k < 5) : (dkS k).size ≤ 3 := by
  rcases lt5 h with rfl | rfl | rfl | rfl | rfl <;> decide
theorem dkL_len (k : Nat) (h : k < 5) : (dkL k).length ≤ 3 := by
  rcases lt5 h with rfl | rfl | rfl | rfl | rfl <;> decide
theorem dkL_rng (k : Nat) (h : k < 5) : ∀ x ∈ dkL k, 0 ≤ x ∧ x ≤ 255 := by
  rcases lt5 h with rfl | rfl | rfl | rfl | rfl <;> decide
theorem convK (s : ByteArray) (w : World) : (convert 9 22 (.string s)).run Try.prog w = .ok (.slice (some ⟨w.heap.size, 0, none⟩) s.size (grownCap w s.size 0 5)) (Lib.bytesWorld w 5 s) :=
  Lib.run_convert_string_bytes w 9 22 5 s Try.underlying9 Try.underlying22 Try.underlying5

set_option maxHeartbeats 2000000 in
/-- A drawn key: one of five, in memory of its own. -/
theorem drawKeyC (B g : Nat) (w : World) (hc : Cur w B g) :
    Calls Try.prog 27 #[.pointer (some ⟨g, 0, none⟩)] w fun e w' => ∃ v k, k < 5 ∧ e = .returned v ∧ OwM w' w.heap.size v (dkL k) ∧ Cur w' B g ∧ w.grownBy w' (some g) := by
  have HCW : Hid (∀ W, W = w.alloc (.cells #[.string ⟨#[97]⟩, .string ⟨#[98]⟩, .string ⟨#[99]⟩, .string ⟨#[97, 47, 98]⟩, .string ⟨#[100]⟩] 9) → Cur W B g ∧ Ext w W ∧ ∀ k, k < 5 → W.cell? ⟨w.heap.size, k, none⟩ = some (.string (dkS k))) := fun W hW => by
    have X : Ext w W := by rw [hW]; exact World.grownBy_alloc _ _ _
    refine ⟨hc.ext X, X, fun k hk => ?_⟩
    rw [hW, cell_of_row _ w.heap.size k _ 9 (0, 0) (heap_alloc_new w _)]
    rcases lt5 hk with rfl | rfl | rfl | rfl | rfl <;> rfl
  have hgw := (cur_in hc).1
  have HG := (show Hid (g < w.heap.size) from hgw)
  clear hc hgw
  go_enter Try.func27, Try.ntmps27
  go_wp2_with fail
  generalize hW : World.alloc w _ = W
  obtain ⟨C1, X1, K1⟩ := HCW.out W hW.symm
  clear hW HCW
  refine (belowC B g 5 W C1 (by omega)).mono ?_
  rintro e w1 ⟨r, hr0, hr1, _, rfl, hc1, hg1⟩
  have hr3 : r < 5 := hr1 (by omega)
  clear hr1
  obtain ⟨j, rfl⟩ := Int.eq_ofNat_of_zero_le hr0
  have hj : j < 5 := by omega
  have hcz : w1.cell? ⟨w.heap.size, j, none⟩ = some (.string (dkS j)) := hg1.cell (K1 j hj) (by have := HG.out; simp; omega)
  have hcv := convK (dkS j) w1
  obtain ⟨M, b2⟩ := m_conv w1 (dkS j) (dkL j) (dkS_cells j hj) (by have := dkS_size j hj; omega)
  have hs : w.heap.size ≤ w1.heap.size := Nat.le_trans X1.size hg1.size
  obtain ⟨W2, hW2⟩ : ∃ W, W = Lib.bytesWorld w1 5 (dkS j) := ⟨_, rfl⟩
  rw [← hW2] at hcv M b2
  have HF : Hid (OwM W2 w.heap.size (.slice (some ⟨w1.heap.size, 0, none⟩) (dkS j).size (grownCap w1 (dkS j).size 0 5)) (dkL j) ∧ Cur W2 B g ∧ w.grownBy W2 (some g)) := ⟨M.base hs, hc1.ext (ext_below b2), grown_tr (grown_tr (ext_row X1 _) hg1) (ext_row (ext_below b2) _)⟩
  clear hW2 K1 C1 X1 M b2 hc1 hg1 hs
  go_wp2
  go_ret
  exact ⟨_, j, hj, rfl, HF.out⟩

end Go.Proofs.Ytihlinhfnlfdmaa
