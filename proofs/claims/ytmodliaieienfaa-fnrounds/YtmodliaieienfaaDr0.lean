
/- Draws of members: l10member, l10said. -/
import Derived.Test.YtmodliaieienfaaCurO
import Derived.Test.YtmodliaieienfaaElMem0
import Derived.Test.YtmodliaieienfaaElG
namespace Go.Proofs.Ytmodliaieienfaa
open Go.RowKit

/-- What a draw of a member leaves: its fields are ints; it says what fits Q. -/
def MemDrawn (Q : DMem → Prop) (w : World) (B g : Nat) (e : Ending) (w' : World) : Prop :=
  ∃ m : DMem, e = .returned (.agg #[.int .i64 m.id, .int .i64 m.st, .int .i64 m.life]) ∧ Q m ∧ Cur w' B g ∧ w.grownBy w' (some g)
/-- A member as l10member draws it. -/
def memLow (m : DMem) : Prop := 0 ≤ m.id ∧ m.id < 6 ∧ 0 ≤ m.st ∧ m.st < 4 ∧ 0 ≤ m.life ∧ m.life < 4
def memInt (m : DMem) : Prop := IsInt m.id ∧ IsInt m.st ∧ IsInt m.life
theorem memLow.int {m : DMem} (h : memLow m) : memInt m := by unfold memLow at h; unfold memInt IsInt; omega

set_option maxHeartbeats 2000000 in
theorem memC (B g : Nat) (w : World) (hc : Cur w B g) : Calls Try.prog 30 #[.pointer (some ⟨g, 0, none⟩)] w (MemDrawn memLow w B g) := by
  have hE : ∀ w : World, ∀ o, Ext w (w.alloc o) := fun w o => World.grownBy_alloc _ _ _
  have hgl := (cur_in hc).1
  have HC : Hid (Cur w B g) := hc
  clear hc
  go_enter Try.func30, Try.ntmps30
  go_wp2_with fail
  generalize hW : w.alloc _ = W
  have HW : Hid (Ext w W) := by rw [← hW]; exact hE _ _
  have PW : W.heap[w.heap.size]? = some (.cells #[.int .i64 0, .int .i64 0, .int .i64 0] 40 (0, 0)) := by rw [← hW]; exact heap_alloc_new w _
  clear hW
  refine (belowC B g 6 W (HC.out.ext HW.out) (by omega)).mono ?_
  rintro e w1 ⟨r1, h10, h11, _, rfl, hc1, hg1⟩
  have hr1 : r1 < 6 := h11 (by omega)
  have HC1 : Hid (Cur w1 B g) := hc1
  have HG1 : Hid (W.grownBy w1 (some g)) := hg1
  clear h11 hc1 hg1
  go_wp2_with fail
  refine (belowC B g 4 w1 HC1.out (by omega)).mono ?_
  rintro e w2 ⟨r2, h20, h21, _, rfl, hc2, hg2⟩
  have hr2 : r2 < 4 := h21 (by omega)
  have HC2 : Hid (Cur w2 B g) := hc2
  have HG2 : Hid (W.grownBy w2 (some g)) := HG1.out.trans hg2
  clear h21 hc2 hg2 HC1 HG1
  go_wp2_with fail
  refine (belowC B g 4 w2 HC2.out (by omega)).mono ?_
  rintro e w3 ⟨r3, h30, h31, _, rfl, hc3, hg3⟩
  have hr3 : r3 < 4 := h31 (by omega)
  have HC3 : Hid (Cur w3 B g) := hc3
  have HG3 : Hid (w.grownBy w3 (some g)) := (ext_row HW.out _).trans (HG2.out.trans hg3)
  have PW3 := grown_blk (HG2.out.trans hg3) (by omega) PW
  clear h31 hc3 hg3 HC2 HG2 PW
  obtain ⟨z0, y0⟩ := at_block PW3 0 _ rfl
  obtain ⟨z1, y1⟩ := at_block PW3 1 _ rfl
  obtain ⟨z2, y2⟩ := at_block PW3 2 _ rfl
  go_wp2
  refine bodyPost_ret (v := .agg #[.int .i64 r1, .int .i64 r2, .int .i64 r3]) (by simp [results, Try.results30, go_sem, *]) rfl ?_
  refine ⟨⟨r1, r2, r3⟩, rfl, by unfold memLow; simp only; omega, ((HC3.out.off (set_grown _ _ _ _) hgl).off (set_grown _ _ _ _) hgl).off (set_grown _ _ _ _) hgl, ?_⟩
  exact grown_both (grown_both (grown_both HG3.out (set_grown _ _ _ _) (Nat.le_refl _)) (set_grown _ _ _ _) (Nat.le_refl _)) (set_grown _ _ _ _) (Nat.le_refl _)

end Go.Proofs.Ytmodliaieienfaa
