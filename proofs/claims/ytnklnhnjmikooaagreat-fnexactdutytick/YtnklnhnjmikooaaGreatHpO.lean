
/- The contract of the specification's l7own. -/
import Derived.Test.YtnklnhnjmikooaaGreatHpJ
import Derived.Deep.CutRange
namespace Go.Proofs.YtnklnhnjmikooaaGreat
open Go.RowKit

set_option maxHeartbeats 4000000 in
theorem ownV (v : Value) (D : DWheel) (w : World) (h : VWheel w v D) (hl : D.tms.length ≤ 1048576) : Calls Tryz.prog 69 #[v] w fun e w' => ∃ tv, e = .returned (.agg #[.int .i64 D.now, tv]) ∧ OwT w' w.heap.size tv D.tms ∧ Below w.heap.size w w' := by
  obtain ⟨tv, rfl, h⟩ := h
  obtain ⟨ta, tc', rfl⟩ := h.shape
  obtain ⟨n, hn⟩ : ∃ n, n = D.tms.length := ⟨_, rfl⟩
  have HL : Hid (D.tms.length ≤ 1048576) := hl
  have HNN : Hid (n = D.tms.length) := hn
  have HV : Hid (VTims w (.slice ta n tc') D.tms) := by rw [hn]; exact h
  rw [← hn]
  clear h hn hl
  go_enter Tryz.func69, Tryz.ntmps69
  go_wp2_with fail
  generalize hW : World.alloc (World.alloc w _) _ = W
  have BW : Below w.heap.size w W := by rw [← hW]; exact ((Below.refl _ w).alloc (Nat.le_refl _) _).alloc (by simp) _
  have PB : W.heap[w.heap.size]? = some (.cells #[.int .i64 D.now, .slice ta n tc'] 37 (0, 0)) := by rw [← hW, Below.heap_alloc _ _ _ (by simp)]; exact heap_alloc_new w _
  have PR : W.heap[w.heap.size + 1]? = some (.cells #[.int .i64 0, .slice none 0 0] 37 (0, 0)) := by rw [← hW]; simpa using heap_alloc_new (World.alloc w (.cells #[.int .i64 D.now, .slice ta n tc'] 37)) (.cells #[.int .i64 0, .slice none 0 0] 37)
  have hsz : W.heap.size = w.heap.size + 2 := by rw [← hW]; simp
  clear hW
  obtain ⟨z0, y0⟩ := at_block PB 0 _ rfl
  obtain ⟨z1, y1⟩ := at_block PB 1 _ rfl
  have HW : Hid (Below w.heap.size w W) := BW
  have HPR : Hid (W.heap[w.heap.size + 1]? = some (.cells #[.int .i64 0, .slice none 0 0] 37 (0, 0))) := PR
  have HSZ : Hid (W.heap.size = w.heap.size + 2) := hsz
  have hne1 : W.heap.size ≠ w.heap.size := by omega
  have k0 : ∀ o, (W.alloc o).cell? ⟨w.heap.size, 0, none⟩ = some (.int .i64 D.now) := fun o => World.grownBy.cell (World.grownBy_alloc W o none) z0 (by simp)
  have k1 : ∀ o, (W.alloc o).cell? ⟨w.heap.size, 1, none⟩ = some (.slice ta n tc') := fun o => World.grownBy.cell (World.grownBy_alloc W o none) z1 (by simp)
  have HVA : Hid (VTims (W.alloc (.cells #[] 114)).drew (.slice ta n tc') D.tms) := (HV.out.ext (ext_below BW)).ext ((World.grownBy_alloc W _ none).trans (ext_drewN _ 1))
  have HFIN : Hid (∀ v1 w1, OwT w1 W.heap.size v1 ([] ++ D.tms) → (W.alloc (.cells #[] 114)).grownBy w1 (Value.slice (some ⟨W.heap.size, 0, none⟩) 0 0).ownBlock → ∃ a1 c1, v1 = .slice a1 n c1 ∧ (w1.cell? ⟨w.heap.size, 0, none⟩ = some (.int .i64 D.now) ∧ w1.cell? ⟨w.heap.size + 1, 0, none⟩ = some (.int .i64 0) ∧ w1.cell? ⟨w.heap.size + 1, 1, none⟩ = some (.slice none 0 0) ∧ w1.frozen? ⟨w.heap.size + 1, 0, none⟩ = false ∧ w1.frozen? ⟨w.heap.size + 1, 1, none⟩ = false) ∧ OwT w1 w.heap.size v1 D.tms ∧ (v1.ownBlock = none ∨ v1.ownBlock ≠ some (w.heap.size + 1)) ∧ Below w.heap.size w w1) := by
    intro v1 w1 o1 g1
    rw [List.nil_append] at o1
    have BB : Below W.heap.size W w1 := ((Below.refl _ W).alloc (Nat.le_refl _) _).grown g1 (by simp) (fun k hk => by cases hk; exact Nat.le_refl _)
    have PB1 := below_blk BB (by omega) PB
    have PR1 := below_blk BB (by omega) PR
    obtain ⟨a1, c1, rfl⟩ := o1.v.shape
    refine ⟨a1, c1, by rw [HNN.out], ⟨(at_block PB1 0 _ rfl).1, (at_block PR1 0 _ rfl).1, (at_block PR1 1 _ rfl).1, (at_block PR1 0 _ rfl).2, (at_block PR1 1 _ rfl).2⟩, o1.base (by omega), ?_, BW.trans (BB.mono BW.size)⟩
    right
    intro e
    have := (World.ownsRow.lt o1 _ e).1
    omega
  clear PB PR y0 y1 BW hsz
  go_region_law (refine step_append_tm rfl (.tmp 5) (.tmp 7) 35 Tryz.underlying35 rfl W.heap.size (.slice (some ⟨W.heap.size, 0, none⟩) 0 0) [] rfl (ow_none W _ (Nat.le_refl _)) ta n tc' D.tms rfl HVA.out (by have := HL.out; simp; omega) (by simp) ?_; intro v1 w1 o1 g1 _; obtain ⟨a1, c1, rfl, ⟨x0, x1, x2, f1, f2⟩, o2, nv, bb⟩ := HFIN.out v1 w1 o1 (grown_undrew g1))
  all_goals
    go_wp2_with fail
    refine bodyPost_ret (v := .agg #[.int .i64 D.now, .slice a1 n c1]) (by simp [results, Tryz.results69, go_sem, *]) rfl ?_
    exact ⟨_, rfl, (o2.kept (set_grown _ _ _ _) nv).kept (set_grown _ _ _ _) nv, (bb.setCell (by simp) _).setCell (by simp) _⟩

end Go.Proofs.YtnklnhnjmikooaaGreat
