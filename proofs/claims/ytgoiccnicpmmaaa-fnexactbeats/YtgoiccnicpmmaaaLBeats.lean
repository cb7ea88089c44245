/- The exact statement of Beats: the walk of the law itself. -/
import Derived.Test.YtgoiccnicpmmaaaMsC1
import Derived.Test.YtgoiccnicpmmaaaOpenT
import Derived.Test.YtgoiccnicpmmaaaElG
import Derived.Test.YtgoiccnicpmmaaaMiB
import Derived.Deep.RegionHeld3
namespace Go.Proofs.Ytgoiccnicpmmaaa
open Go.RowKit

theorem mem_cells {w : World} {g : Nat} {v0 v1 v2 : Value} {t : TypeId} (h : w.heap[g]? = some (.cells #[v0, v1, v2] t (0, 0))) : w.cell? ⟨g, 0, none⟩ = some v0 ∧ w.cell? ⟨g, 1, none⟩ = some v1 ∧ w.cell? ⟨g, 2, none⟩ = some v2 := ⟨(at_block h 0 _ rfl).1, (at_block h 1 _ rfl).1, (at_block h 2 _ rfl).1⟩

set_option maxRecDepth 20000 in
set_option maxHeartbeats 4000000 in
theorem law_Beats (v : Value) (a : DMem) (u : Value) (b : DMem) (w : World) (h : VMb w v a) (_h1 : True) (_h2 : intMb a) (k : VMb w u b) (_k1 : True) (_k2 : intMb b) :
    Calls Try.prog 6 #[v, u] w fun e w' => e = .returned (.bool true) ∧ Below w.heap.size w w' := by
  obtain rfl : v = .agg #[.int .i64 a.id, .int .i64 a.st, .int .i64 a.life] := h
  obtain rfl : u = .agg #[.int .i64 b.id, .int .i64 b.st, .int .i64 b.life] := k
  obtain ⟨R, hR⟩ : ∃ R, R = beatsB a b := ⟨_, rfl⟩
  have HS : Hid (∀ V, Calls Try.prog 19 #[.agg #[.int .i64 a.id, .int .i64 a.st, .int .i64 a.life], .agg #[.int .i64 b.id, .int .i64 b.st, .int .i64 b.life]] V fun e w' => e = .returned (.bool R) ∧ Below V.heap.size V w') := fun V => by rw [hR]; exact sBeatsV a b V
  have HI : Hid (∀ V, Calls Try.prog 20 #[.agg #[.int .i64 a.id, .int .i64 a.st, .int .i64 a.life], .agg #[.int .i64 b.id, .int .i64 b.st, .int .i64 b.life]] V fun e w' => e = .returned (.bool R) ∧ Below V.heap.size V w') := fun V => by rw [hR]; exact iBeatsV a b V
  clear hR
  go_enter Try.func6, Try.ntmps6
  go_wp2_with fail
  have PA0 : ((w.alloc (.cells #[.int .i64 a.id, .int .i64 a.st, .int .i64 a.life] 23 (0, 0))).alloc (.cells #[.int .i64 b.id, .int .i64 b.st, .int .i64 b.life] 23 (0, 0))).heap[w.heap.size]? = some (.cells #[.int .i64 a.id, .int .i64 a.st, .int .i64 a.life] 23 (0, 0)) := by rw [Below.heap_alloc _ _ _ (by simp), heap_alloc_new]
  have PB0 : ((w.alloc (.cells #[.int .i64 a.id, .int .i64 a.st, .int .i64 a.life] 23 (0, 0))).alloc (.cells #[.int .i64 b.id, .int .i64 b.st, .int .i64 b.life] 23 (0, 0))).heap[w.heap.size + 1]? = some (.cells #[.int .i64 b.id, .int .i64 b.st, .int .i64 b.life] 23 (0, 0)) := by simpa using heap_alloc_new (w.alloc (.cells #[.int .i64 a.id, .int .i64 a.st, .int .i64 a.life] 23 (0, 0))) (.cells #[.int .i64 b.id, .int .i64 b.st, .int .i64 b.life] 23 (0, 0))
  have BW : Below w.heap.size w ((w.alloc (.cells #[.int .i64 a.id, .int .i64 a.st, .int .i64 a.life] 23 (0, 0))).alloc (.cells #[.int .i64 b.id, .int .i64 b.st, .int .i64 b.life] 23 (0, 0))) := ((Below.refl _ w).alloc (Nat.le_refl _) _).alloc (by simp) _
  generalize (w.alloc (.cells #[.int .i64 a.id, .int .i64 a.st, .int .i64 a.life] 23 (0, 0))).alloc (.cells #[.int .i64 b.id, .int .i64 b.st, .int .i64 b.life] 23 (0, 0)) = W at PA0 PB0 BW ⊢
  have PAx : Hid (W.heap[w.heap.size]? = some (.cells #[.int .i64 a.id, .int .i64 a.st, .int .i64 a.life] 23 (0, 0))) := PA0
  have PBx : Hid (W.heap[w.heap.size + 1]? = some (.cells #[.int .i64 b.id, .int .i64 b.st, .int .i64 b.life] 23 (0, 0))) := PB0
  obtain ⟨e0, e1, e2⟩ := mem_cells PA0
  obtain ⟨f0, f1, f2⟩ := mem_cells PB0
  clear PA0 PB0
  go_region_held3 (fun w' => w'.cell? ⟨w.heap.size, 0, none⟩ = some (.int .i64 a.id) ∧ w'.cell? ⟨w.heap.size, 1, none⟩ = some (.int .i64 a.st) ∧ w'.cell? ⟨w.heap.size, 2, none⟩ = some (.int .i64 a.life) ∧ w'.cell? ⟨w.heap.size + 1, 0, none⟩ = some (.int .i64 b.id) ∧ w'.cell? ⟨w.heap.size + 1, 1, none⟩ = some (.int .i64 b.st) ∧ w'.cell? ⟨w.heap.size + 1, 2, none⟩ = some (.int .i64 b.life)) (first | (simp [*]; done) | go_keep)
    (first
      | (go_at_call 19; refine (HS.out _).mono ?_; rintro e zx3 ⟨rfl, cx3⟩; have Zx3 : Hid (Ext W zx3) := Zx2.out.tr (ext_below cx3); obtain ⟨e0, e1, e2⟩ := mem_cells (ext_blk Zx3.out PAx.out); obtain ⟨f0, f1, f2⟩ := mem_cells (ext_blk Zx3.out PBx.out))
      | (have zz := Zx1; clear zz; go_at_call 8; refine (toEl_Mem b _).mono ?_; rintro e zx2 ⟨rfl, cx2⟩; have Zx2 : Hid (Ext W zx2) := Zx1.out.tr (ext_below cx2); obtain ⟨e0, e1, e2⟩ := mem_cells (ext_blk Zx2.out PAx.out); obtain ⟨f0, f1, f2⟩ := mem_cells (ext_blk Zx2.out PBx.out))
      | (go_at_call 8; refine (toEl_Mem a _).mono ?_; rintro e zx1 ⟨rfl, cx1⟩; have Zx1 : Hid (Ext W zx1) := Ext.tr (ext_drewN W 1) (ext_below cx1); obtain ⟨e0, e1, e2⟩ := mem_cells (ext_blk Zx1.out PAx.out); obtain ⟨f0, f1, f2⟩ := mem_cells (ext_blk Zx1.out PBx.out)))
  have PAy : Hid (zx3.heap[w.heap.size]? = some (.cells #[.int .i64 a.id, .int .i64 a.st, .int .i64 a.life] 23 (0, 0))) := ext_blk Zx3.out PAx.out
  have PBy : Hid (zx3.heap[w.heap.size + 1]? = some (.cells #[.int .i64 b.id, .int .i64 b.st, .int .i64 b.life] 23 (0, 0))) := ext_blk Zx3.out PBx.out
  have BY := BW.trans ((ext_bel Zx3.out).mono BW.size)
  clear cx1 cx2 cx3 Zx1 Zx2 Zx3 PAx PBx BW
  go_wp2_with fail
  go_region_held3 (fun w' => w'.cell? ⟨w.heap.size, 0, none⟩ = some (.int .i64 a.id) ∧ w'.cell? ⟨w.heap.size, 1, none⟩ = some (.int .i64 a.st) ∧ w'.cell? ⟨w.heap.size, 2, none⟩ = some (.int .i64 a.life) ∧ w'.cell? ⟨w.heap.size + 1, 0, none⟩ = some (.int .i64 b.id) ∧ w'.cell? ⟨w.heap.size + 1, 1, none⟩ = some (.int .i64 b.st) ∧ w'.cell? ⟨w.heap.size + 1, 2, none⟩ = some (.int .i64 b.life)) (first | (simp [*]; done) | go_keep)
    (first
      | (go_at_call 20; refine (HI.out _).mono ?_; rintro e zy3 ⟨rfl, cy3⟩; have Zy3 : Hid (Ext zx3 zy3) := Zy2.out.tr (ext_below cy3); obtain ⟨e0, e1, e2⟩ := mem_cells (ext_blk Zy3.out PAy.out); obtain ⟨f0, f1, f2⟩ := mem_cells (ext_blk Zy3.out PBy.out))
      | (have zz := Zy1; clear zz; go_at_call 8; refine (toEl_Mem b _).mono ?_; rintro e zy2 ⟨rfl, cy2⟩; have Zy2 : Hid (Ext zx3 zy2) := Zy1.out.tr (ext_below cy2); obtain ⟨e0, e1, e2⟩ := mem_cells (ext_blk Zy2.out PAy.out); obtain ⟨f0, f1, f2⟩ := mem_cells (ext_blk Zy2.out PBy.out))
      | (go_at_call 8; refine (toEl_Mem a _).mono ?_; rintro e zy1 ⟨rfl, cy1⟩; have Zy1 : Hid (Ext zx3 zy1) := Ext.tr (ext_drewN zx3 1) (ext_below cy1); obtain ⟨e0, e1, e2⟩ := mem_cells (ext_blk Zy1.out PAy.out); obtain ⟨f0, f1, f2⟩ := mem_cells (ext_blk Zy1.out PBy.out)))
  have BZ := BY.trans ((ext_bel Zy3.out).mono BY.size)
  go_wp2
  go_ret
  exact ⟨rfl, BZ⟩

end Go.Proofs.Ytgoiccnicpmmaaa
