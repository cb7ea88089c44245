
/- The exact statement of DutyOk: the walk of the law itself. -/
import Derived.Test.YtgafnajnndbofaaDy1
import Derived.Test.YtgafnajnndbofaaDy2
import Derived.Test.YtgafnajnndbofaaDy3
import Derived.Deep.RegionHeld3
namespace Go.Proofs.Ytgafnajnndbofaa
open Go.RowKit

theorem keptD {w w' : World} {g g' : Nat} {a0 a1 a2 b0 b1 b2 : Value} (h : (w.cell? ⟨g, 0, none⟩ = some a0 ∧ w.cell? ⟨g, 1, none⟩ = some a1 ∧ w.cell? ⟨g, 2, none⟩ = some a2) ∧ (w.cell? ⟨g', 0, none⟩ = some b0 ∧ w.cell? ⟨g', 1, none⟩ = some b1 ∧ w.cell? ⟨g', 2, none⟩ = some b2)) (hb : Below w.heap.size w w') :
    (w'.cell? ⟨g, 0, none⟩ = some a0 ∧ w'.cell? ⟨g, 1, none⟩ = some a1 ∧ w'.cell? ⟨g, 2, none⟩ = some a2) ∧ (w'.cell? ⟨g', 0, none⟩ = some b0 ∧ w'.cell? ⟨g', 1, none⟩ = some b1 ∧ w'.cell? ⟨g', 2, none⟩ = some b2) := by
  have hg : g < w.heap.size := World.block_lt_of_cell? w _ h.1.1
  have hg' : g' < w.heap.size := World.block_lt_of_cell? w _ h.2.1
  obtain ⟨⟨h0, h1, h2⟩, h3, h4, h5⟩ := h
  exact ⟨⟨(hb.cell (p := ⟨g, 0, none⟩) hg).trans h0, (hb.cell (p := ⟨g, 1, none⟩) hg).trans h1, (hb.cell (p := ⟨g, 2, none⟩) hg).trans h2⟩, (hb.cell (p := ⟨g', 0, none⟩) hg').trans h3, (hb.cell (p := ⟨g', 1, none⟩) hg').trans h4, (hb.cell (p := ⟨g', 2, none⟩) hg').trans h5⟩

set_option maxHeartbeats 4000000 in
theorem law_DutyOk (v : Value) (D : DDuty) (w : World) (h : VDuty w v D) :
    Calls Try.prog 3 #[v] w fun e w' => e = .returned (.bool true) ∧ Below w.heap.size w w' := by
  have hE : ∀ w : World, ∀ o, Ext w (w.alloc o) := fun w o => World.grownBy_alloc _ _ _
  have hB : ∀ w : World, ∀ o, Below w.heap.size w (w.alloc o) := fun w o => (Below.refl _ w).alloc (Nat.le_refl _) _
  have h0 : Hid (VDuty w v D) := h
  obtain ⟨R, hR⟩ : ∃ R, R = tB (DutyP D) := ⟨_, rfl⟩
  have HR : Hid (R = tB (DutyP D)) := hR
  clear hR
  obtain ⟨tv, rfl, ht⟩ := h
  obtain ⟨ta, tc, rfl⟩ := ht.shape
  obtain ⟨n, hn⟩ : ∃ n, n = D.wh.tms.length := ⟨_, rfl⟩
  have HN : Hid (n = D.wh.tms.length) := hn
  rw [← hn] at h0 ⊢
  clear hn ht
  go_enter Try.func3, Try.ntmps3
  go_wp2_with fail
  refine (szD _ D 1048576 _ (h0.out.ext (hE _ _)) (by omega) (by omega)).mono ?_
  rintro e w1 ⟨r, rfl, hrr, b1⟩
  rw [← HN.out] at hrr
  have B1 := (hB w _).trans (b1.mono (by simp))
  have P1 := below_blk b1 (by simp) (heap_alloc_new w _)
  rcases hrr with ⟨h1, rfl⟩ | ⟨h1, h2⟩
  · go_wp2_with fail
    go_ret
    exact ⟨rfl, B1⟩
  have HL : Hid (D.wh.tms.length ≤ 1048576) := by have := HN.out; show _ ≤ _; omega
  have hl : n ≤ 1048576 := by omega
  have hr0 : 0 ≤ r := by omega
  clear h1 h2 b1
  obtain ⟨p0, _⟩ := at_block P1 0 _ rfl
  obtain ⟨p1, _⟩ := at_block P1 1 _ rfl
  obtain ⟨p2, _⟩ := at_block P1 2 _ rfl
  go_wp2_with fail
  refine (toD _ D w1 (h0.out.ext (ext_below B1)) HL.out).mono ?_
  rintro e w2 ⟨g2, rfl, g2l, o2, b2⟩
  rw [← HN.out]
  have B2 := B1.trans (b2.mono B1.size)
  have V2 : VDuty w2 (.agg #[.int .i64 D.ttl, .int .i64 D.wh.now, .slice (some ⟨g2, 0, none⟩) n n]) D := ⟨_, rfl, by rw [HN.out]; exact o2.v HL.out⟩
  have s1 := b2.size
  clear o2
  go_wp2_with fail
  refine (sDutyOkV _ D w2 V2).mono ?_
  rintro e w3 ⟨rfl, b3⟩
  rw [← HR.out]
  have B3 := B2.trans (b3.mono B2.size)
  have hs3 : w.heap.size < w3.heap.size := by
    have := (Array.getElem?_eq_some_iff.1 P1).1
    have := b3.size
    omega
  have P3 := below_blk b3 (by have := (Array.getElem?_eq_some_iff.1 P1).1; omega) (below_blk b2 (Array.getElem?_eq_some_iff.1 P1).1 P1)
  obtain ⟨q0, _⟩ := at_block P3 0 _ rfl
  obtain ⟨q1, _⟩ := at_block P3 1 _ rfl
  obtain ⟨q2, _⟩ := at_block P3 2 _ rfl
  clear p0 p1 p2 V2
  go_wp2_with fail
  refine (toD _ D w3 (h0.out.ext (ext_below B3)) HL.out).mono ?_
  rintro e w4 ⟨g4, rfl, g4l, o4, b4⟩
  rw [← HN.out]
  have B4 := B3.trans (b4.mono B3.size)
  have V4 : VDuty w4 (.agg #[.int .i64 D.ttl, .int .i64 D.wh.now, .slice (some ⟨g4, 0, none⟩) n n]) D := ⟨_, rfl, by rw [HN.out]; exact o4.v HL.out⟩
  have P4 := below_blk b4 hs3 P3
  have hs4 := b4.size
  clear q0 q1 q2 b4 b3 b2 o4
  go_wp2_with fail
  refine (iDutyOkV _ D _ (V4.ext (hE _ _))).mono ?_
  rintro e w5 ⟨rfl, b5⟩
  rw [← HR.out]
  have P5 := below_blk b5 (by simp; omega) ((Below.heap_alloc w4 _ w.heap.size (by omega)).trans P4)
  have T5 := below_blk b5 (by simp) (heap_alloc_new w4 _)
  have V5 := (V4.ext (hE _ _)).ext (ext_below b5)
  have B5 := (B4.alloc B4.size _).trans (b5.mono (by have := B4.size; simp; omega))
  have hs5 : w4.heap.size < w5.heap.size := (Array.getElem?_eq_some_iff.1 T5).1
  obtain ⟨q0, _⟩ := at_block P5 0 _ rfl
  obtain ⟨q1, _⟩ := at_block P5 1 _ rfl
  obtain ⟨q2, _⟩ := at_block P5 2 _ rfl
  obtain ⟨t0, _⟩ := at_block T5 0 _ rfl
  obtain ⟨t1, _⟩ := at_block T5 1 _ rfl
  obtain ⟨t2, _⟩ := at_block T5 2 _ rfl
  clear b5
  have S5 : (w5.cell? ⟨w4.heap.size, 0, none⟩ = some (.int .i64 D.ttl) ∧ w5.cell? ⟨w4.heap.size, 1, none⟩ = some (.int .i64 D.wh.now) ∧ w5.cell? ⟨w4.heap.size, 2, none⟩ = some (.slice (some ⟨g4, 0, none⟩) n n)) ∧ (w5.cell? ⟨w.heap.size, 0, none⟩ = some (.int .i64 D.ttl) ∧ w5.cell? ⟨w.heap.size, 1, none⟩ = some (.int .i64 D.wh.now) ∧ w5.cell? ⟨w.heap.size, 2, none⟩ = some (.slice ta n tc)) := ⟨⟨t0, t1, t2⟩, ⟨q0, q1, q2⟩⟩
  have HS5 : Hid _ := S5
  have X5 : Ext w5 w5.drew := ext_drewN w5 1
  have HB5 : Hid (Below w.heap.size w w5) := B5
  clear S5
  go_wp2_with fail
  go_region_held3 (fun w' => w'.cell? ⟨w4.heap.size, 0, none⟩ = some (.int .i64 D.ttl) ∧ w'.cell? ⟨w4.heap.size, 1, none⟩ = some (.int .i64 D.wh.now) ∧ w'.cell? ⟨w4.heap.size, 2, none⟩ = some (.slice (some ⟨g4, 0, none⟩) n n) ∧ w'.cell? ⟨w.heap.size, 0, none⟩ = some (.int .i64 D.ttl) ∧ w'.cell? ⟨w.heap.size, 1, none⟩ = some (.int .i64 D.wh.now) ∧ w'.cell? ⟨w.heap.size, 2, none⟩ = some (.slice ta n tc)) (simp [*])
    (first | (go_at_call 8; refine (toD _ D _ ?_ HL.out).mono ?_; exact (h0.out.ext (ext_below B5)).ext X5; rintro e w6 ⟨g6, rfl, g6l, o6, b6⟩; rw [← HN.out]; have V6 : VDuty w6 (.agg #[.int .i64 D.ttl, .int .i64 D.wh.now, .slice (some ⟨g6, 0, none⟩) n n]) D := (⟨_, rfl, by rw [HN.out]; exact o6.v HL.out⟩); obtain ⟨⟨a0, a1, a2⟩, ⟨c0, c1, c2⟩⟩ := keptD (w := w5.drew) HS5.out b6) | (go_at_call 10; refine (eqD _ _ D _ ?_ ?_ HL.out).mono ?_; exact (V5.ext X5).ext (ext_below b6); exact V6; rintro e w7 ⟨rfl, b7⟩; obtain ⟨⟨a0', a1', a2'⟩, ⟨c0', c1', c2'⟩⟩ := keptD ⟨⟨a0, a1, a2⟩, ⟨c0, c1, c2⟩⟩ b7))
  all_goals
    go_wp2
    go_ret
    exact ⟨rfl, ((below_drewN HB5.out 1).trans (b6.mono HB5.out.size)).trans (b7.mono (Nat.le_trans HB5.out.size b6.size))⟩

end Go.Proofs.Ytgafnajnndbofaa
