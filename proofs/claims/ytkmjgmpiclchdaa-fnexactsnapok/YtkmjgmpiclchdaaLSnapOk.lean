/- The exact statement of SnapOk: the walk of the law itself, without a condition. -/
import Derived.Test.YtkmjgmpiclchdaaSnC
import Derived.Test.YtkmjgmpiclchdaaSnT
import Derived.Test.YtkmjgmpiclchdaaOpenP
import Derived.Deep.RegionHeld3
namespace Go.Proofs.Ytkmjgmpiclchdaa
open Go.RowKit

theorem kept7 {w w' : World} {g : Nat} {a0 a1 a2 a3 a4 a5 a6 : Value} (h : w.cell? ⟨g, 0, none⟩ = some a0 ∧ w.cell? ⟨g, 1, none⟩ = some a1 ∧ w.cell? ⟨g, 2, none⟩ = some a2 ∧ w.cell? ⟨g, 3, none⟩ = some a3 ∧ w.cell? ⟨g, 4, none⟩ = some a4 ∧ w.cell? ⟨g, 5, none⟩ = some a5 ∧ w.cell? ⟨g, 6, none⟩ = some a6) (hb : Below w.heap.size w w') :
    w'.cell? ⟨g, 0, none⟩ = some a0 ∧ w'.cell? ⟨g, 1, none⟩ = some a1 ∧ w'.cell? ⟨g, 2, none⟩ = some a2 ∧ w'.cell? ⟨g, 3, none⟩ = some a3 ∧ w'.cell? ⟨g, 4, none⟩ = some a4 ∧ w'.cell? ⟨g, 5, none⟩ = some a5 ∧ w'.cell? ⟨g, 6, none⟩ = some a6 := by
  have hg : g < w.heap.size := World.block_lt_of_cell? w _ h.1
  obtain ⟨h0, h1, h2, h3, h4, h5, h6⟩ := h
  exact ⟨(hb.cell (p := ⟨g, 0, none⟩) hg).trans h0, (hb.cell (p := ⟨g, 1, none⟩) hg).trans h1, (hb.cell (p := ⟨g, 2, none⟩) hg).trans h2, (hb.cell (p := ⟨g, 3, none⟩) hg).trans h3, (hb.cell (p := ⟨g, 4, none⟩) hg).trans h4, (hb.cell (p := ⟨g, 5, none⟩) hg).trans h5, (hb.cell (p := ⟨g, 6, none⟩) hg).trans h6⟩
theorem kept14 {w w' : World} {g g' : Nat} {a0 a1 a2 a3 a4 a5 a6 b0 b1 b2 b3 b4 b5 b6 : Value} (h : (w.cell? ⟨g, 0, none⟩ = some a0 ∧ w.cell? ⟨g, 1, none⟩ = some a1 ∧ w.cell? ⟨g, 2, none⟩ = some a2 ∧ w.cell? ⟨g, 3, none⟩ = some a3 ∧ w.cell? ⟨g, 4, none⟩ = some a4 ∧ w.cell? ⟨g, 5, none⟩ = some a5 ∧ w.cell? ⟨g, 6, none⟩ = some a6) ∧ (w.cell? ⟨g', 0, none⟩ = some b0 ∧ w.cell? ⟨g', 1, none⟩ = some b1 ∧ w.cell? ⟨g', 2, none⟩ = some b2 ∧ w.cell? ⟨g', 3, none⟩ = some b3 ∧ w.cell? ⟨g', 4, none⟩ = some b4 ∧ w.cell? ⟨g', 5, none⟩ = some b5 ∧ w.cell? ⟨g', 6, none⟩ = some b6)) (hb : Below w.heap.size w w') :
    (w'.cell? ⟨g, 0, none⟩ = some a0 ∧ w'.cell? ⟨g, 1, none⟩ = some a1 ∧ w'.cell? ⟨g, 2, none⟩ = some a2 ∧ w'.cell? ⟨g, 3, none⟩ = some a3 ∧ w'.cell? ⟨g, 4, none⟩ = some a4 ∧ w'.cell? ⟨g, 5, none⟩ = some a5 ∧ w'.cell? ⟨g, 6, none⟩ = some a6) ∧ (w'.cell? ⟨g', 0, none⟩ = some b0 ∧ w'.cell? ⟨g', 1, none⟩ = some b1 ∧ w'.cell? ⟨g', 2, none⟩ = some b2 ∧ w'.cell? ⟨g', 3, none⟩ = some b3 ∧ w'.cell? ⟨g', 4, none⟩ = some b4 ∧ w'.cell? ⟨g', 5, none⟩ = some b5 ∧ w'.cell? ⟨g', 6, none⟩ = some b6) :=
  ⟨kept7 h.1 hb, kept7 h.2 hb⟩

set_option maxHeartbeats 4000000 in
theorem law_SnapOk (v : Value) (P : DSnap) (w : World) (h : VSnap w v P) (hr : rngSt P.base) (_hi : intSt P.base) :
    Calls Try.prog 3 #[v] w fun e w' => e = .returned (.bool true) ∧ Below w.heap.size w w' := by
  have hE : ∀ w : World, ∀ o, Ext w (w.alloc o) := fun w o => World.grownBy_alloc _ _ _
  have hB : ∀ w : World, ∀ o, Below w.heap.size w (w.alloc o) := fun w o => (Below.refl _ w).alloc (Nat.le_refl _) _
  have h0 : Hid (VSnap w v P) := h
  have HR : Hid (rngSt P.base) := hr
  obtain ⟨rv, tv, sv, lv, cv, rfl, _, _, _, _, hcc⟩ := h
  have HRC : Hid (rngC P.rest) := rngC_of hcc
  clear hr hcc
  obtain ⟨ob, hob⟩ : ∃ ob, ob = tB (SnP P) := ⟨_, rfl⟩
  have HB : Hid (ob = tB (SnP P)) := hob
  clear hob
  go_enter Try.func3, Try.ntmps3
  go_wp2_with fail
  refine (szSn _ P 1048576 _ (h0.out.ext (hE _ _)) (by omega) (by omega)).mono ?_
  rintro e w1 ⟨r, rfl, hrr, b1⟩
  have B1 := (hB w _).trans (b1.mono (by simp))
  have P1 := below_blk b1 (by simp) (heap_alloc_new w _)
  rcases hrr with ⟨h1, rfl⟩ | ⟨h1, h2⟩
  · go_wp2
    go_ret
    exact ⟨rfl, B1⟩
  · have HL : Hid (LenSn P 1048576) := lenSn_of (by omega)
    have hr0 : 0 ≤ r := by omega
    clear h1 h2 b1
    obtain ⟨p0, _⟩ := at_block P1 0 _ rfl
    obtain ⟨p1, _⟩ := at_block P1 1 _ rfl
    obtain ⟨p2, _⟩ := at_block P1 2 _ rfl
    obtain ⟨p3, _⟩ := at_block P1 3 _ rfl
    obtain ⟨p4, _⟩ := at_block P1 4 _ rfl
    obtain ⟨p5, _⟩ := at_block P1 5 _ rfl
    obtain ⟨p6, _⟩ := at_block P1 6 _ rfl
    go_wp2_with fail
    refine (toSn _ P w1 (h0.out.ext (ext_below B1)) HL.out).mono ?_
    rintro e w2 ⟨gr2, gt2, gs2, gl2, gc2, rfl, o2, b2⟩
    have B2 := B1.trans (b2.mono B1.size)
    have s1 := b2.size
    go_wp2_with fail
    refine (sSnapOkV _ P w2 (o2.v HL.out HR.out HRC.out) HL.out.2.1).mono ?_
    rintro e w3 ⟨rfl, b3⟩
    rw [← HB.out]
    have B3 := B2.trans (b3.mono B2.size)
    have hs3 : w.heap.size < w3.heap.size := by
      have := (Array.getElem?_eq_some_iff.1 P1).1
      have := b3.size
      omega
    have P3 := below_blk b3 (by have := (Array.getElem?_eq_some_iff.1 P1).1; omega) (below_blk b2 (Array.getElem?_eq_some_iff.1 P1).1 P1)
    obtain ⟨q0, _⟩ := at_block P3 0 _ rfl
    obtain ⟨q1, _⟩ := at_block P3 1 _ rfl
    obtain ⟨q2, _⟩ := at_block P3 2 _ rfl
    obtain ⟨q3, _⟩ := at_block P3 3 _ rfl
    obtain ⟨q4, _⟩ := at_block P3 4 _ rfl
    obtain ⟨q5, _⟩ := at_block P3 5 _ rfl
    obtain ⟨q6, _⟩ := at_block P3 6 _ rfl
    clear p0 p1 p2 p3 p4 p5 p6 o2
    go_wp2_with fail
    refine (toSn _ P w3 (h0.out.ext (ext_below B3)) HL.out).mono ?_
    rintro e w4 ⟨gr, gt, gs, gl, gc, rfl, o4, b4⟩
    have B4 := B3.trans (b4.mono B3.size)
    have V4 : Hid (VSnap w4 (snV gr gt gs gl gc P) P) := o4.v HL.out HR.out HRC.out
    clear o4
    unfold snV at V4 ⊢
    have P4 := below_blk b4 hs3 P3
    have hs4 := b4.size
    clear q0 q1 q2 q3 q4 q5 q6 b4 b3 b2
    go_wp2_with fail
    refine (iSnapOkV _ P _ (V4.out.ext (hE _ _)) HL.out.2.1).mono ?_
    rintro e w5 ⟨rfl, b5⟩
    rw [← HB.out]
    have X4 : ∀ o, Ext w4 (w4.alloc o) := hE w4
    have P5 := below_blk b5 (by simp; omega) ((Below.heap_alloc w4 _ w.heap.size (by omega)).trans P4)
    have T5 := below_blk b5 (by simp) (heap_alloc_new w4 _)
    have V5 : Hid (VSnap w5 (.agg #[.int .i64 P.base.index, .slice (some ⟨gr, 0, none⟩) P.base.rows.length P.base.rows.length, .slice (some ⟨gt, 0, none⟩) P.base.tombs.length P.base.tombs.length, .int .i64 P.base.lost, .slice (some ⟨gs, 0, none⟩) P.base.sess.length P.base.sess.length, .slice (some ⟨gl, 0, none⟩) P.base.lasts.length P.base.lasts.length, .slice (some ⟨gc, 0, none⟩) P.rest.length P.rest.length]) P) := (V4.out.ext (X4 _)).ext (ext_below b5)
    have B5 := (B4.alloc B4.size _).trans (b5.mono (by have := B4.size; simp; omega))
    have hs5 : w4.heap.size < w5.heap.size := (Array.getElem?_eq_some_iff.1 T5).1
    obtain ⟨q0, _⟩ := at_block P5 0 _ rfl
    obtain ⟨q1, _⟩ := at_block P5 1 _ rfl
    obtain ⟨q2, _⟩ := at_block P5 2 _ rfl
    obtain ⟨q3, _⟩ := at_block P5 3 _ rfl
    obtain ⟨q4, _⟩ := at_block P5 4 _ rfl
    obtain ⟨q5, _⟩ := at_block P5 5 _ rfl
    obtain ⟨q6, _⟩ := at_block P5 6 _ rfl
    obtain ⟨t0, _⟩ := at_block T5 0 _ rfl
    obtain ⟨t1, _⟩ := at_block T5 1 _ rfl
    obtain ⟨t2, _⟩ := at_block T5 2 _ rfl
    obtain ⟨t3, _⟩ := at_block T5 3 _ rfl
    obtain ⟨t4, _⟩ := at_block T5 4 _ rfl
    obtain ⟨t5, _⟩ := at_block T5 5 _ rfl
    obtain ⟨t6, _⟩ := at_block T5 6 _ rfl
    clear b5
    have S5 : (w5.cell? ⟨w4.heap.size, 0, none⟩ = some (.int .i64 P.base.index) ∧ w5.cell? ⟨w4.heap.size, 1, none⟩ = some (.slice (some ⟨gr, 0, none⟩) P.base.rows.length P.base.rows.length) ∧ w5.cell? ⟨w4.heap.size, 2, none⟩ = some (.slice (some ⟨gt, 0, none⟩) P.base.tombs.length P.base.tombs.length) ∧ w5.cell? ⟨w4.heap.size, 3, none⟩ = some (.int .i64 P.base.lost) ∧ w5.cell? ⟨w4.heap.size, 4, none⟩ = some (.slice (some ⟨gs, 0, none⟩) P.base.sess.length P.base.sess.length) ∧ w5.cell? ⟨w4.heap.size, 5, none⟩ = some (.slice (some ⟨gl, 0, none⟩) P.base.lasts.length P.base.lasts.length) ∧ w5.cell? ⟨w4.heap.size, 6, none⟩ = some (.slice (some ⟨gc, 0, none⟩) P.rest.length P.rest.length)) ∧ (w5.cell? ⟨w.heap.size, 0, none⟩ = some (.int .i64 P.base.index) ∧ w5.cell? ⟨w.heap.size, 1, none⟩ = some rv ∧ w5.cell? ⟨w.heap.size, 2, none⟩ = some tv ∧ w5.cell? ⟨w.heap.size, 3, none⟩ = some (.int .i64 P.base.lost) ∧ w5.cell? ⟨w.heap.size, 4, none⟩ = some sv ∧ w5.cell? ⟨w.heap.size, 5, none⟩ = some lv ∧ w5.cell? ⟨w.heap.size, 6, none⟩ = some cv) := ⟨⟨t0, t1, t2, t3, t4, t5, t6⟩, ⟨q0, q1, q2, q3, q4, q5, q6⟩⟩
    have HS5 : Hid _ := S5
    have X5 : Ext w5 w5.drew := ext_drewN w5 1
    go_wp2_with fail
    go_region_held3 (fun w' => w'.cell? ⟨w4.heap.size, 0, none⟩ = some (.int .i64 P.base.index) ∧ w'.cell? ⟨w4.heap.size, 1, none⟩ = some (.slice (some ⟨gr, 0, none⟩) P.base.rows.length P.base.rows.length) ∧ w'.cell? ⟨w4.heap.size, 2, none⟩ = some (.slice (some ⟨gt, 0, none⟩) P.base.tombs.length P.base.tombs.length) ∧ w'.cell? ⟨w4.heap.size, 3, none⟩ = some (.int .i64 P.base.lost) ∧ w'.cell? ⟨w4.heap.size, 4, none⟩ = some (.slice (some ⟨gs, 0, none⟩) P.base.sess.length P.base.sess.length) ∧ w'.cell? ⟨w4.heap.size, 5, none⟩ = some (.slice (some ⟨gl, 0, none⟩) P.base.lasts.length P.base.lasts.length) ∧ w'.cell? ⟨w4.heap.size, 6, none⟩ = some (.slice (some ⟨gc, 0, none⟩) P.rest.length P.rest.length) ∧ w'.cell? ⟨w.heap.size, 0, none⟩ = some (.int .i64 P.base.index) ∧ w'.cell? ⟨w.heap.size, 1, none⟩ = some rv ∧ w'.cell? ⟨w.heap.size, 2, none⟩ = some tv ∧ w'.cell? ⟨w.heap.size, 3, none⟩ = some (.int .i64 P.base.lost) ∧ w'.cell? ⟨w.heap.size, 4, none⟩ = some sv ∧ w'.cell? ⟨w.heap.size, 5, none⟩ = some lv ∧ w'.cell? ⟨w.heap.size, 6, none⟩ = some cv) (simp [*])
      (first | (go_at_call 6; refine (toSn _ P _ ?_ HL.out).mono ?_; exact (h0.out.ext (ext_below B5)).ext X5; rintro e w6 ⟨gr6, gt6, gs6, gl6, gc6, rfl, o6, b6⟩; obtain ⟨⟨a0, a1, a2, a3, a4, a5, a6⟩, ⟨c0, c1, c2, c3, c4, c5, c6⟩⟩ := kept14 (w := w5.drew) HS5.out b6) | (go_at_call 8; refine (eqSn _ _ P _ ?_ ?_ HL.out).mono ?_; exact (V5.out.ext X5).ext (ext_below b6); exact o6.v HL.out HR.out HRC.out; rintro e w7 ⟨rfl, b7⟩; obtain ⟨⟨a0', a1', a2', a3', a4', a5', a6'⟩, ⟨c0', c1', c2', c3', c4', c5', c6'⟩⟩ := kept14 ⟨⟨a0, a1, a2, a3, a4, a5, a6⟩, ⟨c0, c1, c2, c3, c4, c5, c6⟩⟩ b7))
    all_goals
      go_wp2
      go_ret
      exact ⟨rfl, ((below_drewN B5 1).trans (b6.mono B5.size)).trans (b7.mono (Nat.le_trans B5.size b6.size))⟩

end Go.Proofs.Ytkmjgmpiclchdaa
