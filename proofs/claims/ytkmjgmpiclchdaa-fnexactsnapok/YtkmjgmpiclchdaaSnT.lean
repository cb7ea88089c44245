/- Snapshots: copied. -/
import Derived.Test.YtkmjgmpiclchdaaSnA
namespace Go.Proofs.Ytkmjgmpiclchdaa
open Go.RowKit

set_option maxHeartbeats 4000000 in
theorem toSn (v : Value) (P : DSnap) (w : World) (h : VSnap w v P) (hl : LenSn P 1048576) :
    Calls Try.prog 6 #[v] w fun e w' => ∃ gr gt gs gl gc, e = .returned (snV gr gt gs gl gc P) ∧ OSn w' w.heap.size gr gt gs gl gc P ∧ Below w.heap.size w w' := by
  have hE : ∀ w : World, ∀ o, Ext w (w.alloc o) := fun w o => World.grownBy_alloc _ _ _
  have x3 : ∀ a b c, Ext w (((w.alloc a).alloc b).alloc c) := fun a b c => ((hE _ _).tr (hE _ _)).tr (hE _ _)
  obtain ⟨rv, tv, sv, lv, cv, rfl, hr, ht, hs, hll, hc⟩ := h
  go_enter Try.func6, Try.ntmps6
  go_wp2_with fail
  have B0 : ∀ a b c, Below w.heap.size w (((w.alloc a).alloc b).alloc c) := fun a b c => (((Below.refl _ w).alloc (Nat.le_refl _) _).alloc (by simp) _).alloc (by simp; omega) _
  refine (toSt _ P.base _ ⟨rv, tv, sv, lv, rfl, hr.ext (x3 _ _ _), ht.ext (x3 _ _ _), hs.ext (x3 _ _ _), hll.ext (x3 _ _ _)⟩ hl.1).mono ?_
  rintro e w1 ⟨gr, gt, gs, gl, rfl, o1, b1⟩
  have hs1 : w.heap.size + 3 ≤ w1.heap.size := by have := b1.size; simp at this; omega
  have PA := below_blk b1 (by simp; omega) (h3_0 w _ _ _)
  have RA := below_blk b1 (by simp) (h3_1 w _ _ _)
  have TA := below_blk b1 (by simp) (h3_2 w _ _ _)
  have BA := (B0 _ _ _).trans (b1.mono (by simp; omega))
  have o2 : OSt w1 (w.heap.size + 3) gr gt gs gl P.base := o1.base (by simp)
  clear o1 b1
  obtain ⟨t0, g0⟩ := at_block TA 0 _ rfl
  obtain ⟨t1, g1⟩ := at_block TA 1 _ rfl
  obtain ⟨t2, g2⟩ := at_block TA 2 _ rfl
  obtain ⟨t3, g3⟩ := at_block TA 3 _ rfl
  obtain ⟨t4, g4⟩ := at_block TA 4 _ rfl
  obtain ⟨t5, g5⟩ := at_block TA 5 _ rfl
  have p6 := (at_block PA 6 _ rfl).1
  unfold stV
  go_wp2_with fail
  have TB0 : ((((((w1.setCell ⟨w.heap.size + 1 + 1, 0, none⟩ (.int .i64 P.base.index)).setCell ⟨w.heap.size + 1 + 1, 1, none⟩ (.slice (some ⟨gr, 0, none⟩) P.base.rows.length P.base.rows.length)).setCell ⟨w.heap.size + 1 + 1, 2, none⟩ (.slice (some ⟨gt, 0, none⟩) P.base.tombs.length P.base.tombs.length)).setCell ⟨w.heap.size + 1 + 1, 3, none⟩ (.int .i64 P.base.lost)).setCell ⟨w.heap.size + 1 + 1, 4, none⟩ (.slice (some ⟨gs, 0, none⟩) P.base.sess.length P.base.sess.length)).setCell ⟨w.heap.size + 1 + 1, 5, none⟩ (.slice (some ⟨gl, 0, none⟩) P.base.lasts.length P.base.lasts.length)).heap[w.heap.size + 1 + 1]? = some (.cells #[.int .i64 P.base.index, .slice (some ⟨gr, 0, none⟩) P.base.rows.length P.base.rows.length, .slice (some ⟨gt, 0, none⟩) P.base.tombs.length P.base.tombs.length, .int .i64 P.base.lost, .slice (some ⟨gs, 0, none⟩) P.base.sess.length P.base.sess.length, .slice (some ⟨gl, 0, none⟩) P.base.lasts.length P.base.lasts.length, .slice none 0 0] 41 (0, 0)) := (set_block (set_block (set_block (set_block (set_block (set_block TA 0 (.int .i64 P.base.index)) 1 (.slice (some ⟨gr, 0, none⟩) P.base.rows.length P.base.rows.length)) 2 (.slice (some ⟨gt, 0, none⟩) P.base.tombs.length P.base.tombs.length)) 3 (.int .i64 P.base.lost)) 4 (.slice (some ⟨gs, 0, none⟩) P.base.sess.length P.base.sess.length)) 5 (.slice (some ⟨gl, 0, none⟩) P.base.lasts.length P.base.lasts.length))
  have PB0 := (set_other (w.heap.size + 1 + 1) 5 (.slice (some ⟨gl, 0, none⟩) P.base.lasts.length P.base.lasts.length) (by omega) (set_other (w.heap.size + 1 + 1) 4 (.slice (some ⟨gs, 0, none⟩) P.base.sess.length P.base.sess.length) (by omega) (set_other (w.heap.size + 1 + 1) 3 (.int .i64 P.base.lost) (by omega) (set_other (w.heap.size + 1 + 1) 2 (.slice (some ⟨gt, 0, none⟩) P.base.tombs.length P.base.tombs.length) (by omega) (set_other (w.heap.size + 1 + 1) 1 (.slice (some ⟨gr, 0, none⟩) P.base.rows.length P.base.rows.length) (by omega) (set_other (w.heap.size + 1 + 1) 0 (.int .i64 P.base.index) (by omega) PA))))))
  have RB0 := (set_other (w.heap.size + 1 + 1) 5 (.slice (some ⟨gl, 0, none⟩) P.base.lasts.length P.base.lasts.length) (by omega) (set_other (w.heap.size + 1 + 1) 4 (.slice (some ⟨gs, 0, none⟩) P.base.sess.length P.base.sess.length) (by omega) (set_other (w.heap.size + 1 + 1) 3 (.int .i64 P.base.lost) (by omega) (set_other (w.heap.size + 1 + 1) 2 (.slice (some ⟨gt, 0, none⟩) P.base.tombs.length P.base.tombs.length) (by omega) (set_other (w.heap.size + 1 + 1) 1 (.slice (some ⟨gr, 0, none⟩) P.base.rows.length P.base.rows.length) (by omega) (set_other (w.heap.size + 1 + 1) 0 (.int .i64 P.base.index) (by omega) RA))))))
  have BB0 : Below w.heap.size w ((((((w1.setCell ⟨w.heap.size + 1 + 1, 0, none⟩ (.int .i64 P.base.index)).setCell ⟨w.heap.size + 1 + 1, 1, none⟩ (.slice (some ⟨gr, 0, none⟩) P.base.rows.length P.base.rows.length)).setCell ⟨w.heap.size + 1 + 1, 2, none⟩ (.slice (some ⟨gt, 0, none⟩) P.base.tombs.length P.base.tombs.length)).setCell ⟨w.heap.size + 1 + 1, 3, none⟩ (.int .i64 P.base.lost)).setCell ⟨w.heap.size + 1 + 1, 4, none⟩ (.slice (some ⟨gs, 0, none⟩) P.base.sess.length P.base.sess.length)).setCell ⟨w.heap.size + 1 + 1, 5, none⟩ (.slice (some ⟨gl, 0, none⟩) P.base.lasts.length P.base.lasts.length)) := ((((((BA.setCell (by simp; omega) _).setCell (by simp; omega) _).setCell (by simp; omega) _).setCell (by simp; omega) _).setCell (by simp; omega) _).setCell (by simp; omega) _)
  have zB : w.heap.size + 3 ≤ ((((((w1.setCell ⟨w.heap.size + 1 + 1, 0, none⟩ (.int .i64 P.base.index)).setCell ⟨w.heap.size + 1 + 1, 1, none⟩ (.slice (some ⟨gr, 0, none⟩) P.base.rows.length P.base.rows.length)).setCell ⟨w.heap.size + 1 + 1, 2, none⟩ (.slice (some ⟨gt, 0, none⟩) P.base.tombs.length P.base.tombs.length)).setCell ⟨w.heap.size + 1 + 1, 3, none⟩ (.int .i64 P.base.lost)).setCell ⟨w.heap.size + 1 + 1, 4, none⟩ (.slice (some ⟨gs, 0, none⟩) P.base.sess.length P.base.sess.length)).setCell ⟨w.heap.size + 1 + 1, 5, none⟩ (.slice (some ⟨gl, 0, none⟩) P.base.lasts.length P.base.lasts.length)).heap.size := by simp; omega
  have oB := ((((((o2.set (x := w.heap.size + 1 + 1) (j := 0) (u := .int .i64 P.base.index) (by omega)).set (x := w.heap.size + 1 + 1) (j := 1) (u := .slice (some ⟨gr, 0, none⟩) P.base.rows.length P.base.rows.length) (by omega)).set (x := w.heap.size + 1 + 1) (j := 2) (u := .slice (some ⟨gt, 0, none⟩) P.base.tombs.length P.base.tombs.length) (by omega)).set (x := w.heap.size + 1 + 1) (j := 3) (u := .int .i64 P.base.lost) (by omega)).set (x := w.heap.size + 1 + 1) (j := 4) (u := .slice (some ⟨gs, 0, none⟩) P.base.sess.length P.base.sess.length) (by omega)).set (x := w.heap.size + 1 + 1) (j := 5) (u := .slice (some ⟨gl, 0, none⟩) P.base.lasts.length P.base.lasts.length) (by omega))
  generalize ((((((w1.setCell ⟨w.heap.size + 1 + 1, 0, none⟩ (.int .i64 P.base.index)).setCell ⟨w.heap.size + 1 + 1, 1, none⟩ (.slice (some ⟨gr, 0, none⟩) P.base.rows.length P.base.rows.length)).setCell ⟨w.heap.size + 1 + 1, 2, none⟩ (.slice (some ⟨gt, 0, none⟩) P.base.tombs.length P.base.tombs.length)).setCell ⟨w.heap.size + 1 + 1, 3, none⟩ (.int .i64 P.base.lost)).setCell ⟨w.heap.size + 1 + 1, 4, none⟩ (.slice (some ⟨gs, 0, none⟩) P.base.sess.length P.base.sess.length)).setCell ⟨w.heap.size + 1 + 1, 5, none⟩ (.slice (some ⟨gl, 0, none⟩) P.base.lasts.length P.base.lasts.length)) = WB at TB0 PB0 RB0 BB0 zB oB ⊢
  clear t0 g0 t1 g1 t2 g2 t3 g3 t4 g4 t5 g5 p6 PA RA TA BA o2 hs1
  refine (toS_C cv P.rest WB (hc.ext (ext_below BB0)) hl.2.1 hl.2.2).mono ?_
  rintro e w2 ⟨FB, rfl, kB, fB, bB⟩
  have PB := below_blk bB (by omega) PB0
  have RB := below_blk bB (by omega) RB0
  have TB := below_blk bB (by omega) TB0
  have BB := BB0.trans (bB.mono BB0.size)
  have oC : OC w2 WB.heap.size P.rest := ⟨FB, kB, fB⟩
  have yB := bB.size
  have oS := oB.ext (ext_below bB)
  generalize WB.heap.size = gc at zB yB oC ⊢
  clear kB fB bB TB0 PB0 RB0 BB0 oB
  obtain ⟨t0, g0⟩ := at_block TB 0 _ rfl
  obtain ⟨r0, z0⟩ := at_block RB 0 _ rfl
  obtain ⟨t1, g1⟩ := at_block TB 1 _ rfl
  obtain ⟨r1, z1⟩ := at_block RB 1 _ rfl
  obtain ⟨t2, g2⟩ := at_block TB 2 _ rfl
  obtain ⟨r2, z2⟩ := at_block RB 2 _ rfl
  obtain ⟨t3, g3⟩ := at_block TB 3 _ rfl
  obtain ⟨r3, z3⟩ := at_block RB 3 _ rfl
  obtain ⟨t4, g4⟩ := at_block TB 4 _ rfl
  obtain ⟨r4, z4⟩ := at_block RB 4 _ rfl
  obtain ⟨t5, g5⟩ := at_block TB 5 _ rfl
  obtain ⟨r5, z5⟩ := at_block RB 5 _ rfl
  obtain ⟨t6, g6⟩ := at_block TB 6 _ rfl
  obtain ⟨r6, z6⟩ := at_block RB 6 _ rfl
  clear TB RB PB
  go_wp2
  refine bodyPost_ret (v := .agg #[.int .i64 P.base.index, .slice (some ⟨gr, 0, none⟩) P.base.rows.length P.base.rows.length, .slice (some ⟨gt, 0, none⟩) P.base.tombs.length P.base.tombs.length, .int .i64 P.base.lost, .slice (some ⟨gs, 0, none⟩) P.base.sess.length P.base.sess.length, .slice (some ⟨gl, 0, none⟩) P.base.lasts.length P.base.lasts.length, .slice (some ⟨gc, 0, none⟩) P.rest.length P.rest.length]) (by simp [results, Try.results6, go_sem, r0, r1, r2, r3, r4, r5, r6]) rfl ?_
  have HOS : Hid (OSt w2 (w.heap.size + 3) gr gt gs gl P.base) := oS
  have HOC : Hid (OC w2 gc P.rest) := oC
  refine ⟨gr, gt, gs, gl, gc, rfl, ⟨OSt.base (b := w.heap.size + 3) ?_ (by omega), by omega, ?_⟩, ?_⟩
  · repeat (refine OSt.set ?_ (by omega))
    exact HOS.out
  · repeat (refine OC.set ?_ (by omega))
    exact HOC.out
  · repeat (refine below_set ?_ (by omega))
    exact BB

end Go.Proofs.Ytkmjgmpiclchdaa
