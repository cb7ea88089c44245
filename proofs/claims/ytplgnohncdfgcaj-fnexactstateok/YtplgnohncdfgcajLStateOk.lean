/- The exact statement of StateOk: the walk of the law itself, out of the specification's contract. -/
import Derived.Test.YtplgnohncdfgcajIState
import Derived.Test.YtplgnohncdfgcajToSt
import Derived.Deep.RegionHeld3
namespace Go.Proofs.Ytplgnohncdfgcaj
open Go.RowKit

theorem kept6 {w w' : World} {g : Nat} {a0 a1 a2 a3 a4 a5 : Value} (h : w.cell? ⟨g, 0, none⟩ = some a0 ∧ w.cell? ⟨g, 1, none⟩ = some a1 ∧ w.cell? ⟨g, 2, none⟩ = some a2 ∧ w.cell? ⟨g, 3, none⟩ = some a3 ∧ w.cell? ⟨g, 4, none⟩ = some a4 ∧ w.cell? ⟨g, 5, none⟩ = some a5) (hb : Below w.heap.size w w') :
    w'.cell? ⟨g, 0, none⟩ = some a0 ∧ w'.cell? ⟨g, 1, none⟩ = some a1 ∧ w'.cell? ⟨g, 2, none⟩ = some a2 ∧ w'.cell? ⟨g, 3, none⟩ = some a3 ∧ w'.cell? ⟨g, 4, none⟩ = some a4 ∧ w'.cell? ⟨g, 5, none⟩ = some a5 := by
  have hg : g < w.heap.size := World.block_lt_of_cell? w _ h.1
  obtain ⟨h0, h1, h2, h3, h4, h5⟩ := h
  exact ⟨(hb.cell (p := ⟨g, 0, none⟩) hg).trans h0, (hb.cell (p := ⟨g, 1, none⟩) hg).trans h1, (hb.cell (p := ⟨g, 2, none⟩) hg).trans h2, (hb.cell (p := ⟨g, 3, none⟩) hg).trans h3, (hb.cell (p := ⟨g, 4, none⟩) hg).trans h4, (hb.cell (p := ⟨g, 5, none⟩) hg).trans h5⟩
theorem kept12 {w w' : World} {g g' : Nat} {a0 a1 a2 a3 a4 a5 b0 b1 b2 b3 b4 b5 : Value} (h : (w.cell? ⟨g, 0, none⟩ = some a0 ∧ w.cell? ⟨g, 1, none⟩ = some a1 ∧ w.cell? ⟨g, 2, none⟩ = some a2 ∧ w.cell? ⟨g, 3, none⟩ = some a3 ∧ w.cell? ⟨g, 4, none⟩ = some a4 ∧ w.cell? ⟨g, 5, none⟩ = some a5) ∧ (w.cell? ⟨g', 0, none⟩ = some b0 ∧ w.cell? ⟨g', 1, none⟩ = some b1 ∧ w.cell? ⟨g', 2, none⟩ = some b2 ∧ w.cell? ⟨g', 3, none⟩ = some b3 ∧ w.cell? ⟨g', 4, none⟩ = some b4 ∧ w.cell? ⟨g', 5, none⟩ = some b5)) (hb : Below w.heap.size w w') :
    (w'.cell? ⟨g, 0, none⟩ = some a0 ∧ w'.cell? ⟨g, 1, none⟩ = some a1 ∧ w'.cell? ⟨g, 2, none⟩ = some a2 ∧ w'.cell? ⟨g, 3, none⟩ = some a3 ∧ w'.cell? ⟨g, 4, none⟩ = some a4 ∧ w'.cell? ⟨g, 5, none⟩ = some a5) ∧ (w'.cell? ⟨g', 0, none⟩ = some b0 ∧ w'.cell? ⟨g', 1, none⟩ = some b1 ∧ w'.cell? ⟨g', 2, none⟩ = some b2 ∧ w'.cell? ⟨g', 3, none⟩ = some b3 ∧ w'.cell? ⟨g', 4, none⟩ = some b4 ∧ w'.cell? ⟨g', 5, none⟩ = some b5) :=
  ⟨kept6 h.1 hb, kept6 h.2 hb⟩

/-- What the specification's StateOk must answer. -/
def StateSays : Prop := ∀ (v : Value) (S : DState) (w : World), VState w v S → Calls Try.prog 25 #[v] w fun e w' => e = .returned (.bool (tB (StP S))) ∧ Below w.heap.size w w'

set_option maxHeartbeats 4000000 in
theorem law_StateOk_of (hI : StateSays) (v : Value) (S : DState) (w : World) (h : VState w v S) (hr : rngSt S) :
    Calls Try.prog 7 #[v] w fun e w' => e = .returned (.bool true) ∧ Below w.heap.size w w' := by
  have hE : ∀ w : World, ∀ o, Ext w (w.alloc o) := fun w o => World.grownBy_alloc _ _ _
  have hB : ∀ w : World, ∀ o, Below w.heap.size w (w.alloc o) := fun w o => (Below.refl _ w).alloc (Nat.le_refl _) _
  have h0 : Hid (VState w v S) := h
  have HI : Hid StateSays := hI
  have HR : Hid (rngSt S) := hr
  clear hI hr
  obtain ⟨rv, tv, sv, lv, rfl, _, _, _, _⟩ := h
  obtain ⟨ob, hob⟩ : ∃ ob, ob = tB (StP S) := ⟨_, rfl⟩
  have HB : Hid (ob = tB (StP S)) := hob
  clear hob
  go_enter Try.func7, Try.ntmps7
  go_wp2_with fail
  refine (szSt _ S 1048576 _ (h0.out.ext (hE _ _)) (by omega) (by omega)).mono ?_
  rintro e w1 ⟨r, rfl, hrr, b1⟩
  have B1 := (hB w _).trans (b1.mono (by simp))
  have P1 := below_blk b1 (by simp) (heap_alloc_new w _)
  rcases hrr with ⟨h1, rfl⟩ | ⟨h1, h2⟩
  · go_wp2
    go_ret
    exact ⟨rfl, B1⟩
  · have HL : Hid (LenSt S 1048576) := lenSt_of (by omega)
    have hr0 : 0 ≤ r := by omega
    clear h1 h2 b1
    obtain ⟨p0, _⟩ := at_block P1 0 _ rfl
    obtain ⟨p1, _⟩ := at_block P1 1 _ rfl
    obtain ⟨p2, _⟩ := at_block P1 2 _ rfl
    obtain ⟨p3, _⟩ := at_block P1 3 _ rfl
    obtain ⟨p4, _⟩ := at_block P1 4 _ rfl
    obtain ⟨p5, _⟩ := at_block P1 5 _ rfl
    go_wp2_with fail
    refine (toSt _ S w1 (h0.out.ext (ext_below B1)) HL.out).mono ?_
    rintro e w2 ⟨gr2, gt2, gs2, gl2, rfl, o2, b2⟩
    have B2 := B1.trans (b2.mono B1.size)
    have s1 := b2.size
    go_wp2_with fail
    refine (HI.out _ S w2 (o2.v HL.out HR.out)).mono ?_
    rintro e w3 ⟨rfl, b3⟩
    rw [← HB.out]
    have B3 := B2.trans (b3.mono B2.size)
    have hs3 : w.heap.size < w3.heap.size := by
      have := (Array.getElem?_eq_some_iff.1 P1).1
      have := b3.size
      omega
    have P3 := below_blk b3 (by have := (Array.getElem?_eq_some_iff.1 P1).1; omega) (below_blk b2 (Array.getElem?_eq_some_iff.1 P1).1 P1)
    obtain ⟨q0, _⟩ := at_block P3 0 _ rfl
    obtain ⟨q1, _⟩ := at_block P3 1 _ rfl
    obtain ⟨q2, _⟩ := at_block P3 2 _ rfl
    obtain ⟨q3, _⟩ := at_block P3 3 _ rfl
    obtain ⟨q4, _⟩ := at_block P3 4 _ rfl
    obtain ⟨q5, _⟩ := at_block P3 5 _ rfl
    clear p0 p1 p2 p3 p4 p5 o2
    go_wp2_with fail
    refine (toSt _ S w3 (h0.out.ext (ext_below B3)) HL.out).mono ?_
    rintro e w4 ⟨gr, gt, gs, gl, rfl, o4, b4⟩
    have B4 := B3.trans (b4.mono B3.size)
    have V4 : Hid (VState w4 (stV gr gt gs gl S) S) := o4.v HL.out HR.out
    clear o4
    unfold stV at V4 ⊢
    have P4 := below_blk b4 hs3 P3
    have hs4 := b4.size
    clear q0 q1 q2 q3 q4 q5 b4 b3 b2
    go_wp2_with fail
    refine (iStateOkV _ S _ (V4.out.ext (hE _ _))).mono ?_
    rintro e w5 ⟨rfl, b5⟩
    rw [← HB.out]
    have X4 : ∀ o, Ext w4 (w4.alloc o) := hE w4
    have P5 := below_blk b5 (by simp; omega) ((Below.heap_alloc w4 _ w.heap.size (by omega)).trans P4)
    have T5 := below_blk b5 (by simp) (heap_alloc_new w4 _)
    have V5 : Hid (VState w5 (.agg #[.int .i64 S.index, .slice (some ⟨gr, 0, none⟩) S.rows.length S.rows.length, .slice (some ⟨gt, 0, none⟩) S.tombs.length S.tombs.length, .int .i64 S.lost, .slice (some ⟨gs, 0, none⟩) S.sess.length S.sess.length, .slice (some ⟨gl, 0, none⟩) S.lasts.length S.lasts.length]) S) := (V4.out.ext (X4 _)).ext (ext_below b5)
    have B5 := (B4.alloc B4.size _).trans (b5.mono (by have := B4.size; simp; omega))
    have hs5 : w4.heap.size < w5.heap.size := (Array.getElem?_eq_some_iff.1 T5).1
    obtain ⟨q0, _⟩ := at_block P5 0 _ rfl
    obtain ⟨q1, _⟩ := at_block P5 1 _ rfl
    obtain ⟨q2, _⟩ := at_block P5 2 _ rfl
    obtain ⟨q3, _⟩ := at_block P5 3 _ rfl
    obtain ⟨q4, _⟩ := at_block P5 4 _ rfl
    obtain ⟨q5, _⟩ := at_block P5 5 _ rfl
    obtain ⟨t0, _⟩ := at_block T5 0 _ rfl
    obtain ⟨t1, _⟩ := at_block T5 1 _ rfl
    obtain ⟨t2, _⟩ := at_block T5 2 _ rfl
    obtain ⟨t3, _⟩ := at_block T5 3 _ rfl
    obtain ⟨t4, _⟩ := at_block T5 4 _ rfl
    obtain ⟨t5, _⟩ := at_block T5 5 _ rfl
    clear b5
    have S5 : (w5.cell? ⟨w4.heap.size, 0, none⟩ = some (.int .i64 S.index) ∧ w5.cell? ⟨w4.heap.size, 1, none⟩ = some (.slice (some ⟨gr, 0, none⟩) S.rows.length S.rows.length) ∧ w5.cell? ⟨w4.heap.size, 2, none⟩ = some (.slice (some ⟨gt, 0, none⟩) S.tombs.length S.tombs.length) ∧ w5.cell? ⟨w4.heap.size, 3, none⟩ = some (.int .i64 S.lost) ∧ w5.cell? ⟨w4.heap.size, 4, none⟩ = some (.slice (some ⟨gs, 0, none⟩) S.sess.length S.sess.length) ∧ w5.cell? ⟨w4.heap.size, 5, none⟩ = some (.slice (some ⟨gl, 0, none⟩) S.lasts.length S.lasts.length)) ∧ (w5.cell? ⟨w.heap.size, 0, none⟩ = some (.int .i64 S.index) ∧ w5.cell? ⟨w.heap.size, 1, none⟩ = some rv ∧ w5.cell? ⟨w.heap.size, 2, none⟩ = some tv ∧ w5.cell? ⟨w.heap.size, 3, none⟩ = some (.int .i64 S.lost) ∧ w5.cell? ⟨w.heap.size, 4, none⟩ = some sv ∧ w5.cell? ⟨w.heap.size, 5, none⟩ = some lv) := ⟨⟨t0, t1, t2, t3, t4, t5⟩, ⟨q0, q1, q2, q3, q4, q5⟩⟩
    have HS5 : Hid _ := S5
    have X5 : Ext w5 w5.drew := ext_drewN w5 1
    go_wp2_with fail
    go_region_held3 (fun w' => w'.cell? ⟨w4.heap.size, 0, none⟩ = some (.int .i64 S.index) ∧ w'.cell? ⟨w4.heap.size, 1, none⟩ = some (.slice (some ⟨gr, 0, none⟩) S.rows.length S.rows.length) ∧ w'.cell? ⟨w4.heap.size, 2, none⟩ = some (.slice (some ⟨gt, 0, none⟩) S.tombs.length S.tombs.length) ∧ w'.cell? ⟨w4.heap.size, 3, none⟩ = some (.int .i64 S.lost) ∧ w'.cell? ⟨w4.heap.size, 4, none⟩ = some (.slice (some ⟨gs, 0, none⟩) S.sess.length S.sess.length) ∧ w'.cell? ⟨w4.heap.size, 5, none⟩ = some (.slice (some ⟨gl, 0, none⟩) S.lasts.length S.lasts.length) ∧ w'.cell? ⟨w.heap.size, 0, none⟩ = some (.int .i64 S.index) ∧ w'.cell? ⟨w.heap.size, 1, none⟩ = some rv ∧ w'.cell? ⟨w.heap.size, 2, none⟩ = some tv ∧ w'.cell? ⟨w.heap.size, 3, none⟩ = some (.int .i64 S.lost) ∧ w'.cell? ⟨w.heap.size, 4, none⟩ = some sv ∧ w'.cell? ⟨w.heap.size, 5, none⟩ = some lv) (simp [*])
      (first | (go_at_call 26; refine (toSt _ S _ ?_ HL.out).mono ?_; exact (h0.out.ext (ext_below B5)).ext X5; rintro e w6 ⟨gr6, gt6, gs6, gl6, rfl, o6, b6⟩; obtain ⟨⟨a0, a1, a2, a3, a4, a5⟩, ⟨c0, c1, c2, c3, c4, c5⟩⟩ := kept12 (w := w5.drew) HS5.out b6) | (go_at_call 28; refine (eqSt _ _ S _ ?_ ?_ HL.out).mono ?_; exact (V5.out.ext X5).ext (ext_below b6); exact o6.v HL.out HR.out; rintro e w7 ⟨rfl, b7⟩; obtain ⟨⟨a0', a1', a2', a3', a4', a5'⟩, ⟨c0', c1', c2', c3', c4', c5'⟩⟩ := kept12 ⟨⟨a0, a1, a2, a3, a4, a5⟩, ⟨c0, c1, c2, c3, c4, c5⟩⟩ b7))
    all_goals
      go_wp2
      go_ret
      exact ⟨rfl, ((below_drewN B5 1).trans (b6.mono B5.size)).trans (b7.mono (Nat.le_trans B5.size b6.size))⟩

end Go.Proofs.Ytplgnohncdfgcaj
