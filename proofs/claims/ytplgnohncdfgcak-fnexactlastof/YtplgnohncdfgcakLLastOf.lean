/- The exact statement of LastOf: the walk of the law itself. -/
import Derived.Test.YtplgnohncdfgcakLsC
import Derived.Test.YtplgnohncdfgcakToSt
import Derived.Deep.RegionHeld3
namespace Go.Proofs.Ytplgnohncdfgcak
open Go.RowKit

theorem kept6 {w w' : World} {g : Nat} {a0 a1 a2 a3 a4 a5 : Value} (h : w.cell? ⟨g, 0, none⟩ = some a0 ∧ w.cell? ⟨g, 1, none⟩ = some a1 ∧ w.cell? ⟨g, 2, none⟩ = some a2 ∧ w.cell? ⟨g, 3, none⟩ = some a3 ∧ w.cell? ⟨g, 4, none⟩ = some a4 ∧ w.cell? ⟨g, 5, none⟩ = some a5) (hb : Below w.heap.size w w') :
    w'.cell? ⟨g, 0, none⟩ = some a0 ∧ w'.cell? ⟨g, 1, none⟩ = some a1 ∧ w'.cell? ⟨g, 2, none⟩ = some a2 ∧ w'.cell? ⟨g, 3, none⟩ = some a3 ∧ w'.cell? ⟨g, 4, none⟩ = some a4 ∧ w'.cell? ⟨g, 5, none⟩ = some a5 := by
  have hg : g < w.heap.size := World.block_lt_of_cell? w _ h.1
  obtain ⟨h0, h1, h2, h3, h4, h5⟩ := h
  exact ⟨(hb.cell (p := ⟨g, 0, none⟩) hg).trans h0, (hb.cell (p := ⟨g, 1, none⟩) hg).trans h1, (hb.cell (p := ⟨g, 2, none⟩) hg).trans h2, (hb.cell (p := ⟨g, 3, none⟩) hg).trans h3, (hb.cell (p := ⟨g, 4, none⟩) hg).trans h4, (hb.cell (p := ⟨g, 5, none⟩) hg).trans h5⟩
theorem kept12 {w w' : World} {g g' : Nat} {a0 a1 a2 a3 a4 a5 b0 b1 b2 b3 b4 b5 : Value} (h : (w.cell? ⟨g, 0, none⟩ = some a0 ∧ w.cell? ⟨g, 1, none⟩ = some a1 ∧ w.cell? ⟨g, 2, none⟩ = some a2 ∧ w.cell? ⟨g, 3, none⟩ = some a3 ∧ w.cell? ⟨g, 4, none⟩ = some a4 ∧ w.cell? ⟨g, 5, none⟩ = some a5) ∧ (w.cell? ⟨g', 0, none⟩ = some b0 ∧ w.cell? ⟨g', 1, none⟩ = some b1 ∧ w.cell? ⟨g', 2, none⟩ = some b2 ∧ w.cell? ⟨g', 3, none⟩ = some b3 ∧ w.cell? ⟨g', 4, none⟩ = some b4 ∧ w.cell? ⟨g', 5, none⟩ = some b5)) (hb : Below w.heap.size w w') :
    (w'.cell? ⟨g, 0, none⟩ = some a0 ∧ w'.cell? ⟨g, 1, none⟩ = some a1 ∧ w'.cell? ⟨g, 2, none⟩ = some a2 ∧ w'.cell? ⟨g, 3, none⟩ = some a3 ∧ w'.cell? ⟨g, 4, none⟩ = some a4 ∧ w'.cell? ⟨g, 5, none⟩ = some a5) ∧ (w'.cell? ⟨g', 0, none⟩ = some b0 ∧ w'.cell? ⟨g', 1, none⟩ = some b1 ∧ w'.cell? ⟨g', 2, none⟩ = some b2 ∧ w'.cell? ⟨g', 3, none⟩ = some b3 ∧ w'.cell? ⟨g', 4, none⟩ = some b4 ∧ w'.cell? ⟨g', 5, none⟩ = some b5) :=
  ⟨kept6 h.1 hb, kept6 h.2 hb⟩

set_option maxHeartbeats 4000000 in
theorem law_LastOf_of (hI : SaysOk 39) (v : Value) (S : DState) (client : Int) (w : World) (h : VState w v S) (hr : rngSt S) :
    Calls Try.prog 8 #[v, .int .i64 client] w fun e w' => e = .returned (.bool true) ∧ Below w.heap.size w w' := by
  have hE : ∀ w : World, ∀ o, Ext w (w.alloc o) := fun w o => World.grownBy_alloc _ _ _
  have hB : ∀ w : World, ∀ o, Below w.heap.size w (w.alloc o) := fun w o => (Below.refl _ w).alloc (Nat.le_refl _) _
  have h0 : Hid (VState w v S) := h
  have HI : Hid (SaysOk 39) := hI
  have HR : Hid (rngSt S) := hr
  clear hI hr
  obtain ⟨rv, tv, sv, lv, rfl, _, _, _, _⟩ := h
  go_enter Try.func8, Try.ntmps8
  go_wp2_with fail
  refine (szSt _ S 1048576 _ (h0.out.ext (hE _ _)) (by omega) (by omega)).mono ?_
  rintro e w1 ⟨r, rfl, hrr, b1⟩
  have B1 := (hB w _).trans (b1.mono (by simp))
  have P1 := below_blk b1 (by simp) (heap_alloc_new w _)
  rcases hrr with ⟨h1, rfl⟩ | ⟨h1, h2⟩
  · go_wp2
    go_ret
    exact ⟨rfl, B1⟩
  · have HL : Hid (LenSt S 1048576) := lenSt_of (by omega)
    have hr0 : 0 ≤ r := by omega
    clear h1 h2 b1
    obtain ⟨p0, _⟩ := at_block P1 0 _ rfl
    obtain ⟨p1, _⟩ := at_block P1 1 _ rfl
    obtain ⟨p2, _⟩ := at_block P1 2 _ rfl
    obtain ⟨p3, _⟩ := at_block P1 3 _ rfl
    obtain ⟨p4, _⟩ := at_block P1 4 _ rfl
    obtain ⟨p5, _⟩ := at_block P1 5 _ rfl
    go_wp2_with fail
    refine (toSt _ S w1 (h0.out.ext (ext_below B1)) HL.out).mono ?_
    rintro e w2 ⟨gr2, gt2, gs2, gl2, rfl, o2, b2⟩
    have B2 := B1.trans (b2.mono B1.size)
    have s1 := b2.size
    go_wp2_with fail
    refine (sLastOfV HI.out _ S client w2 (o2.v HL.out HR.out)).mono ?_
    rintro e w3 ⟨d3, f3, rfl, b3, L3⟩
    unfold lastV
    have B3 := B2.trans (b3.mono B2.size)
    have hs3 : w.heap.size < w3.heap.size := by
      have := (Array.getElem?_eq_some_iff.1 P1).1
      have := b3.size
      omega
    have P3 := below_blk b3 (by have := (Array.getElem?_eq_some_iff.1 P1).1; omega) (below_blk b2 (Array.getElem?_eq_some_iff.1 P1).1 P1)
    have HL3 : Hid (LastRes S client d3 f3) := L3
    clear p0 p1 p2 p3 p4 p5 o2 b2 b3 L3 s1
    have q0 : ∀ ob, (w3.alloc ob).cell? ⟨w.heap.size, 0, none⟩ = _ := fun ob => World.grownBy.cell (hE w3 ob) (at_block P3 0 _ rfl).1 (by simp)
    have q1 : ∀ ob, (w3.alloc ob).cell? ⟨w.heap.size, 1, none⟩ = _ := fun ob => World.grownBy.cell (hE w3 ob) (at_block P3 1 _ rfl).1 (by simp)
    have q2 : ∀ ob, (w3.alloc ob).cell? ⟨w.heap.size, 2, none⟩ = _ := fun ob => World.grownBy.cell (hE w3 ob) (at_block P3 2 _ rfl).1 (by simp)
    have q3 : ∀ ob, (w3.alloc ob).cell? ⟨w.heap.size, 3, none⟩ = _ := fun ob => World.grownBy.cell (hE w3 ob) (at_block P3 3 _ rfl).1 (by simp)
    have q4 : ∀ ob, (w3.alloc ob).cell? ⟨w.heap.size, 4, none⟩ = _ := fun ob => World.grownBy.cell (hE w3 ob) (at_block P3 4 _ rfl).1 (by simp)
    have q5 : ∀ ob, (w3.alloc ob).cell? ⟨w.heap.size, 5, none⟩ = _ := fun ob => World.grownBy.cell (hE w3 ob) (at_block P3 5 _ rfl).1 (by simp)
    go_wp2_with fail
    refine (toSt _ S _ (h0.out.ext ((ext_below B3).tr (hE _ _))) HL.out).mono ?_
    rintro e w4 ⟨gr, gt, gs, gl, rfl, o4, b4⟩
    have B4 : Below w.heap.size w w4 := (B3.alloc B3.size _).trans (b4.mono (by have := B3.size; simp; omega))
    have V4 : Hid (VState w4 (stV gr gt gs gl S) S) := o4.v HL.out HR.out
    have P4 := below_blk b4 (by simp; omega) ((Below.heap_alloc w3 _ w.heap.size (by omega)).trans P3)
    have G4 := below_blk b4 (by simp) (heap_alloc_new w3 _)
    have hs4 : w3.heap.size < w4.heap.size := (Array.getElem?_eq_some_iff.1 G4).1
    clear q0 q1 q2 q3 q4 q5 o4 b4 P3
    unfold stV at V4 ⊢
    go_wp2_with fail
    refine (iLastOfV _ S client _ (V4.out.ext (hE _ _))).mono ?_
    rintro e w5 ⟨d5, f5, rfl, b5, L5⟩
    obtain ⟨rfl, rfl⟩ := LastRes.one HL3.out L5
    clear L5 HL3
    unfold lastV
    have P5 := below_blk b5 (by simp; omega) ((Below.heap_alloc w4 _ w.heap.size (by omega)).trans P4)
    have G5 := below_blk b5 (by simp; omega) ((Below.heap_alloc w4 _ w3.heap.size (by omega)).trans G4)
    have T5 := below_blk b5 (by simp) (heap_alloc_new w4 _)
    have V5 : Hid (VState w5 (.agg #[.int .i64 S.index, .slice (some ⟨gr, 0, none⟩) S.rows.length S.rows.length, .slice (some ⟨gt, 0, none⟩) S.tombs.length S.tombs.length, .int .i64 S.lost, .slice (some ⟨gs, 0, none⟩) S.sess.length S.sess.length, .slice (some ⟨gl, 0, none⟩) S.lasts.length S.lasts.length]) S) := (V4.out.ext (hE w4 _)).ext (ext_below b5)
    have B5 := (B4.alloc B4.size _).trans (b5.mono (by have := B4.size; simp; omega))
    have hs5 : w4.heap.size < w5.heap.size := (Array.getElem?_eq_some_iff.1 T5).1
    clear b5 P4 G4 V4
    have n0 : ∀ ob, (w5.alloc ob).cell? ⟨w3.heap.size, 0, none⟩ = some (.int .i64 d3.client) := fun ob => World.grownBy.cell (hE w5 ob) (at_block G5 0 _ rfl).1 (by simp)
    have n1 : ∀ ob, (w5.alloc ob).cell? ⟨w3.heap.size, 1, none⟩ = some (.int .i64 d3.req) := fun ob => World.grownBy.cell (hE w5 ob) (at_block G5 1 _ rfl).1 (by simp)
    have n2 : ∀ ob, (w5.alloc ob).cell? ⟨w3.heap.size, 2, none⟩ = some (.int .i64 d3.code) := fun ob => World.grownBy.cell (hE w5 ob) (at_block G5 2 _ rfl).1 (by simp)
    have n3 : ∀ ob, (w5.alloc ob).cell? ⟨w3.heap.size, 3, none⟩ = some (.int .i64 d3.index) := fun ob => World.grownBy.cell (hE w5 ob) (at_block G5 3 _ rfl).1 (by simp)
    go_wp2_with fail
    refine (eqEl_L _ _).mono ?_
    rintro e V ⟨rfl, b6⟩
    have P6 := below_blk b6 (by simp; omega) ((Below.heap_alloc w5 _ w.heap.size (by omega)).trans P5)
    have T6 := below_blk b6 (by simp; omega) ((Below.heap_alloc w5 _ w4.heap.size (by omega)).trans T5)
    have B6 : Below w.heap.size w V := (B5.alloc B5.size _).trans (b6.mono (by have := B5.size; simp; omega))
    have V6 : Hid (VState V (.agg #[.int .i64 S.index, .slice (some ⟨gr, 0, none⟩) S.rows.length S.rows.length, .slice (some ⟨gt, 0, none⟩) S.tombs.length S.tombs.length, .int .i64 S.lost, .slice (some ⟨gs, 0, none⟩) S.sess.length S.sess.length, .slice (some ⟨gl, 0, none⟩) S.lasts.length S.lasts.length]) S) := (V5.out.ext (hE w5 _)).ext (ext_below b6)
    clear b6 P5 G5 T5 V5 n0 n1 n2 n3
    obtain ⟨q0, _⟩ := at_block P6 0 _ rfl
    obtain ⟨q1, _⟩ := at_block P6 1 _ rfl
    obtain ⟨q2, _⟩ := at_block P6 2 _ rfl
    obtain ⟨q3, _⟩ := at_block P6 3 _ rfl
    obtain ⟨q4, _⟩ := at_block P6 4 _ rfl
    obtain ⟨q5, _⟩ := at_block P6 5 _ rfl
    obtain ⟨t0, _⟩ := at_block T6 0 _ rfl
    obtain ⟨t1, _⟩ := at_block T6 1 _ rfl
    obtain ⟨t2, _⟩ := at_block T6 2 _ rfl
    obtain ⟨t3, _⟩ := at_block T6 3 _ rfl
    obtain ⟨t4, _⟩ := at_block T6 4 _ rfl
    obtain ⟨t5, _⟩ := at_block T6 5 _ rfl
    have S5 : (V.cell? ⟨w4.heap.size, 0, none⟩ = some (.int .i64 S.index) ∧ V.cell? ⟨w4.heap.size, 1, none⟩ = some (.slice (some ⟨gr, 0, none⟩) S.rows.length S.rows.length) ∧ V.cell? ⟨w4.heap.size, 2, none⟩ = some (.slice (some ⟨gt, 0, none⟩) S.tombs.length S.tombs.length) ∧ V.cell? ⟨w4.heap.size, 3, none⟩ = some (.int .i64 S.lost) ∧ V.cell? ⟨w4.heap.size, 4, none⟩ = some (.slice (some ⟨gs, 0, none⟩) S.sess.length S.sess.length) ∧ V.cell? ⟨w4.heap.size, 5, none⟩ = some (.slice (some ⟨gl, 0, none⟩) S.lasts.length S.lasts.length)) ∧ (V.cell? ⟨w.heap.size, 0, none⟩ = some (.int .i64 S.index) ∧ V.cell? ⟨w.heap.size, 1, none⟩ = some rv ∧ V.cell? ⟨w.heap.size, 2, none⟩ = some tv ∧ V.cell? ⟨w.heap.size, 3, none⟩ = some (.int .i64 S.lost) ∧ V.cell? ⟨w.heap.size, 4, none⟩ = some sv ∧ V.cell? ⟨w.heap.size, 5, none⟩ = some lv) := ⟨⟨t0, t1, t2, t3, t4, t5⟩, ⟨q0, q1, q2, q3, q4, q5⟩⟩
    have HS5 : Hid _ := S5
    have X5 : Ext V V.drew := ext_drewN V 1
    go_wp2_with fail
    go_region_held3 (fun w' => w'.cell? ⟨w4.heap.size, 0, none⟩ = some (.int .i64 S.index) ∧ w'.cell? ⟨w4.heap.size, 1, none⟩ = some (.slice (some ⟨gr, 0, none⟩) S.rows.length S.rows.length) ∧ w'.cell? ⟨w4.heap.size, 2, none⟩ = some (.slice (some ⟨gt, 0, none⟩) S.tombs.length S.tombs.length) ∧ w'.cell? ⟨w4.heap.size, 3, none⟩ = some (.int .i64 S.lost) ∧ w'.cell? ⟨w4.heap.size, 4, none⟩ = some (.slice (some ⟨gs, 0, none⟩) S.sess.length S.sess.length) ∧ w'.cell? ⟨w4.heap.size, 5, none⟩ = some (.slice (some ⟨gl, 0, none⟩) S.lasts.length S.lasts.length) ∧ w'.cell? ⟨w.heap.size, 0, none⟩ = some (.int .i64 S.index) ∧ w'.cell? ⟨w.heap.size, 1, none⟩ = some rv ∧ w'.cell? ⟨w.heap.size, 2, none⟩ = some tv ∧ w'.cell? ⟨w.heap.size, 3, none⟩ = some (.int .i64 S.lost) ∧ w'.cell? ⟨w.heap.size, 4, none⟩ = some sv ∧ w'.cell? ⟨w.heap.size, 5, none⟩ = some lv) (simp [*])
      (first | (go_at_call 11; refine (toSt _ S _ ?_ HL.out).mono ?_; exact (h0.out.ext (ext_below B6)).ext X5; rintro e w6 ⟨gr6, gt6, gs6, gl6, rfl, o6, b6⟩; obtain ⟨⟨a0, a1, a2, a3, a4, a5⟩, ⟨c0, c1, c2, c3, c4, c5⟩⟩ := kept12 (w := V.drew) HS5.out b6) | (go_at_call 15; refine (eqSt _ _ S _ ?_ ?_ HL.out).mono ?_; exact (V6.out.ext X5).ext (ext_below b6); exact o6.v HL.out HR.out; rintro e w7 ⟨rfl, b7⟩; obtain ⟨⟨a0', a1', a2', a3', a4', a5'⟩, ⟨c0', c1', c2', c3', c4', c5'⟩⟩ := kept12 ⟨⟨a0, a1, a2, a3, a4, a5⟩, ⟨c0, c1, c2, c3, c4, c5⟩⟩ b7))
    all_goals
      go_wp2
      go_ret
      exact ⟨rfl, ((below_drewN B6 1).trans (b6.mono B6.size)).trans (b7.mono (Nat.le_trans B6.size b6.size))⟩

end Go.Proofs.Ytplgnohncdfgcak
