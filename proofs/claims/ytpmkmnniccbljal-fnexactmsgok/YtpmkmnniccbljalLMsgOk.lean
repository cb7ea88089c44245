/- The exact statement of MsgOk: the walk of the law itself, out of both contracts. -/
import Derived.Test.YtpmkmnniccbljalMsB
import Derived.Test.YtpmkmnniccbljalSum0
import Derived.Deep.RegionHeld3
namespace Go.Proofs.Ytpmkmnniccbljal
open Go.RowKit

theorem kept9 {w w' : World} {g : Nat} {a0 a1 a2 a3 a4 a5 a6 a7 a8 : Value} (h : w.cell? ⟨g, 0, none⟩ = some a0 ∧ w.cell? ⟨g, 1, none⟩ = some a1 ∧ w.cell? ⟨g, 2, none⟩ = some a2 ∧ w.cell? ⟨g, 3, none⟩ = some a3 ∧ w.cell? ⟨g, 4, none⟩ = some a4 ∧ w.cell? ⟨g, 5, none⟩ = some a5 ∧ w.cell? ⟨g, 6, none⟩ = some a6 ∧ w.cell? ⟨g, 7, none⟩ = some a7 ∧ w.cell? ⟨g, 8, none⟩ = some a8) (hb : Below w.heap.size w w') :
    w'.cell? ⟨g, 0, none⟩ = some a0 ∧ w'.cell? ⟨g, 1, none⟩ = some a1 ∧ w'.cell? ⟨g, 2, none⟩ = some a2 ∧ w'.cell? ⟨g, 3, none⟩ = some a3 ∧ w'.cell? ⟨g, 4, none⟩ = some a4 ∧ w'.cell? ⟨g, 5, none⟩ = some a5 ∧ w'.cell? ⟨g, 6, none⟩ = some a6 ∧ w'.cell? ⟨g, 7, none⟩ = some a7 ∧ w'.cell? ⟨g, 8, none⟩ = some a8 := by
  have hg : g < w.heap.size := World.block_lt_of_cell? w _ h.1
  obtain ⟨h0, h1, h2, h3, h4, h5, h6, h7, h8⟩ := h
  exact ⟨(hb.cell (p := ⟨g, 0, none⟩) hg).trans h0, (hb.cell (p := ⟨g, 1, none⟩) hg).trans h1, (hb.cell (p := ⟨g, 2, none⟩) hg).trans h2, (hb.cell (p := ⟨g, 3, none⟩) hg).trans h3, (hb.cell (p := ⟨g, 4, none⟩) hg).trans h4, (hb.cell (p := ⟨g, 5, none⟩) hg).trans h5, (hb.cell (p := ⟨g, 6, none⟩) hg).trans h6, (hb.cell (p := ⟨g, 7, none⟩) hg).trans h7, (hb.cell (p := ⟨g, 8, none⟩) hg).trans h8⟩
theorem kept18 {w w' : World} {g g' : Nat} {a0 a1 a2 a3 a4 a5 a6 a7 a8 b0 b1 b2 b3 b4 b5 b6 b7 b8 : Value} (h : (w.cell? ⟨g, 0, none⟩ = some a0 ∧ w.cell? ⟨g, 1, none⟩ = some a1 ∧ w.cell? ⟨g, 2, none⟩ = some a2 ∧ w.cell? ⟨g, 3, none⟩ = some a3 ∧ w.cell? ⟨g, 4, none⟩ = some a4 ∧ w.cell? ⟨g, 5, none⟩ = some a5 ∧ w.cell? ⟨g, 6, none⟩ = some a6 ∧ w.cell? ⟨g, 7, none⟩ = some a7 ∧ w.cell? ⟨g, 8, none⟩ = some a8) ∧ (w.cell? ⟨g', 0, none⟩ = some b0 ∧ w.cell? ⟨g', 1, none⟩ = some b1 ∧ w.cell? ⟨g', 2, none⟩ = some b2 ∧ w.cell? ⟨g', 3, none⟩ = some b3 ∧ w.cell? ⟨g', 4, none⟩ = some b4 ∧ w.cell? ⟨g', 5, none⟩ = some b5 ∧ w.cell? ⟨g', 6, none⟩ = some b6 ∧ w.cell? ⟨g', 7, none⟩ = some b7 ∧ w.cell? ⟨g', 8, none⟩ = some b8)) (hb : Below w.heap.size w w') :
    (w'.cell? ⟨g, 0, none⟩ = some a0 ∧ w'.cell? ⟨g, 1, none⟩ = some a1 ∧ w'.cell? ⟨g, 2, none⟩ = some a2 ∧ w'.cell? ⟨g, 3, none⟩ = some a3 ∧ w'.cell? ⟨g, 4, none⟩ = some a4 ∧ w'.cell? ⟨g, 5, none⟩ = some a5 ∧ w'.cell? ⟨g, 6, none⟩ = some a6 ∧ w'.cell? ⟨g, 7, none⟩ = some a7 ∧ w'.cell? ⟨g, 8, none⟩ = some a8) ∧ (w'.cell? ⟨g', 0, none⟩ = some b0 ∧ w'.cell? ⟨g', 1, none⟩ = some b1 ∧ w'.cell? ⟨g', 2, none⟩ = some b2 ∧ w'.cell? ⟨g', 3, none⟩ = some b3 ∧ w'.cell? ⟨g', 4, none⟩ = some b4 ∧ w'.cell? ⟨g', 5, none⟩ = some b5 ∧ w'.cell? ⟨g', 6, none⟩ = some b6 ∧ w'.cell? ⟨g', 7, none⟩ = some b7 ∧ w'.cell? ⟨g', 8, none⟩ = some b8) :=
  ⟨kept9 h.1 hb, kept9 h.2 hb⟩

/-- What a MsgOk must answer. -/
def MsgSays (P : DMsg → Prop) (g : FuncId) : Prop := ∀ (v : Value) (M : DMsg) (w : World), VMsg w v M → Calls Try.prog g #[v] w fun e w' => e = .returned (.bool (tB (P M))) ∧ Below w.heap.size w w'

set_option maxHeartbeats 4000000 in
theorem law_MsgOk_of (P : DMsg → Prop) (hI : MsgSays P 23) (hJ : MsgSays P 25) (v : Value) (M : DMsg) (w : World) (h : VMsg w v M) :
    Calls Try.prog 5 #[v] w fun e w' => e = .returned (.bool true) ∧ Below w.heap.size w w' := by
  have hE : ∀ w : World, ∀ o, Ext w (w.alloc o) := fun w o => World.grownBy_alloc _ _ _
  have hB : ∀ w : World, ∀ o, Below w.heap.size w (w.alloc o) := fun w o => (Below.refl _ w).alloc (Nat.le_refl _) _
  have h0 : Hid (VMsg w v M) := h
  have HI : Hid (MsgSays P 23) := hI
  have HJ : Hid (MsgSays P 25) := hJ
  clear hI hJ
  obtain ⟨iv, rfl, _⟩ := h
  obtain ⟨ob, hob⟩ : ∃ ob, ob = tB (P M) := ⟨_, rfl⟩
  have HB : Hid (ob = tB (P M)) := hob
  clear hob
  go_enter Try.func5, Try.ntmps5
  go_wp2_with fail
  refine (szM _ M 1048576 _ (h0.out.ext (hE _ _)) (by omega) (by omega)).mono ?_
  rintro e w1 ⟨r, rfl, hrr, b1⟩
  have B1 := (hB w _).trans (b1.mono (by simp))
  have P1 := below_blk b1 (by simp) (heap_alloc_new w _)
  rcases hrr with ⟨h1, rfl⟩ | ⟨h1, h2⟩
  · go_wp2
    go_ret
    exact ⟨rfl, B1⟩
  · have HL : Hid (LenM M 1048576) := lenM_of (by omega)
    have hr0 : 0 ≤ r := by omega
    clear h1 h2 b1
    obtain ⟨p0, _⟩ := at_block P1 0 _ rfl
    obtain ⟨p1, _⟩ := at_block P1 1 _ rfl
    obtain ⟨p2, _⟩ := at_block P1 2 _ rfl
    obtain ⟨p3, _⟩ := at_block P1 3 _ rfl
    obtain ⟨p4, _⟩ := at_block P1 4 _ rfl
    obtain ⟨p5, _⟩ := at_block P1 5 _ rfl
    obtain ⟨p6, _⟩ := at_block P1 6 _ rfl
    obtain ⟨p7, _⟩ := at_block P1 7 _ rfl
    obtain ⟨p8, _⟩ := at_block P1 8 _ rfl
    go_wp2_with fail
    refine (toM _ M w1 (h0.out.ext (ext_below B1)) HL.out).mono ?_
    rintro e w2 ⟨v2, rfl, o2, b2⟩
    have B2 := B1.trans (b2.mono B1.size)
    have s1 := b2.size
    go_wp2_with fail
    refine (HI.out _ M w2 o2).mono ?_
    rintro e w3 ⟨rfl, b3⟩
    rw [← HB.out]
    have B3 := B2.trans (b3.mono B2.size)
    have hs3 : w.heap.size < w3.heap.size := by
      have := (Array.getElem?_eq_some_iff.1 P1).1
      have := b3.size
      omega
    have P3 := below_blk b3 (by have := (Array.getElem?_eq_some_iff.1 P1).1; omega) (below_blk b2 (Array.getElem?_eq_some_iff.1 P1).1 P1)
    obtain ⟨q0, _⟩ := at_block P3 0 _ rfl
    obtain ⟨q1, _⟩ := at_block P3 1 _ rfl
    obtain ⟨q2, _⟩ := at_block P3 2 _ rfl
    obtain ⟨q3, _⟩ := at_block P3 3 _ rfl
    obtain ⟨q4, _⟩ := at_block P3 4 _ rfl
    obtain ⟨q5, _⟩ := at_block P3 5 _ rfl
    obtain ⟨q6, _⟩ := at_block P3 6 _ rfl
    obtain ⟨q7, _⟩ := at_block P3 7 _ rfl
    obtain ⟨q8, _⟩ := at_block P3 8 _ rfl
    clear p0 p1 p2 p3 p4 p5 p6 p7 p8 o2
    go_wp2_with fail
    refine (toM _ M w3 (h0.out.ext (ext_below B3)) HL.out).mono ?_
    rintro e w4 ⟨v4, rfl, o4, b4⟩
    have B4 := B3.trans (b4.mono B3.size)
    have V4 : Hid (VMsg w4 v4 M) := o4
    obtain ⟨jv, rfl, hj⟩ := o4
    obtain ⟨xa, xc, rfl⟩ := items_shape hj
    clear hj
    have P4 := below_blk b4 hs3 P3
    have hs4 := b4.size
    clear q0 q1 q2 q3 q4 q5 q6 q7 q8 b4 b3 b2
    go_wp2_with fail
    refine (HJ.out _ M _ (V4.out.ext (hE _ _))).mono ?_
    rintro e w5 ⟨rfl, b5⟩
    rw [← HB.out]
    have X4 : ∀ o, Ext w4 (w4.alloc o) := hE w4
    have P5 := below_blk b5 (by simp; omega) ((Below.heap_alloc w4 _ w.heap.size (by omega)).trans P4)
    have T5 := below_blk b5 (by simp) (heap_alloc_new w4 _)
    have V5 : Hid (VMsg w5 (.agg #[.int .i64 M.kind, .int .i64 M.from_, .int .i64 M.to, .int .i64 M.term, .int .i64 M.prev, .int .i64 M.prevTerm, .slice xa M.items.length xc, .int .i64 M.commit, .bool M.yes]) M) := (V4.out.ext (X4 _)).ext (ext_below b5)
    have B5 := (B4.alloc B4.size _).trans (b5.mono (by have := B4.size; simp; omega))
    have hs5 : w4.heap.size < w5.heap.size := (Array.getElem?_eq_some_iff.1 T5).1
    obtain ⟨q0, _⟩ := at_block P5 0 _ rfl
    obtain ⟨q1, _⟩ := at_block P5 1 _ rfl
    obtain ⟨q2, _⟩ := at_block P5 2 _ rfl
    obtain ⟨q3, _⟩ := at_block P5 3 _ rfl
    obtain ⟨q4, _⟩ := at_block P5 4 _ rfl
    obtain ⟨q5, _⟩ := at_block P5 5 _ rfl
    obtain ⟨q6, _⟩ := at_block P5 6 _ rfl
    obtain ⟨q7, _⟩ := at_block P5 7 _ rfl
    obtain ⟨q8, _⟩ := at_block P5 8 _ rfl
    obtain ⟨t0, _⟩ := at_block T5 0 _ rfl
    obtain ⟨t1, _⟩ := at_block T5 1 _ rfl
    obtain ⟨t2, _⟩ := at_block T5 2 _ rfl
    obtain ⟨t3, _⟩ := at_block T5 3 _ rfl
    obtain ⟨t4, _⟩ := at_block T5 4 _ rfl
    obtain ⟨t5, _⟩ := at_block T5 5 _ rfl
    obtain ⟨t6, _⟩ := at_block T5 6 _ rfl
    obtain ⟨t7, _⟩ := at_block T5 7 _ rfl
    obtain ⟨t8, _⟩ := at_block T5 8 _ rfl
    clear b5
    have S5 : (w5.cell? ⟨w4.heap.size, 0, none⟩ = some (.int .i64 M.kind) ∧ w5.cell? ⟨w4.heap.size, 1, none⟩ = some (.int .i64 M.from_) ∧ w5.cell? ⟨w4.heap.size, 2, none⟩ = some (.int .i64 M.to) ∧ w5.cell? ⟨w4.heap.size, 3, none⟩ = some (.int .i64 M.term) ∧ w5.cell? ⟨w4.heap.size, 4, none⟩ = some (.int .i64 M.prev) ∧ w5.cell? ⟨w4.heap.size, 5, none⟩ = some (.int .i64 M.prevTerm) ∧ w5.cell? ⟨w4.heap.size, 6, none⟩ = some (.slice xa M.items.length xc) ∧ w5.cell? ⟨w4.heap.size, 7, none⟩ = some (.int .i64 M.commit) ∧ w5.cell? ⟨w4.heap.size, 8, none⟩ = some (.bool M.yes)) ∧ (w5.cell? ⟨w.heap.size, 0, none⟩ = some (.int .i64 M.kind) ∧ w5.cell? ⟨w.heap.size, 1, none⟩ = some (.int .i64 M.from_) ∧ w5.cell? ⟨w.heap.size, 2, none⟩ = some (.int .i64 M.to) ∧ w5.cell? ⟨w.heap.size, 3, none⟩ = some (.int .i64 M.term) ∧ w5.cell? ⟨w.heap.size, 4, none⟩ = some (.int .i64 M.prev) ∧ w5.cell? ⟨w.heap.size, 5, none⟩ = some (.int .i64 M.prevTerm) ∧ w5.cell? ⟨w.heap.size, 6, none⟩ = some iv ∧ w5.cell? ⟨w.heap.size, 7, none⟩ = some (.int .i64 M.commit) ∧ w5.cell? ⟨w.heap.size, 8, none⟩ = some (.bool M.yes)) := ⟨⟨t0, t1, t2, t3, t4, t5, t6, t7, t8⟩, ⟨q0, q1, q2, q3, q4, q5, q6, q7, q8⟩⟩
    have HS5 : Hid _ := S5
    have X5 : Ext w5 w5.drew := ext_drewN w5 1
    go_wp2_with fail
    go_region_held3 (fun w' => w'.cell? ⟨w4.heap.size, 0, none⟩ = some (.int .i64 M.kind) ∧ w'.cell? ⟨w4.heap.size, 1, none⟩ = some (.int .i64 M.from_) ∧ w'.cell? ⟨w4.heap.size, 2, none⟩ = some (.int .i64 M.to) ∧ w'.cell? ⟨w4.heap.size, 3, none⟩ = some (.int .i64 M.term) ∧ w'.cell? ⟨w4.heap.size, 4, none⟩ = some (.int .i64 M.prev) ∧ w'.cell? ⟨w4.heap.size, 5, none⟩ = some (.int .i64 M.prevTerm) ∧ w'.cell? ⟨w4.heap.size, 6, none⟩ = some (.slice xa M.items.length xc) ∧ w'.cell? ⟨w4.heap.size, 7, none⟩ = some (.int .i64 M.commit) ∧ w'.cell? ⟨w4.heap.size, 8, none⟩ = some (.bool M.yes) ∧ w'.cell? ⟨w.heap.size, 0, none⟩ = some (.int .i64 M.kind) ∧ w'.cell? ⟨w.heap.size, 1, none⟩ = some (.int .i64 M.from_) ∧ w'.cell? ⟨w.heap.size, 2, none⟩ = some (.int .i64 M.to) ∧ w'.cell? ⟨w.heap.size, 3, none⟩ = some (.int .i64 M.term) ∧ w'.cell? ⟨w.heap.size, 4, none⟩ = some (.int .i64 M.prev) ∧ w'.cell? ⟨w.heap.size, 5, none⟩ = some (.int .i64 M.prevTerm) ∧ w'.cell? ⟨w.heap.size, 6, none⟩ = some iv ∧ w'.cell? ⟨w.heap.size, 7, none⟩ = some (.int .i64 M.commit) ∧ w'.cell? ⟨w.heap.size, 8, none⟩ = some (.bool M.yes)) (simp [*])
      (first | (go_at_call 24; refine (toM _ M _ ?_ HL.out).mono ?_; exact (h0.out.ext (ext_below B5)).ext X5; rintro e w6 ⟨v6, rfl, o6, b6⟩; obtain ⟨⟨a0, a1, a2, a3, a4, a5, a6, a7, a8⟩, ⟨c0, c1, c2, c3, c4, c5, c6, c7, c8⟩⟩ := kept18 (w := w5.drew) HS5.out b6) | (go_at_call 26; refine (eqM _ _ M _ ?_ ?_ (HL.out.mono (by omega)) HL.out.1).mono ?_; exact (V5.out.ext X5).ext (ext_below b6); exact o6; rintro e w7 ⟨rfl, b7⟩; obtain ⟨⟨a0', a1', a2', a3', a4', a5', a6', a7', a8'⟩, ⟨c0', c1', c2', c3', c4', c5', c6', c7', c8'⟩⟩ := kept18 ⟨⟨a0, a1, a2, a3, a4, a5, a6, a7, a8⟩, ⟨c0, c1, c2, c3, c4, c5, c6, c7, c8⟩⟩ b7))
    all_goals
      go_wp2
      go_ret
      exact ⟨rfl, ((below_drewN B5 1).trans (b6.mono B5.size)).trans (b7.mono (Nat.le_trans B5.size b6.size))⟩

end Go.Proofs.Ytpmkmnniccbljal
