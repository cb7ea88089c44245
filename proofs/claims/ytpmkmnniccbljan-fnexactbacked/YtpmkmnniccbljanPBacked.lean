/- The exact statement of Backed holds, without a condition. -/
import Derived.Test.YtpmkmnniccbljanNdB
import Derived.Test.YtpmkmnniccbljanSum0
import Derived.Deep.RegionHeld3
import Derived.Test.YtpmkmnniccbljanOpenI
import Derived.Test.YtpmkmnniccbljanNdQ
import Derived.Test.YtpmkmnniccbljanRows
import Derived.ProofKit
import Derived.OpenShut
import Derived.ChangeOld
import Derived.Carry
namespace Go.Proofs.Ytpmkmnniccbljan
open Go.RowKit

theorem kept11 {w w' : World} {g : Nat} {a0 a1 a2 a3 a4 a5 a6 a7 a8 a9 a10 : Value} (h : w.cell? ⟨g, 0, none⟩ = some a0 ∧ w.cell? ⟨g, 1, none⟩ = some a1 ∧ w.cell? ⟨g, 2, none⟩ = some a2 ∧ w.cell? ⟨g, 3, none⟩ = some a3 ∧ w.cell? ⟨g, 4, none⟩ = some a4 ∧ w.cell? ⟨g, 5, none⟩ = some a5 ∧ w.cell? ⟨g, 6, none⟩ = some a6 ∧ w.cell? ⟨g, 7, none⟩ = some a7 ∧ w.cell? ⟨g, 8, none⟩ = some a8 ∧ w.cell? ⟨g, 9, none⟩ = some a9 ∧ w.cell? ⟨g, 10, none⟩ = some a10) (hb : Below w.heap.size w w') :
    w'.cell? ⟨g, 0, none⟩ = some a0 ∧ w'.cell? ⟨g, 1, none⟩ = some a1 ∧ w'.cell? ⟨g, 2, none⟩ = some a2 ∧ w'.cell? ⟨g, 3, none⟩ = some a3 ∧ w'.cell? ⟨g, 4, none⟩ = some a4 ∧ w'.cell? ⟨g, 5, none⟩ = some a5 ∧ w'.cell? ⟨g, 6, none⟩ = some a6 ∧ w'.cell? ⟨g, 7, none⟩ = some a7 ∧ w'.cell? ⟨g, 8, none⟩ = some a8 ∧ w'.cell? ⟨g, 9, none⟩ = some a9 ∧ w'.cell? ⟨g, 10, none⟩ = some a10 := by
  have hg : g < w.heap.size := World.block_lt_of_cell? w _ h.1
  obtain ⟨h0, h1, h2, h3, h4, h5, h6, h7, h8, h9, h10⟩ := h
  exact ⟨(hb.cell (p := ⟨g, 0, none⟩) hg).trans h0, (hb.cell (p := ⟨g, 1, none⟩) hg).trans h1, (hb.cell (p := ⟨g, 2, none⟩) hg).trans h2, (hb.cell (p := ⟨g, 3, none⟩) hg).trans h3, (hb.cell (p := ⟨g, 4, none⟩) hg).trans h4, (hb.cell (p := ⟨g, 5, none⟩) hg).trans h5, (hb.cell (p := ⟨g, 6, none⟩) hg).trans h6, (hb.cell (p := ⟨g, 7, none⟩) hg).trans h7, (hb.cell (p := ⟨g, 8, none⟩) hg).trans h8, (hb.cell (p := ⟨g, 9, none⟩) hg).trans h9, (hb.cell (p := ⟨g, 10, none⟩) hg).trans h10⟩
theorem kept22 {w w' : World} {g g' : Nat} {a0 a1 a2 a3 a4 a5 a6 a7 a8 a9 a10 b0 b1 b2 b3 b4 b5 b6 b7 b8 b9 b10 : Value} (h : (w.cell? ⟨g, 0, none⟩ = some a0 ∧ w.cell? ⟨g, 1, none⟩ = some a1 ∧ w.cell? ⟨g, 2, none⟩ = some a2 ∧ w.cell? ⟨g, 3, none⟩ = some a3 ∧ w.cell? ⟨g, 4, none⟩ = some a4 ∧ w.cell? ⟨g, 5, none⟩ = some a5 ∧ w.cell? ⟨g, 6, none⟩ = some a6 ∧ w.cell? ⟨g, 7, none⟩ = some a7 ∧ w.cell? ⟨g, 8, none⟩ = some a8 ∧ w.cell? ⟨g, 9, none⟩ = some a9 ∧ w.cell? ⟨g, 10, none⟩ = some a10) ∧ (w.cell? ⟨g', 0, none⟩ = some b0 ∧ w.cell? ⟨g', 1, none⟩ = some b1 ∧ w.cell? ⟨g', 2, none⟩ = some b2 ∧ w.cell? ⟨g', 3, none⟩ = some b3 ∧ w.cell? ⟨g', 4, none⟩ = some b4 ∧ w.cell? ⟨g', 5, none⟩ = some b5 ∧ w.cell? ⟨g', 6, none⟩ = some b6 ∧ w.cell? ⟨g', 7, none⟩ = some b7 ∧ w.cell? ⟨g', 8, none⟩ = some b8 ∧ w.cell? ⟨g', 9, none⟩ = some b9 ∧ w.cell? ⟨g', 10, none⟩ = some b10)) (hb : Below w.heap.size w w') :
    (w'.cell? ⟨g, 0, none⟩ = some a0 ∧ w'.cell? ⟨g, 1, none⟩ = some a1 ∧ w'.cell? ⟨g, 2, none⟩ = some a2 ∧ w'.cell? ⟨g, 3, none⟩ = some a3 ∧ w'.cell? ⟨g, 4, none⟩ = some a4 ∧ w'.cell? ⟨g, 5, none⟩ = some a5 ∧ w'.cell? ⟨g, 6, none⟩ = some a6 ∧ w'.cell? ⟨g, 7, none⟩ = some a7 ∧ w'.cell? ⟨g, 8, none⟩ = some a8 ∧ w'.cell? ⟨g, 9, none⟩ = some a9 ∧ w'.cell? ⟨g, 10, none⟩ = some a10) ∧ (w'.cell? ⟨g', 0, none⟩ = some b0 ∧ w'.cell? ⟨g', 1, none⟩ = some b1 ∧ w'.cell? ⟨g', 2, none⟩ = some b2 ∧ w'.cell? ⟨g', 3, none⟩ = some b3 ∧ w'.cell? ⟨g', 4, none⟩ = some b4 ∧ w'.cell? ⟨g', 5, none⟩ = some b5 ∧ w'.cell? ⟨g', 6, none⟩ = some b6 ∧ w'.cell? ⟨g', 7, none⟩ = some b7 ∧ w'.cell? ⟨g', 8, none⟩ = some b8 ∧ w'.cell? ⟨g', 9, none⟩ = some b9 ∧ w'.cell? ⟨g', 10, none⟩ = some b10) :=
  ⟨kept11 h.1 hb, kept11 h.2 hb⟩

/-- What such a function must answer. -/
def BackedSays (R : DNode → Int → Int → Int) (g : FuncId) : Prop := ∀ (v : Value) (M : DNode) (s x : Int) (w : World), VNode w v M → Calls Try.prog g #[v, .int .i64 s, .int .i64 x] w fun e w' => e = .returned (.int .i64 (R M s x)) ∧ Below w.heap.size w w'

set_option maxHeartbeats 4000000 in
theorem law_Backed_of (R : DNode → Int → Int → Int) (hI : BackedSays R 13) (hJ : BackedSays R 14) (v : Value) (M : DNode) (s x : Int) (w : World) (h : VNode w v M) :
    Calls Try.prog 4 #[v, .int .i64 s, .int .i64 x] w fun e w' => e = .returned (.bool true) ∧ Below w.heap.size w w' := by
  have hE : ∀ w : World, ∀ o, Ext w (w.alloc o) := fun w o => World.grownBy_alloc _ _ _
  have hB : ∀ w : World, ∀ o, Below w.heap.size w (w.alloc o) := fun w o => (Below.refl _ w).alloc (Nat.le_refl _) _
  have h0 : Hid (VNode w v M) := h
  have HI : Hid (BackedSays R 13) := hI
  have HJ : Hid (BackedSays R 14) := hJ
  clear hI hJ
  obtain ⟨lv, bv, nv, mv, rfl, _, _, _, _⟩ := h
  obtain ⟨ob, hob⟩ : ∃ ob, ob = R M s x := ⟨_, rfl⟩
  have HB : Hid (ob = R M s x) := hob
  clear hob
  go_enter Try.func4, Try.ntmps4
  go_wp2_with fail
  refine (szN _ M 1048576 _ (h0.out.ext (hE _ _)) (by omega) (by omega)).mono ?_
  rintro e w1 ⟨r, rfl, hrr, b1⟩
  have B1 := (hB w _).trans (b1.mono (by simp))
  have P1 := below_blk b1 (by simp) (heap_alloc_new w _)
  rcases hrr with ⟨h1, rfl⟩ | ⟨h1, h2⟩
  · go_wp2
    go_ret
    exact ⟨rfl, B1⟩
  · have HL : Hid (LenN M 1048576) := lenN_of (by omega)
    have hr0 : 0 ≤ r := by omega
    clear h1 h2 b1
    obtain ⟨p0, _⟩ := at_block P1 0 _ rfl
    obtain ⟨p1, _⟩ := at_block P1 1 _ rfl
    obtain ⟨p2, _⟩ := at_block P1 2 _ rfl
    obtain ⟨p3, _⟩ := at_block P1 3 _ rfl
    obtain ⟨p4, _⟩ := at_block P1 4 _ rfl
    obtain ⟨p5, _⟩ := at_block P1 5 _ rfl
    obtain ⟨p6, _⟩ := at_block P1 6 _ rfl
    obtain ⟨p7, _⟩ := at_block P1 7 _ rfl
    obtain ⟨p8, _⟩ := at_block P1 8 _ rfl
    obtain ⟨p9, _⟩ := at_block P1 9 _ rfl
    obtain ⟨p10, _⟩ := at_block P1 10 _ rfl
    go_wp2_with fail
    refine (toN _ M w1 (h0.out.ext (ext_below B1)) HL.out).mono ?_
    rintro e w2 ⟨v2, rfl, o2, b2⟩
    have B2 := B1.trans (b2.mono B1.size)
    have s1 := b2.size
    go_wp2_with fail
    refine (HI.out _ M s x w2 o2).mono ?_
    rintro e w3 ⟨rfl, b3⟩
    rw [← HB.out]
    have B3 := B2.trans (b3.mono B2.size)
    have hs3 : w.heap.size < w3.heap.size := by
      have := (Array.getElem?_eq_some_iff.1 P1).1
      have := b3.size
      omega
    have P3 := below_blk b3 (by have := (Array.getElem?_eq_some_iff.1 P1).1; omega) (below_blk b2 (Array.getElem?_eq_some_iff.1 P1).1 P1)
    obtain ⟨q0, _⟩ := at_block P3 0 _ rfl
    obtain ⟨q1, _⟩ := at_block P3 1 _ rfl
    obtain ⟨q2, _⟩ := at_block P3 2 _ rfl
    obtain ⟨q3, _⟩ := at_block P3 3 _ rfl
    obtain ⟨q4, _⟩ := at_block P3 4 _ rfl
    obtain ⟨q5, _⟩ := at_block P3 5 _ rfl
    obtain ⟨q6, _⟩ := at_block P3 6 _ rfl
    obtain ⟨q7, _⟩ := at_block P3 7 _ rfl
    obtain ⟨q8, _⟩ := at_block P3 8 _ rfl
    obtain ⟨q9, _⟩ := at_block P3 9 _ rfl
    obtain ⟨q10, _⟩ := at_block P3 10 _ rfl
    clear p0 p1 p2 p3 p4 p5 p6 p7 p8 p9 p10 o2
    go_wp2_with fail
    refine (toN _ M w3 (h0.out.ext (ext_below B3)) HL.out).mono ?_
    rintro e w4 ⟨v4, rfl, o4, b4⟩
    have B4 := B3.trans (b4.mono B3.size)
    have V4 : Hid (VNode w4 v4 M) := o4
    obtain ⟨jv0, jv1, jv2, jv3, rfl, hj0, hj1, hj2, hj3⟩ := o4
    obtain ⟨xa0, xc0, rfl⟩ := items_shape hj0
    obtain ⟨xa1, xc1, rfl⟩ := vl_shape hj1
    obtain ⟨xa2, xc2, rfl⟩ := vl_shape hj2
    obtain ⟨xa3, xc3, rfl⟩ := vl_shape hj3
    clear hj0 hj1 hj2 hj3
    have P4 := below_blk b4 hs3 P3
    have hs4 := b4.size
    clear q0 q1 q2 q3 q4 q5 q6 q7 q8 q9 q10 b4 b3 b2
    go_wp2_with fail
    refine (HJ.out _ M s x _ (V4.out.ext (hE _ _))).mono ?_
    rintro e w5 ⟨rfl, b5⟩
    rw [← HB.out]
    have X4 : ∀ o, Ext w4 (w4.alloc o) := hE w4
    have P5 := below_blk b5 (by simp; omega) ((Below.heap_alloc w4 _ w.heap.size (by omega)).trans P4)
    have T5 := below_blk b5 (by simp) (heap_alloc_new w4 _)
    have V5 : Hid (VNode w5 (.agg #[.int .i64 M.id, .int .i64 M.term, .int .i64 M.vote, .slice xa0 M.log.length xc0, .int .i64 M.commit, .int .i64 M.role, .int .i64 M.lead, .int .i64 M.wait, .slice xa1 M.votes.length xc1, .slice xa2 M.next.length xc2, .slice xa3 M.mat.length xc3]) M) := (V4.out.ext (X4 _)).ext (ext_below b5)
    have B5 := (B4.alloc B4.size _).trans (b5.mono (by have := B4.size; simp; omega))
    have hs5 : w4.heap.size < w5.heap.size := (Array.getElem?_eq_some_iff.1 T5).1
    obtain ⟨q0, _⟩ := at_block P5 0 _ rfl
    obtain ⟨q1, _⟩ := at_block P5 1 _ rfl
    obtain ⟨q2, _⟩ := at_block P5 2 _ rfl
    obtain ⟨q3, _⟩ := at_block P5 3 _ rfl
    obtain ⟨q4, _⟩ := at_block P5 4 _ rfl
    obtain ⟨q5, _⟩ := at_block P5 5 _ rfl
    obtain ⟨q6, _⟩ := at_block P5 6 _ rfl
    obtain ⟨q7, _⟩ := at_block P5 7 _ rfl
    obtain ⟨q8, _⟩ := at_block P5 8 _ rfl
    obtain ⟨q9, _⟩ := at_block P5 9 _ rfl
    obtain ⟨q10, _⟩ := at_block P5 10 _ rfl
    obtain ⟨t0, _⟩ := at_block T5 0 _ rfl
    obtain ⟨t1, _⟩ := at_block T5 1 _ rfl
    obtain ⟨t2, _⟩ := at_block T5 2 _ rfl
    obtain ⟨t3, _⟩ := at_block T5 3 _ rfl
    obtain ⟨t4, _⟩ := at_block T5 4 _ rfl
    obtain ⟨t5, _⟩ := at_block T5 5 _ rfl
    obtain ⟨t6, _⟩ := at_block T5 6 _ rfl
    obtain ⟨t7, _⟩ := at_block T5 7 _ rfl
    obtain ⟨t8, _⟩ := at_block T5 8 _ rfl
    obtain ⟨t9, _⟩ := at_block T5 9 _ rfl
    obtain ⟨t10, _⟩ := at_block T5 10 _ rfl
    clear b5
    have S5 : (w5.cell? ⟨w4.heap.size, 0, none⟩ = some (.int .i64 M.id) ∧ w5.cell? ⟨w4.heap.size, 1, none⟩ = some (.int .i64 M.term) ∧ w5.cell? ⟨w4.heap.size, 2, none⟩ = some (.int .i64 M.vote) ∧ w5.cell? ⟨w4.heap.size, 3, none⟩ = some (.slice xa0 M.log.length xc0) ∧ w5.cell? ⟨w4.heap.size, 4, none⟩ = some (.int .i64 M.commit) ∧ w5.cell? ⟨w4.heap.size, 5, none⟩ = some (.int .i64 M.role) ∧ w5.cell? ⟨w4.heap.size, 6, none⟩ = some (.int .i64 M.lead) ∧ w5.cell? ⟨w4.heap.size, 7, none⟩ = some (.int .i64 M.wait) ∧ w5.cell? ⟨w4.heap.size, 8, none⟩ = some (.slice xa1 M.votes.length xc1) ∧ w5.cell? ⟨w4.heap.size, 9, none⟩ = some (.slice xa2 M.next.length xc2) ∧ w5.cell? ⟨w4.heap.size, 10, none⟩ = some (.slice xa3 M.mat.length xc3)) ∧ (w5.cell? ⟨w.heap.size, 0, none⟩ = some (.int .i64 M.id) ∧ w5.cell? ⟨w.heap.size, 1, none⟩ = some (.int .i64 M.term) ∧ w5.cell? ⟨w.heap.size, 2, none⟩ = some (.int .i64 M.vote) ∧ w5.cell? ⟨w.heap.size, 3, none⟩ = some lv ∧ w5.cell? ⟨w.heap.size, 4, none⟩ = some (.int .i64 M.commit) ∧ w5.cell? ⟨w.heap.size, 5, none⟩ = some (.int .i64 M.role) ∧ w5.cell? ⟨w.heap.size, 6, none⟩ = some (.int .i64 M.lead) ∧ w5.cell? ⟨w.heap.size, 7, none⟩ = some (.int .i64 M.wait) ∧ w5.cell? ⟨w.heap.size, 8, none⟩ = some bv ∧ w5.cell? ⟨w.heap.size, 9, none⟩ = some nv ∧ w5.cell? ⟨w.heap.size, 10, none⟩ = some mv) := ⟨⟨t0, t1, t2, t3, t4, t5, t6, t7, t8, t9, t10⟩, ⟨q0, q1, q2, q3, q4, q5, q6, q7, q8, q9, q10⟩⟩
    have HS5 : Hid _ := S5
    have X5 : Ext w5 w5.drew := ext_drewN w5 1
    go_wp2_with fail
    go_region_held3 (fun w' => w'.cell? ⟨w4.heap.size, 0, none⟩ = some (.int .i64 M.id) ∧ w'.cell? ⟨w4.heap.size, 1, none⟩ = some (.int .i64 M.term) ∧ w'.cell? ⟨w4.heap.size, 2, none⟩ = some (.int .i64 M.vote) ∧ w'.cell? ⟨w4.heap.size, 3, none⟩ = some (.slice xa0 M.log.length xc0) ∧ w'.cell? ⟨w4.heap.size, 4, none⟩ = some (.int .i64 M.commit) ∧ w'.cell? ⟨w4.heap.size, 5, none⟩ = some (.int .i64 M.role) ∧ w'.cell? ⟨w4.heap.size, 6, none⟩ = some (.int .i64 M.lead) ∧ w'.cell? ⟨w4.heap.size, 7, none⟩ = some (.int .i64 M.wait) ∧ w'.cell? ⟨w4.heap.size, 8, none⟩ = some (.slice xa1 M.votes.length xc1) ∧ w'.cell? ⟨w4.heap.size, 9, none⟩ = some (.slice xa2 M.next.length xc2) ∧ w'.cell? ⟨w4.heap.size, 10, none⟩ = some (.slice xa3 M.mat.length xc3) ∧ w'.cell? ⟨w.heap.size, 0, none⟩ = some (.int .i64 M.id) ∧ w'.cell? ⟨w.heap.size, 1, none⟩ = some (.int .i64 M.term) ∧ w'.cell? ⟨w.heap.size, 2, none⟩ = some (.int .i64 M.vote) ∧ w'.cell? ⟨w.heap.size, 3, none⟩ = some lv ∧ w'.cell? ⟨w.heap.size, 4, none⟩ = some (.int .i64 M.commit) ∧ w'.cell? ⟨w.heap.size, 5, none⟩ = some (.int .i64 M.role) ∧ w'.cell? ⟨w.heap.size, 6, none⟩ = some (.int .i64 M.lead) ∧ w'.cell? ⟨w.heap.size, 7, none⟩ = some (.int .i64 M.wait) ∧ w'.cell? ⟨w.heap.size, 8, none⟩ = some bv ∧ w'.cell? ⟨w.heap.size, 9, none⟩ = some nv ∧ w'.cell? ⟨w.heap.size, 10, none⟩ = some mv) (simp [*])
      (first | (go_at_call 10; refine (toN _ M _ ?_ HL.out).mono ?_; exact (h0.out.ext (ext_below B5)).ext X5; rintro e w6 ⟨v6, rfl, o6, b6⟩; obtain ⟨⟨a0, a1, a2, a3, a4, a5, a6, a7, a8, a9, a10⟩, ⟨c0, c1, c2, c3, c4, c5, c6, c7, c8, c9, c10⟩⟩ := kept22 (w := w5.drew) HS5.out b6) | (go_at_call 12; refine (eqN _ _ M _ ?_ ?_ HL.out).mono ?_; exact (V5.out.ext X5).ext (ext_below b6); exact o6; rintro e w7 ⟨rfl, b7⟩; obtain ⟨⟨a0', a1', a2', a3', a4', a5', a6', a7', a8', a9', a10'⟩, ⟨c0', c1', c2', c3', c4', c5', c6', c7', c8', c9', c10'⟩⟩ := kept22 ⟨⟨a0, a1, a2, a3, a4, a5, a6, a7, a8, a9, a10⟩, ⟨c0, c1, c2, c3, c4, c5, c6, c7, c8, c9, c10⟩⟩ b7))
    all_goals
      go_wp2
      go_ret
      exact ⟨rfl, ((below_drewN B5 1).trans (b6.mono B5.size)).trans (b7.mono (Nat.le_trans B5.size b6.size))⟩

end Go.Proofs.Ytpmkmnniccbljan

namespace Go.Proofs.Ytpmkmnniccbljan
open Go.ChangeShapes Go.WideShapes Go.ChangeAt Go.RowKit Go.Joins

theorem array11 {cs : Array Value} (h : cs.size = 11) : ∃ c0 c1 c2 c3 c4 c5 c6 c7 c8 c9 c10, cs = #[c0, c1, c2, c3, c4, c5, c6, c7, c8, c9, c10] := by
  obtain ⟨l⟩ := cs
  match l, h with
  | [c0, c1, c2, c3, c4, c5, c6, c7, c8, c9, c10], _ => exact ⟨c0, c1, c2, c3, c4, c5, c6, c7, c8, c9, c10, rfl⟩

theorem vl_of_SL {α : Type} {f : α → Value} {w : World} {v : Value} {xs : List α} {C : Nat → Nat → Value} (h : SL w 1 v xs.length C) (hC : ∀ (i : Nat) (x : α), xs[i]? = some x → C i 0 = f x) : VL f w v xs := by
  obtain ⟨a, cap, hv, h1, h2, h3⟩ := h
  refine ⟨a, cap, hv, h1, h2, fun hn => ?_⟩
  obtain ⟨b, o, ha, hb, hc⟩ := h3 hn
  refine ⟨b, o, ha, hb, fun i x hx => ?_⟩
  have := hc i (List.getElem?_eq_some_iff.1 hx).1 0 (by omega)
  rw [Nat.mul_one, Nat.add_zero] at this
  rw [this, hC i x hx]

section
variable {H : Type} {enc : TypeId × Value → H} {W : World} {fuel : Nat} {v : Value} {y : DataW H × List MemPlace}

set_option maxRecDepth 100000 in
theorem ints_of_trod (h : DataW.trod enc Try.prog W 0 (fun _ => true) true fuel 24 [v] = some y) : ∃ xs, VL fI W v xs := by
  obtain ⟨n, C, hS, m, D, hD⟩ := sl_of_trod (k := 1) Try.underlying24 (by kernel_rfl) (by omega) h
  obtain ⟨rs, hl, hr⟩ := list_of (p := fun i (d : Int) => C i 0 = fI d) n (fun i hi => by
    have hf : DataW.trod enc Try.prog W 0 (fun _ => true) true m 3 [C i 0] = some (D i) := hD i hi
    obtain ⟨q, e, _, _⟩ := int_of_trod hf
    exact ⟨q, e⟩)
  exact ⟨rs, vl_of_SL (by rw [hl]; exact hS) hr⟩
set_option maxRecDepth 100000 in
theorem bools_of_trod (h : DataW.trod enc Try.prog W 0 (fun _ => true) true fuel 23 [v] = some y) : ∃ xs, VL fB W v xs := by
  obtain ⟨n, C, hS, m, D, hD⟩ := sl_of_trod (k := 1) Try.underlying23 (by kernel_rfl) (by omega) h
  obtain ⟨rs, hl, hr⟩ := list_of (p := fun i (d : Bool) => C i 0 = fB d) n (fun i hi => by
    have hf : DataW.trod enc Try.prog W 0 (fun _ => true) true m 4 [C i 0] = some (D i) := hD i hi
    obtain ⟨q, e⟩ := bool_of_trod hf
    exact ⟨q, e⟩)
  exact ⟨rs, vl_of_SL (by rw [hl]; exact hS) hr⟩
end

set_option maxRecDepth 100000 in
theorem open_Node {H : Type} {enc : TypeId × Value → H} {W : World} {r : Reach} {b0 : Nat} {v : Value} {d : DataW H} {p : List MemPlace}
    (hv : Value.okWide Try.prog W r b0 26 v) (h : DataW.Trod enc Try.prog W 0 (fun _ => true) true 26 v d p) : ∃ M, VNode W v M ∧ True ∧ (-9223372036854775808 ≤ M.term ∧ M.term ≤ 9223372036854775807) := by
  obtain ⟨cs, rfl, hsz⟩ := okWide_struct Try.underlying26 hv
  have h99 : Try.prog.cellsOf 26 = 11 := by kernel_rfl
  obtain ⟨c0, c1, c2, c3, c4, c5, c6, c7, c8, c9, c10, rfl⟩ := array11 (hsz.trans h99)
  obtain ⟨fuel, hf⟩ := h
  obtain ⟨xs, n, _, _, _, hxl, hx⟩ := DataW.trod_struct Try.underlying26 hf
  match xs, hxl with
  | [y0, y1, y2, y3, y4, y5, y6, y7, y8, y9, y10], _ =>
    have h0 : DataW.trod enc Try.prog W 0 (fun _ => true) true n 3 [c0] = some y0 := hx 0 _ rfl
    have h1 : DataW.trod enc Try.prog W 0 (fun _ => true) true n 3 [c1] = some y1 := hx 1 _ rfl
    have h2 : DataW.trod enc Try.prog W 0 (fun _ => true) true n 3 [c2] = some y2 := hx 2 _ rfl
    have h3 : DataW.trod enc Try.prog W 0 (fun _ => true) true n 22 [c3] = some y3 := hx 3 _ rfl
    have h4 : DataW.trod enc Try.prog W 0 (fun _ => true) true n 3 [c4] = some y4 := hx 4 _ rfl
    have h5 : DataW.trod enc Try.prog W 0 (fun _ => true) true n 3 [c5] = some y5 := hx 5 _ rfl
    have h6 : DataW.trod enc Try.prog W 0 (fun _ => true) true n 3 [c6] = some y6 := hx 6 _ rfl
    have h7 : DataW.trod enc Try.prog W 0 (fun _ => true) true n 3 [c7] = some y7 := hx 7 _ rfl
    have h8 : DataW.trod enc Try.prog W 0 (fun _ => true) true n 23 [c8] = some y8 := hx 8 _ rfl
    have h9 : DataW.trod enc Try.prog W 0 (fun _ => true) true n 24 [c9] = some y9 := hx 9 _ rfl
    have h10 : DataW.trod enc Try.prog W 0 (fun _ => true) true n 24 [c10] = some y10 := hx 10 _ rfl
    obtain ⟨q0, rfl, _, _⟩ := int_of_trod h0
    obtain ⟨q1, rfl, a1, z1⟩ := int_of_trod h1
    obtain ⟨q2, rfl, _, _⟩ := int_of_trod h2
    obtain ⟨q4, rfl, _, _⟩ := int_of_trod h4
    obtain ⟨q5, rfl, _, _⟩ := int_of_trod h5
    obtain ⟨q6, rfl, _, _⟩ := int_of_trod h6
    obtain ⟨q7, rfl, _, _⟩ := int_of_trod h7
    obtain ⟨q3, v3⟩ := items_of_trod h3
    obtain ⟨q8, v8⟩ := bools_of_trod h8
    obtain ⟨q9, v9⟩ := ints_of_trod h9
    obtain ⟨q10, v10⟩ := ints_of_trod h10
    exact ⟨⟨q0, q1, q2, q3, q4, q5, q6, q7, q8, q9, q10⟩, ⟨c3, c8, c9, c10, rfl, v3, v8, v9, v10⟩, trivial, a1, z1⟩

end Go.Proofs.Ytpmkmnniccbljan

namespace Go.Proofs.Ytpmkmnniccbljan
open Go.RowKit

theorem law_Backed (v : Value) (M : DNode) (s x : Int) (w : World) (h : VNode w v M) (_h1 : True) (_h2 : -9223372036854775808 ≤ M.term ∧ M.term ≤ 9223372036854775807) (_a0 : -9223372036854775808 ≤ s) (_b0 : s ≤ 9223372036854775807) (_a1 : -9223372036854775808 ≤ x) (_b1 : x ≤ 9223372036854775807) :
    Calls Try.prog 4 #[v, .int .i64 s, .int .i64 x] w fun e w' => e = .returned (.bool true) ∧ Below w.heap.size w w' :=
  law_Backed_of (fun M s x => backedR M s x) (fun v M s x w h => sBackedV v M s x w h) (fun v M s x w h => iBackedV v M s x w h) v M s x w h

end Go.Proofs.Ytpmkmnniccbljan

namespace Go.Proofs.Ytpmkmnniccbljan
open Go.ChangeShapes Go.WideShapes Go.ChangeAt Go.RowKit

theorem own : ownKnob Try.prog.godebug = none := by kernel_rfl
theorem laidOut : laidOutB Try.prog = true := by kernel_rfl

theorem int_bd {q : Int} (h : (Lit.int .i64 q).wf = true) : -9223372036854775808 ≤ q ∧ q ≤ 9223372036854775807 := by
  simp [Lit.wf, IntKind.min, IntKind.max, IntKind.signed, IntKind.bits] at h
  omega

set_option maxRecDepth 100000 in
theorem lifted (os : Os) (started : os.Started) (H : Type) (enc : TypeId × Value → H) :
    ReturnsInHanded {} Try.checked os 4 .any (Rows.fnExactBackedSpec.pre6 enc Try.prog Try.f4 Rows.fnExactBackedRow.domain false) (Rows.fnExactBackedSpec.post enc Try.prog Try.f4 false true false false) := by
  refine returnsInHanded_of_change (C := Try.checked) own started (by kernel_rfl) Try.func4
    (ChangeSpec.witness6 (enc := enc) (C := Try.checked) false ⟨#[], #[.agg #[.int .i64 0, .int .i64 0, .int .i64 0, .slice none 0 0, .int .i64 0, .int .i64 0, .int .i64 0, .int .i64 0, .slice none 0 0, .slice none 0 0, .slice none 0 0], .int .i64 0, .int .i64 0], []⟩ 8 (by kernel_rfl) (by kernel_rfl) (by kernel_rfl) (by kernel_rfl)) ?_
  intro W base args ds gs before hval0 hW hcnd _
  have hval : ∀ (j : Nat) t v, Try.f4.params[j]? = some t → args[j]? = some v → Value.okWide Try.prog W .any base t v := hval0
  have hW' := hW
  obtain ⟨p, q, hA0, hV, rfl, hfz, hnd⟩ := hW
  have hA : DataW.TrodAll enc Try.prog W 0 (fun _ => true) true Try.f4.params.toList args.toList ds p := hA0
  rw [Try.params4] at hA hval
  obtain ⟨v0, vs0, d0, ds0, p0, q0, hargs, rfl, rfl, h0, r0⟩ := trodAll_cons hA
  obtain ⟨v1, vs1, d1, ds1, p1, q1, rfl, rfl, rfl, h1, r1⟩ := trodAll_cons r0
  obtain ⟨v2, vs2, d2, ds2, p2, q2, rfl, rfl, rfl, h2, r2⟩ := trodAll_cons r1
  obtain ⟨rfl, rfl, rfl⟩ := trodAll_nil r2
  obtain rfl : args = #[v0, v1, v2] := by cases args; simp_all
  obtain ⟨rfl, rfl⟩ := trodVars_none hV
  have k0 := h0
  have lt0 : ∀ x ∈ p0, x.block < W.heap.size := by obtain ⟨m, hm⟩ := k0; exact DataW.trod_lt m _ _ _ hm
  obtain ⟨D0, w0⟩ := open_Node (hval 0 26 v0 rfl rfl) h0
  obtain ⟨a1, rfl, rfl, rfl, w1⟩ := open_int Try.underlying3 (hval 1 3 v1 rfl rfl) h1
  obtain ⟨a2, rfl, rfl, rfl, w2⟩ := open_int Try.underlying3 (hval 2 3 v2 rfl rfl) h2
  clear hA0 hval0
  refine (law_Backed v0 D0 a1 a2 W w0.1 w0.2.1 w0.2.2 (int_bd w1).1 (int_bd w1).2 (int_bd w2).1 (int_bd w2).2).mono fun e W' ⟨he, bel⟩ => ?_
  subst he
  exact ⟨_, rfl, _, _, _, [], _, [], hW', trodAll_mk1 (shut_bool Try.underlying4 _), (trodAll_cons_mk (Below.trod laidOut (by kernel_rfl) (of_decide_eq_true (by kernel_rfl)) k0 bel lt0) (trodAll_cons_mk (shut_int Try.underlying3 w1) (trodAll_cons_mk (shut_int Try.underlying3 w2) trodAll_mk0))), rfl, bel.frame _, fun h => by cases h⟩

theorem over : Rows.fnExactBackedRow.holds Try.pinned (OpenSpec.ofChange Rows.fnExactBackedSpec) :=
  OpenClaim.holds_of_wide 4 Try.f4 rfl rfl rfl rfl rfl rfl rfl ⟨rfl, rfl, rfl, rfl, rfl⟩ rfl rfl rfl rfl rfl (by kernel_rfl) Try.func4 (by kernel_rfl)
    (of_decide_eq_true (by kernel_rfl)) (by unfold Func.isWrapper; first | (rw [if_pos (by decide +kernel)]; kernel_rfl) | (rw [if_neg (by decide +kernel)]; exact ⟨rfl, rfl⟩))
    (fun os started H enc _ => lifted os started H enc)

theorem proved : Rows.FnExactBackedSaid := over
#print axioms proved
end Go.Proofs.Ytpmkmnniccbljan

