/- The exact statement of ItemOk: the walk of the law itself. -/
import Derived.Test.YtkloodicbhcijalIt2
import Derived.Test.YtkloodicbhcijalOpen2
import Derived.Deep.RegionHeld3
namespace Go.Proofs.Ytkloodicbhcijal
open Go.RowKit

theorem oitem_shape {w : World} {base : Nat} {v : Value} {d : DItem} (h : OItem w base v d) (hr : rngOp d.cmd.op) : ∃ ka kc va vc, v = .agg #[.int .i64 d.term, .int .i64 d.cmd.client, .int .i64 d.cmd.req, .int .i64 d.cmd.op.kind, .slice ka d.cmd.op.key.length kc, .slice va d.cmd.op.val.length vc, .int .i64 d.cmd.op.n] ∧ VItem w v d := by
  have h' := h.v hr
  obtain ⟨kv, vv, rfl, ok, ov, _⟩ := h
  obtain ⟨ka, kc, rfl, _, _, _⟩ := Ow.rv ok hr.1
  obtain ⟨va, vc, rfl, _, _, _⟩ := Ow.rv ov hr.2
  exact ⟨ka, kc, va, vc, rfl, h'⟩

theorem keep7 {w w' : World} {g : Nat} {a0 a1 a2 a3 a4 a5 a6 : Value} (h : w.cell? ⟨g, 0, none⟩ = some a0 ∧ w.cell? ⟨g, 1, none⟩ = some a1 ∧ w.cell? ⟨g, 2, none⟩ = some a2 ∧ w.cell? ⟨g, 3, none⟩ = some a3 ∧ w.cell? ⟨g, 4, none⟩ = some a4 ∧ w.cell? ⟨g, 5, none⟩ = some a5 ∧ w.cell? ⟨g, 6, none⟩ = some a6) (hb : Below w.heap.size w w') :
    w'.cell? ⟨g, 0, none⟩ = some a0 ∧ w'.cell? ⟨g, 1, none⟩ = some a1 ∧ w'.cell? ⟨g, 2, none⟩ = some a2 ∧ w'.cell? ⟨g, 3, none⟩ = some a3 ∧ w'.cell? ⟨g, 4, none⟩ = some a4 ∧ w'.cell? ⟨g, 5, none⟩ = some a5 ∧ w'.cell? ⟨g, 6, none⟩ = some a6 := by
  have hg : g < w.heap.size := World.block_lt_of_cell? w _ h.1
  obtain ⟨h0, h1, h2, h3, h4, h5, h6⟩ := h
  exact ⟨(hb.cell (p := ⟨g, 0, none⟩) hg).trans h0, (hb.cell (p := ⟨g, 1, none⟩) hg).trans h1, (hb.cell (p := ⟨g, 2, none⟩) hg).trans h2, (hb.cell (p := ⟨g, 3, none⟩) hg).trans h3, (hb.cell (p := ⟨g, 4, none⟩) hg).trans h4, (hb.cell (p := ⟨g, 5, none⟩) hg).trans h5, (hb.cell (p := ⟨g, 6, none⟩) hg).trans h6⟩
theorem keep14 {w w' : World} {g g' : Nat} {a0 a1 a2 a3 a4 a5 a6 b0 b1 b2 b3 b4 b5 b6 : Value} (h : (w.cell? ⟨g, 0, none⟩ = some a0 ∧ w.cell? ⟨g, 1, none⟩ = some a1 ∧ w.cell? ⟨g, 2, none⟩ = some a2 ∧ w.cell? ⟨g, 3, none⟩ = some a3 ∧ w.cell? ⟨g, 4, none⟩ = some a4 ∧ w.cell? ⟨g, 5, none⟩ = some a5 ∧ w.cell? ⟨g, 6, none⟩ = some a6) ∧ (w.cell? ⟨g', 0, none⟩ = some b0 ∧ w.cell? ⟨g', 1, none⟩ = some b1 ∧ w.cell? ⟨g', 2, none⟩ = some b2 ∧ w.cell? ⟨g', 3, none⟩ = some b3 ∧ w.cell? ⟨g', 4, none⟩ = some b4 ∧ w.cell? ⟨g', 5, none⟩ = some b5 ∧ w.cell? ⟨g', 6, none⟩ = some b6)) (hb : Below w.heap.size w w') :
    (w'.cell? ⟨g, 0, none⟩ = some a0 ∧ w'.cell? ⟨g, 1, none⟩ = some a1 ∧ w'.cell? ⟨g, 2, none⟩ = some a2 ∧ w'.cell? ⟨g, 3, none⟩ = some a3 ∧ w'.cell? ⟨g, 4, none⟩ = some a4 ∧ w'.cell? ⟨g, 5, none⟩ = some a5 ∧ w'.cell? ⟨g, 6, none⟩ = some a6) ∧ (w'.cell? ⟨g', 0, none⟩ = some b0 ∧ w'.cell? ⟨g', 1, none⟩ = some b1 ∧ w'.cell? ⟨g', 2, none⟩ = some b2 ∧ w'.cell? ⟨g', 3, none⟩ = some b3 ∧ w'.cell? ⟨g', 4, none⟩ = some b4 ∧ w'.cell? ⟨g', 5, none⟩ = some b5 ∧ w'.cell? ⟨g', 6, none⟩ = some b6) :=
  ⟨keep7 h.1 hb, keep7 h.2 hb⟩

set_option maxHeartbeats 2000000 in
theorem law_ItemOk (v : Value) (d : DItem) (w : World) (h : VItem w v d) (hr : rngOp d.cmd.op) (_hi : intItem d) :
    Calls Try.prog 4 #[v] w fun e w' => e = .returned (.bool true) ∧ Below w.heap.size w w' := by
  have hE : ∀ w : World, ∀ o, Ext w (w.alloc o) := fun w o => World.grownBy_alloc _ _ _
  have hB : ∀ w : World, ∀ o, Below w.heap.size w (w.alloc o) := fun w o => (Below.refl _ w).alloc (Nat.le_refl _) _
  have h0 := h
  obtain ⟨kv, vv, rfl, rk, rv⟩ := h
  obtain ⟨ob, hob⟩ : ∃ ob, ob = itemB d := ⟨_, rfl⟩
  have HB : Hid (ob = itemB d) := hob
  clear hob
  go_enter Try.func4, Try.ntmps4
  go_wp2_with fail
  refine (szI _ d 1048576 _ (h0.ext (hE _ _)) (by omega) (by omega)).mono ?_
  rintro e w1 ⟨r, rfl, hrr, b1⟩
  have B1 := (hB w _).trans (b1.mono (by simp))
  have P1 := below_blk b1 (by simp) (heap_alloc_new w _)
  rcases hrr with ⟨h1, rfl⟩ | ⟨h1, h2⟩
  · go_wp2
    go_ret
    exact ⟨rfl, B1⟩
  · have hk : d.cmd.op.key.length ≤ 1048576 := by omega
    have hv : d.cmd.op.val.length ≤ 1048576 := by omega
    have hr0 : 0 ≤ r := by omega
    clear h1 h2 b1
    obtain ⟨p0, _⟩ := at_block P1 0 _ rfl
    obtain ⟨p1, _⟩ := at_block P1 1 _ rfl
    obtain ⟨p2, _⟩ := at_block P1 2 _ rfl
    obtain ⟨p3, _⟩ := at_block P1 3 _ rfl
    obtain ⟨p4, _⟩ := at_block P1 4 _ rfl
    obtain ⟨p5, _⟩ := at_block P1 5 _ rfl
    obtain ⟨p6, _⟩ := at_block P1 6 _ rfl
    go_wp2_with fail
    refine (toI _ d w1 (h0.ext (ext_below B1)) hr hk hv).mono ?_
    rintro e w2 ⟨v2, rfl, o2, b2⟩
    have B2 := B1.trans (b2.mono B1.size)
    have s1 := b2.size
    go_wp2_with fail
    refine (itemOkV v2 d w2 (o2.v hr)).mono ?_
    rintro e w3 ⟨rfl, b3⟩
    rw [← HB.out]
    have B3 := B2.trans (b3.mono B2.size)
    have hs3 : w.heap.size < w3.heap.size := by
      have := (Array.getElem?_eq_some_iff.1 P1).1
      have := b3.size
      omega
    have P3 := below_blk b3 (by have := (Array.getElem?_eq_some_iff.1 P1).1; omega) (below_blk b2 (Array.getElem?_eq_some_iff.1 P1).1 P1)
    obtain ⟨q0, _⟩ := at_block P3 0 _ rfl
    obtain ⟨q1, _⟩ := at_block P3 1 _ rfl
    obtain ⟨q2, _⟩ := at_block P3 2 _ rfl
    obtain ⟨q3, _⟩ := at_block P3 3 _ rfl
    obtain ⟨q4, _⟩ := at_block P3 4 _ rfl
    obtain ⟨q5, _⟩ := at_block P3 5 _ rfl
    obtain ⟨q6, _⟩ := at_block P3 6 _ rfl
    clear p0 p1 p2 p3 p4 p5 p6
    go_wp2_with fail
    refine (toI _ d w3 (h0.ext (ext_below B3)) hr hk hv).mono ?_
    rintro e w4 ⟨v4, rfl, o4, b4⟩
    have B4 := B3.trans (b4.mono B3.size)
    obtain ⟨ka, kc, va, vc, rfl, V4⟩ := oitem_shape o4 hr
    have P4 := below_blk b4 hs3 P3
    have hs4 := b4.size
    clear q0 q1 q2 q3 q4 q5 q6 b4 b3 b2
    go_wp2_with fail
    refine (iItemOkV _ d _ (V4.ext (hE _ _))).mono ?_
    rintro e w5 ⟨rfl, b5⟩
    rw [← HB.out]
    have X4 : ∀ o, Ext w4 (w4.alloc o) := hE w4
    have P5 := below_blk b5 (by simp; omega) ((Below.heap_alloc w4 _ w.heap.size (by omega)).trans P4)
    have T5 := below_blk b5 (by simp) (heap_alloc_new w4 _)
    have V5 := (V4.ext (X4 _)).ext (ext_below b5)
    have B5 := (B4.alloc B4.size _).trans (b5.mono (by have := B4.size; simp; omega))
    have hs5 : w4.heap.size < w5.heap.size := (Array.getElem?_eq_some_iff.1 T5).1
    obtain ⟨q0, _⟩ := at_block P5 0 _ rfl
    obtain ⟨q1, _⟩ := at_block P5 1 _ rfl
    obtain ⟨q2, _⟩ := at_block P5 2 _ rfl
    obtain ⟨q3, _⟩ := at_block P5 3 _ rfl
    obtain ⟨q4, _⟩ := at_block P5 4 _ rfl
    obtain ⟨q5, _⟩ := at_block P5 5 _ rfl
    obtain ⟨q6, _⟩ := at_block P5 6 _ rfl
    obtain ⟨t0, _⟩ := at_block T5 0 _ rfl
    obtain ⟨t1, _⟩ := at_block T5 1 _ rfl
    obtain ⟨t2, _⟩ := at_block T5 2 _ rfl
    obtain ⟨t3, _⟩ := at_block T5 3 _ rfl
    obtain ⟨t4, _⟩ := at_block T5 4 _ rfl
    obtain ⟨t5, _⟩ := at_block T5 5 _ rfl
    obtain ⟨t6, _⟩ := at_block T5 6 _ rfl
    clear b5
    have S5 : (w5.cell? ⟨w4.heap.size, 0, none⟩ = some (.int .i64 d.term) ∧ w5.cell? ⟨w4.heap.size, 1, none⟩ = some (.int .i64 d.cmd.client) ∧ w5.cell? ⟨w4.heap.size, 2, none⟩ = some (.int .i64 d.cmd.req) ∧ w5.cell? ⟨w4.heap.size, 3, none⟩ = some (.int .i64 d.cmd.op.kind) ∧ w5.cell? ⟨w4.heap.size, 4, none⟩ = some (.slice ka d.cmd.op.key.length kc) ∧ w5.cell? ⟨w4.heap.size, 5, none⟩ = some (.slice va d.cmd.op.val.length vc) ∧ w5.cell? ⟨w4.heap.size, 6, none⟩ = some (.int .i64 d.cmd.op.n)) ∧ (w5.cell? ⟨w.heap.size, 0, none⟩ = some (.int .i64 d.term) ∧ w5.cell? ⟨w.heap.size, 1, none⟩ = some (.int .i64 d.cmd.client) ∧ w5.cell? ⟨w.heap.size, 2, none⟩ = some (.int .i64 d.cmd.req) ∧ w5.cell? ⟨w.heap.size, 3, none⟩ = some (.int .i64 d.cmd.op.kind) ∧ w5.cell? ⟨w.heap.size, 4, none⟩ = some kv ∧ w5.cell? ⟨w.heap.size, 5, none⟩ = some vv ∧ w5.cell? ⟨w.heap.size, 6, none⟩ = some (.int .i64 d.cmd.op.n)) := ⟨⟨t0, t1, t2, t3, t4, t5, t6⟩, ⟨q0, q1, q2, q3, q4, q5, q6⟩⟩
    have HS5 : Hid _ := S5
    have X5 : Ext w5 w5.drew := ext_drewN w5 1
    go_wp2_with fail
    go_region_held3 (fun w' => w'.cell? ⟨w4.heap.size, 0, none⟩ = some (.int .i64 d.term) ∧ w'.cell? ⟨w4.heap.size, 1, none⟩ = some (.int .i64 d.cmd.client) ∧ w'.cell? ⟨w4.heap.size, 2, none⟩ = some (.int .i64 d.cmd.req) ∧ w'.cell? ⟨w4.heap.size, 3, none⟩ = some (.int .i64 d.cmd.op.kind) ∧ w'.cell? ⟨w4.heap.size, 4, none⟩ = some (.slice ka d.cmd.op.key.length kc) ∧ w'.cell? ⟨w4.heap.size, 5, none⟩ = some (.slice va d.cmd.op.val.length vc) ∧ w'.cell? ⟨w4.heap.size, 6, none⟩ = some (.int .i64 d.cmd.op.n) ∧ w'.cell? ⟨w.heap.size, 0, none⟩ = some (.int .i64 d.term) ∧ w'.cell? ⟨w.heap.size, 1, none⟩ = some (.int .i64 d.cmd.client) ∧ w'.cell? ⟨w.heap.size, 2, none⟩ = some (.int .i64 d.cmd.req) ∧ w'.cell? ⟨w.heap.size, 3, none⟩ = some (.int .i64 d.cmd.op.kind) ∧ w'.cell? ⟨w.heap.size, 4, none⟩ = some kv ∧ w'.cell? ⟨w.heap.size, 5, none⟩ = some vv ∧ w'.cell? ⟨w.heap.size, 6, none⟩ = some (.int .i64 d.cmd.op.n)) (simp [*])
      (first | (go_at_call 18; refine (toI _ d _ ?_ hr hk hv).mono ?_; exact (h0.ext (ext_below B5)).ext X5; rintro e w6 ⟨v6, rfl, o6, b6⟩; obtain ⟨⟨a0, a1, a2, a3, a4, a5, a6⟩, ⟨c0, c1, c2, c3, c4, c5, c6⟩⟩ := keep14 (w := w5.drew) HS5.out b6) | (go_at_call 20; refine (eqI _ _ d _ ?_ ?_ (by omega) (by omega)).mono ?_; exact (V5.ext X5).ext (ext_below b6); exact o6.v hr; rintro e w7 ⟨rfl, b7⟩; obtain ⟨⟨a0', a1', a2', a3', a4', a5', a6'⟩, ⟨c0', c1', c2', c3', c4', c5', c6'⟩⟩ := keep14 ⟨⟨a0, a1, a2, a3, a4, a5, a6⟩, ⟨c0, c1, c2, c3, c4, c5, c6⟩⟩ b7))
    all_goals
      go_wp2
      go_ret
      exact ⟨rfl, ((below_drewN B5 1).trans (b6.mono B5.size)).trans (b7.mono (Nat.le_trans B5.size b6.size))⟩

end Go.Proofs.Ytkloodicbhcijal
