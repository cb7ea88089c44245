/- The exact statement of ActionOk: the walk of the law itself. -/
import Derived.Test.YtplgnohncdfgcanAc1
import Derived.Test.YtplgnohncdfgcanOpenA
import Derived.Deep.RegionHeld3
namespace Go.Proofs.Ytplgnohncdfgcan
open Go.RowKit

theorem act_shape {w : World} {v : Value} {d : DAct} (h : VAct w v d) : ∃ ka kc va vc ya yc, v = .agg #[.int .i64 d.kind, .int .i64 d.node, .int .i64 d.i, .int .i64 d.op.kind, .slice ka d.op.key.length kc, .slice va d.op.val.length vc, .int .i64 d.op.n, .slice ya d.key.length yc] := by
  obtain ⟨kv, vv, yv, rfl, rk, rv, ry⟩ := h
  obtain ⟨ka, kc, rfl, _, _, _⟩ := rk
  obtain ⟨va, vc, rfl, _, _, _⟩ := rv
  obtain ⟨ya, yc, rfl, _, _, _⟩ := ry
  exact ⟨ka, kc, va, vc, ya, yc, rfl⟩

theorem keepA {w w' : World} {g : Nat} {a0 a1 a2 a3 a4 a5 a6 a7 : Value} (h : w.cell? ⟨g, 0, none⟩ = some a0 ∧ w.cell? ⟨g, 1, none⟩ = some a1 ∧ w.cell? ⟨g, 2, none⟩ = some a2 ∧ w.cell? ⟨g, 3, none⟩ = some a3 ∧ w.cell? ⟨g, 4, none⟩ = some a4 ∧ w.cell? ⟨g, 5, none⟩ = some a5 ∧ w.cell? ⟨g, 6, none⟩ = some a6 ∧ w.cell? ⟨g, 7, none⟩ = some a7) (hb : Below w.heap.size w w') :
    w'.cell? ⟨g, 0, none⟩ = some a0 ∧ w'.cell? ⟨g, 1, none⟩ = some a1 ∧ w'.cell? ⟨g, 2, none⟩ = some a2 ∧ w'.cell? ⟨g, 3, none⟩ = some a3 ∧ w'.cell? ⟨g, 4, none⟩ = some a4 ∧ w'.cell? ⟨g, 5, none⟩ = some a5 ∧ w'.cell? ⟨g, 6, none⟩ = some a6 ∧ w'.cell? ⟨g, 7, none⟩ = some a7 := by
  have hg : g < w.heap.size := World.block_lt_of_cell? w _ h.1
  obtain ⟨h0, h1, h2, h3, h4, h5, h6, h7⟩ := h
  exact ⟨(hb.cell (p := ⟨g, 0, none⟩) hg).trans h0, (hb.cell (p := ⟨g, 1, none⟩) hg).trans h1, (hb.cell (p := ⟨g, 2, none⟩) hg).trans h2, (hb.cell (p := ⟨g, 3, none⟩) hg).trans h3, (hb.cell (p := ⟨g, 4, none⟩) hg).trans h4, (hb.cell (p := ⟨g, 5, none⟩) hg).trans h5, (hb.cell (p := ⟨g, 6, none⟩) hg).trans h6, (hb.cell (p := ⟨g, 7, none⟩) hg).trans h7⟩
theorem keepA2 {w w' : World} {g g' : Nat} {a0 a1 a2 a3 a4 a5 a6 a7 b0 b1 b2 b3 b4 b5 b6 b7 : Value} (h : (w.cell? ⟨g, 0, none⟩ = some a0 ∧ w.cell? ⟨g, 1, none⟩ = some a1 ∧ w.cell? ⟨g, 2, none⟩ = some a2 ∧ w.cell? ⟨g, 3, none⟩ = some a3 ∧ w.cell? ⟨g, 4, none⟩ = some a4 ∧ w.cell? ⟨g, 5, none⟩ = some a5 ∧ w.cell? ⟨g, 6, none⟩ = some a6 ∧ w.cell? ⟨g, 7, none⟩ = some a7) ∧ (w.cell? ⟨g', 0, none⟩ = some b0 ∧ w.cell? ⟨g', 1, none⟩ = some b1 ∧ w.cell? ⟨g', 2, none⟩ = some b2 ∧ w.cell? ⟨g', 3, none⟩ = some b3 ∧ w.cell? ⟨g', 4, none⟩ = some b4 ∧ w.cell? ⟨g', 5, none⟩ = some b5 ∧ w.cell? ⟨g', 6, none⟩ = some b6 ∧ w.cell? ⟨g', 7, none⟩ = some b7)) (hb : Below w.heap.size w w') :
    (w'.cell? ⟨g, 0, none⟩ = some a0 ∧ w'.cell? ⟨g, 1, none⟩ = some a1 ∧ w'.cell? ⟨g, 2, none⟩ = some a2 ∧ w'.cell? ⟨g, 3, none⟩ = some a3 ∧ w'.cell? ⟨g, 4, none⟩ = some a4 ∧ w'.cell? ⟨g, 5, none⟩ = some a5 ∧ w'.cell? ⟨g, 6, none⟩ = some a6 ∧ w'.cell? ⟨g, 7, none⟩ = some a7) ∧ (w'.cell? ⟨g', 0, none⟩ = some b0 ∧ w'.cell? ⟨g', 1, none⟩ = some b1 ∧ w'.cell? ⟨g', 2, none⟩ = some b2 ∧ w'.cell? ⟨g', 3, none⟩ = some b3 ∧ w'.cell? ⟨g', 4, none⟩ = some b4 ∧ w'.cell? ⟨g', 5, none⟩ = some b5 ∧ w'.cell? ⟨g', 6, none⟩ = some b6 ∧ w'.cell? ⟨g', 7, none⟩ = some b7) :=
  ⟨keepA h.1 hb, keepA h.2 hb⟩

set_option maxRecDepth 20000 in
set_option maxHeartbeats 2000000 in
theorem law_ActionOk (v : Value) (d : DAct) (w : World) (h : VAct w v d) (hr : rngAct d) (_hi : True) :
    Calls Try.prog 7 #[v] w fun e w' => e = .returned (.bool true) ∧ Below w.heap.size w w' := by
  have hE : ∀ w : World, ∀ o, Ext w (w.alloc o) := fun w o => World.grownBy_alloc _ _ _
  have hB : ∀ w : World, ∀ o, Below w.heap.size w (w.alloc o) := fun w o => (Below.refl _ w).alloc (Nat.le_refl _) _
  have h0 := h
  obtain ⟨kv, vv, yv, rfl, rk, rv, ry⟩ := h
  obtain ⟨ob, hob⟩ : ∃ ob, ob = actB d := ⟨_, rfl⟩
  have HB : Hid (ob = actB d) := hob
  clear hob
  go_enter Try.func7, Try.ntmps7
  go_wp2_with fail
  refine (szA _ d 1048576 _ (h0.ext (hE _ _)) (by omega) (by omega)).mono ?_
  rintro e w1 ⟨r, rfl, hrr, b1⟩
  have B1 := (hB w _).trans (b1.mono (by simp))
  have P1 := below_blk b1 (by simp) (heap_alloc_new w _)
  rcases hrr with ⟨h1, rfl⟩ | ⟨h1, h2⟩
  · go_wp2
    go_ret
    exact ⟨rfl, B1⟩
  · have hk : d.op.key.length ≤ 1048576 := by omega
    have hv : d.op.val.length ≤ 1048576 := by omega
    have hy : d.key.length ≤ 1048576 := by omega
    have hr0 : 0 ≤ r := by omega
    clear h1 h2 b1
    obtain ⟨p0, _⟩ := at_block P1 0 _ rfl
    obtain ⟨p1, _⟩ := at_block P1 1 _ rfl
    obtain ⟨p2, _⟩ := at_block P1 2 _ rfl
    obtain ⟨p3, _⟩ := at_block P1 3 _ rfl
    obtain ⟨p4, _⟩ := at_block P1 4 _ rfl
    obtain ⟨p5, _⟩ := at_block P1 5 _ rfl
    obtain ⟨p6, _⟩ := at_block P1 6 _ rfl
    obtain ⟨p7, _⟩ := at_block P1 7 _ rfl
    go_wp2_with fail
    refine (toA _ d w1 (h0.ext (ext_below B1)) hr hk hv hy).mono ?_
    rintro e w2 ⟨v2, rfl, V2, b2⟩
    have B2 := B1.trans (b2.mono B1.size)
    have s1 := b2.size
    go_wp2_with fail
    refine (sActOkV v2 d w2 V2).mono ?_
    rintro e w3 ⟨rfl, b3⟩
    rw [← HB.out]
    have B3 := B2.trans (b3.mono B2.size)
    have hs3 : w.heap.size < w3.heap.size := by
      have := (Array.getElem?_eq_some_iff.1 P1).1
      have := b3.size
      omega
    have P3 := below_blk b3 (by have := (Array.getElem?_eq_some_iff.1 P1).1; omega) (below_blk b2 (Array.getElem?_eq_some_iff.1 P1).1 P1)
    obtain ⟨q0, _⟩ := at_block P3 0 _ rfl
    obtain ⟨q1, _⟩ := at_block P3 1 _ rfl
    obtain ⟨q2, _⟩ := at_block P3 2 _ rfl
    obtain ⟨q3, _⟩ := at_block P3 3 _ rfl
    obtain ⟨q4, _⟩ := at_block P3 4 _ rfl
    obtain ⟨q5, _⟩ := at_block P3 5 _ rfl
    obtain ⟨q6, _⟩ := at_block P3 6 _ rfl
    obtain ⟨q7, _⟩ := at_block P3 7 _ rfl
    clear p0 p1 p2 p3 p4 p5 p6 p7
    go_wp2_with fail
    refine (toA _ d w3 (h0.ext (ext_below B3)) hr hk hv hy).mono ?_
    rintro e w4 ⟨v4, rfl, V4, b4⟩
    have B4 := B3.trans (b4.mono B3.size)
    obtain ⟨ka, kc, va, vc, ya, yc, rfl⟩ := act_shape V4
    have P4 := below_blk b4 hs3 P3
    have hs4 := b4.size
    clear q0 q1 q2 q3 q4 q5 q6 q7 b4 b3 b2
    go_wp2_with fail
    refine (iActOkV _ d _ (V4.ext (hE _ _))).mono ?_
    rintro e w5 ⟨rfl, b5⟩
    rw [← HB.out]
    have X4 : ∀ o, Ext w4 (w4.alloc o) := hE w4
    have P5 := below_blk b5 (by simp; omega) ((Below.heap_alloc w4 _ w.heap.size (by omega)).trans P4)
    have T5 := below_blk b5 (by simp) (heap_alloc_new w4 _)
    have V5 := (V4.ext (X4 _)).ext (ext_below b5)
    have B5 := (B4.alloc B4.size _).trans (b5.mono (by have := B4.size; simp; omega))
    have hs5 : w4.heap.size < w5.heap.size := (Array.getElem?_eq_some_iff.1 T5).1
    obtain ⟨q0, _⟩ := at_block P5 0 _ rfl
    obtain ⟨q1, _⟩ := at_block P5 1 _ rfl
    obtain ⟨q2, _⟩ := at_block P5 2 _ rfl
    obtain ⟨q3, _⟩ := at_block P5 3 _ rfl
    obtain ⟨q4, _⟩ := at_block P5 4 _ rfl
    obtain ⟨q5, _⟩ := at_block P5 5 _ rfl
    obtain ⟨q6, _⟩ := at_block P5 6 _ rfl
    obtain ⟨q7, _⟩ := at_block P5 7 _ rfl
    obtain ⟨t0, _⟩ := at_block T5 0 _ rfl
    obtain ⟨t1, _⟩ := at_block T5 1 _ rfl
    obtain ⟨t2, _⟩ := at_block T5 2 _ rfl
    obtain ⟨t3, _⟩ := at_block T5 3 _ rfl
    obtain ⟨t4, _⟩ := at_block T5 4 _ rfl
    obtain ⟨t5, _⟩ := at_block T5 5 _ rfl
    obtain ⟨t6, _⟩ := at_block T5 6 _ rfl
    obtain ⟨t7, _⟩ := at_block T5 7 _ rfl
    clear b5
    have S5 : (w5.cell? ⟨w4.heap.size, 0, none⟩ = some (.int .i64 d.kind) ∧ w5.cell? ⟨w4.heap.size, 1, none⟩ = some (.int .i64 d.node) ∧ w5.cell? ⟨w4.heap.size, 2, none⟩ = some (.int .i64 d.i) ∧ w5.cell? ⟨w4.heap.size, 3, none⟩ = some (.int .i64 d.op.kind) ∧ w5.cell? ⟨w4.heap.size, 4, none⟩ = some (.slice ka d.op.key.length kc) ∧ w5.cell? ⟨w4.heap.size, 5, none⟩ = some (.slice va d.op.val.length vc) ∧ w5.cell? ⟨w4.heap.size, 6, none⟩ = some (.int .i64 d.op.n) ∧ w5.cell? ⟨w4.heap.size, 7, none⟩ = some (.slice ya d.key.length yc)) ∧ (w5.cell? ⟨w.heap.size, 0, none⟩ = some (.int .i64 d.kind) ∧ w5.cell? ⟨w.heap.size, 1, none⟩ = some (.int .i64 d.node) ∧ w5.cell? ⟨w.heap.size, 2, none⟩ = some (.int .i64 d.i) ∧ w5.cell? ⟨w.heap.size, 3, none⟩ = some (.int .i64 d.op.kind) ∧ w5.cell? ⟨w.heap.size, 4, none⟩ = some kv ∧ w5.cell? ⟨w.heap.size, 5, none⟩ = some vv ∧ w5.cell? ⟨w.heap.size, 6, none⟩ = some (.int .i64 d.op.n) ∧ w5.cell? ⟨w.heap.size, 7, none⟩ = some yv) := ⟨⟨t0, t1, t2, t3, t4, t5, t6, t7⟩, ⟨q0, q1, q2, q3, q4, q5, q6, q7⟩⟩
    have HS5 : Hid _ := S5
    have X5 : Ext w5 w5.drew := ext_drewN w5 1
    go_wp2_with fail
    go_region_held3 (fun w' => w'.cell? ⟨w4.heap.size, 0, none⟩ = some (.int .i64 d.kind) ∧ w'.cell? ⟨w4.heap.size, 1, none⟩ = some (.int .i64 d.node) ∧ w'.cell? ⟨w4.heap.size, 2, none⟩ = some (.int .i64 d.i) ∧ w'.cell? ⟨w4.heap.size, 3, none⟩ = some (.int .i64 d.op.kind) ∧ w'.cell? ⟨w4.heap.size, 4, none⟩ = some (.slice ka d.op.key.length kc) ∧ w'.cell? ⟨w4.heap.size, 5, none⟩ = some (.slice va d.op.val.length vc) ∧ w'.cell? ⟨w4.heap.size, 6, none⟩ = some (.int .i64 d.op.n) ∧ w'.cell? ⟨w4.heap.size, 7, none⟩ = some (.slice ya d.key.length yc) ∧ w'.cell? ⟨w.heap.size, 0, none⟩ = some (.int .i64 d.kind) ∧ w'.cell? ⟨w.heap.size, 1, none⟩ = some (.int .i64 d.node) ∧ w'.cell? ⟨w.heap.size, 2, none⟩ = some (.int .i64 d.i) ∧ w'.cell? ⟨w.heap.size, 3, none⟩ = some (.int .i64 d.op.kind) ∧ w'.cell? ⟨w.heap.size, 4, none⟩ = some kv ∧ w'.cell? ⟨w.heap.size, 5, none⟩ = some vv ∧ w'.cell? ⟨w.heap.size, 6, none⟩ = some (.int .i64 d.op.n) ∧ w'.cell? ⟨w.heap.size, 7, none⟩ = some yv) (simp [*])
      (first | (go_at_call 28; refine (toA _ d _ ?_ hr hk hv hy).mono ?_; exact (h0.ext (ext_below B5)).ext X5; rintro e w6 ⟨v6, rfl, V6, b6⟩; obtain ⟨⟨a0, a1, a2, a3, a4, a5, a6, a7⟩, ⟨c0, c1, c2, c3, c4, c5, c6, c7⟩⟩ := keepA2 (w := w5.drew) HS5.out b6) | (go_at_call 30; refine (eqA _ _ d _ ?_ ?_ (by omega) (by omega) (by omega)).mono ?_; exact (V5.ext X5).ext (ext_below b6); exact V6; rintro e w7 ⟨rfl, b7⟩; obtain ⟨⟨a0', a1', a2', a3', a4', a5', a6', a7'⟩, ⟨c0', c1', c2', c3', c4', c5', c6', c7'⟩⟩ := keepA2 ⟨⟨a0, a1, a2, a3, a4, a5, a6, a7⟩, ⟨c0, c1, c2, c3, c4, c5, c6, c7⟩⟩ b7))
    all_goals
      go_wp2
      go_ret
      exact ⟨rfl, ((below_drewN B5 1).trans (b6.mono B5.size)).trans (b7.mono (Nat.le_trans B5.size b6.size))⟩

end Go.Proofs.Ytplgnohncdfgcan
