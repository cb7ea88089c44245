/- The exact statement of OpOk: the walk of the law itself, out of the program's contract. -/
import Derived.Test.YtgfnhhcelifokajOp3
import Derived.Test.YtgfnhhcelifokajOpen1
import Derived.Deep.RegionHeld3
namespace Go.Proofs.Ytgfnhhcelifokaj
open Go.RowKit

/-- What the program's OpOk must answer. -/
def OpOkSays : Prop := ∀ (v : Value) (d : DOp) (w : World), VOp w v d → Calls Try.prog 17 #[v] w fun e w' => e = .returned (.bool (opB d)) ∧ Below w.heap.size w w'

theorem oop_shape {w : World} {base : Nat} {v : Value} {d : DOp} (h : OOp w base v d) (hr : rngOp d) : ∃ ka kc va vc, v = .agg #[.int .i64 d.kind, .slice ka d.key.length kc, .slice va d.val.length vc, .int .i64 d.n] ∧ VOp w v d := by
  have h' := h.v hr
  obtain ⟨kv, vv, rfl, ok, ov, _⟩ := h
  obtain ⟨ka, kc, rfl, _, _, _⟩ := Ow.rv ok hr.1
  obtain ⟨va, vc, rfl, _, _, _⟩ := Ow.rv ov hr.2
  exact ⟨ka, kc, va, vc, rfl, h'⟩

theorem keep4 {w w' : World} {g : Nat} {a b c d : Value} (h : w.cell? ⟨g, 0, none⟩ = some a ∧ w.cell? ⟨g, 1, none⟩ = some b ∧ w.cell? ⟨g, 2, none⟩ = some c ∧ w.cell? ⟨g, 3, none⟩ = some d) (hb : Below w.heap.size w w') :
    w'.cell? ⟨g, 0, none⟩ = some a ∧ w'.cell? ⟨g, 1, none⟩ = some b ∧ w'.cell? ⟨g, 2, none⟩ = some c ∧ w'.cell? ⟨g, 3, none⟩ = some d := by
  have hg : g < w.heap.size := World.block_lt_of_cell? w _ h.1
  exact ⟨(hb.cell (p := ⟨g, 0, none⟩) hg).trans h.1, (hb.cell (p := ⟨g, 1, none⟩) hg).trans h.2.1, (hb.cell (p := ⟨g, 2, none⟩) hg).trans h.2.2.1, (hb.cell (p := ⟨g, 3, none⟩) hg).trans h.2.2.2⟩
theorem keep8 {w w' : World} {g g' : Nat} {a b c d a' b' c' d' : Value} (h : (w.cell? ⟨g, 0, none⟩ = some a ∧ w.cell? ⟨g, 1, none⟩ = some b ∧ w.cell? ⟨g, 2, none⟩ = some c ∧ w.cell? ⟨g, 3, none⟩ = some d) ∧ (w.cell? ⟨g', 0, none⟩ = some a' ∧ w.cell? ⟨g', 1, none⟩ = some b' ∧ w.cell? ⟨g', 2, none⟩ = some c' ∧ w.cell? ⟨g', 3, none⟩ = some d')) (hb : Below w.heap.size w w') :
    (w'.cell? ⟨g, 0, none⟩ = some a ∧ w'.cell? ⟨g, 1, none⟩ = some b ∧ w'.cell? ⟨g, 2, none⟩ = some c ∧ w'.cell? ⟨g, 3, none⟩ = some d) ∧ (w'.cell? ⟨g', 0, none⟩ = some a' ∧ w'.cell? ⟨g', 1, none⟩ = some b' ∧ w'.cell? ⟨g', 2, none⟩ = some c' ∧ w'.cell? ⟨g', 3, none⟩ = some d') :=
  ⟨keep4 h.1 hb, keep4 h.2 hb⟩

set_option maxHeartbeats 2000000 in
theorem law_OpOk_of (hI : OpOkSays) (v : Value) (d : DOp) (w : World) (h : VOp w v d) (hr : rngOp d) (_hi : intOp d) :
    Calls Try.prog 5 #[v] w fun e w' => e = .returned (.bool true) ∧ Below w.heap.size w w' := by
  have hE : ∀ w : World, ∀ o, Ext w (w.alloc o) := fun w o => World.grownBy_alloc _ _ _
  have hB : ∀ w : World, ∀ o, Below w.heap.size w (w.alloc o) := fun w o => (Below.refl _ w).alloc (Nat.le_refl _) _
  have h0 := h
  obtain ⟨kv, vv, rfl, rk, rv⟩ := h
  obtain ⟨ob, hob⟩ : ∃ ob, ob = opB d := ⟨_, rfl⟩
  have HB : Hid (ob = opB d) := hob
  have HI : Hid OpOkSays := hI
  clear hob hI
  go_enter Try.func5, Try.ntmps5
  go_wp2_with fail
  refine (szO _ d 1048576 _ (h0.ext (hE _ _)) (by omega) (by omega)).mono ?_
  rintro e w1 ⟨r, rfl, hrr, b1⟩
  have B1 := (hB w _).trans (b1.mono (by simp))
  have P1 := below_blk b1 (by simp) (heap_alloc_new w _)
  rcases hrr with ⟨h1, rfl⟩ | ⟨h1, h2⟩
  · go_wp2
    go_ret
    exact ⟨rfl, B1⟩
  · have hk : d.key.length ≤ 1048576 := by omega
    have hv : d.val.length ≤ 1048576 := by omega
    have hr0 : 0 ≤ r := by omega
    clear h1 h2 b1
    obtain ⟨p0, _⟩ := at_block P1 0 _ rfl
    obtain ⟨p1, _⟩ := at_block P1 1 _ rfl
    obtain ⟨p2, _⟩ := at_block P1 2 _ rfl
    obtain ⟨p3, _⟩ := at_block P1 3 _ rfl
    go_wp2_with fail
    refine (toO _ d w1 (h0.ext (ext_below B1)) hr hk hv).mono ?_
    rintro e w2 ⟨v2, rfl, o2, b2⟩
    have B2 := B1.trans (b2.mono B1.size)
    have s1 := b2.size
    go_wp2_with fail
    refine (opOkV v2 d w2 (o2.v hr)).mono ?_
    rintro e w3 ⟨rfl, b3⟩
    rw [← HB.out]
    have B3 := B2.trans (b3.mono B2.size)
    have hs3 : w.heap.size < w3.heap.size := by
      have := (Array.getElem?_eq_some_iff.1 P1).1
      have := b3.size
      omega
    have P3 := below_blk b3 (by have := (Array.getElem?_eq_some_iff.1 P1).1; omega) (below_blk b2 (Array.getElem?_eq_some_iff.1 P1).1 P1)
    obtain ⟨q0, _⟩ := at_block P3 0 _ rfl
    obtain ⟨q1, _⟩ := at_block P3 1 _ rfl
    obtain ⟨q2, _⟩ := at_block P3 2 _ rfl
    obtain ⟨q3, _⟩ := at_block P3 3 _ rfl
    clear p0 p1 p2 p3
    go_wp2_with fail
    refine (toO _ d w3 (h0.ext (ext_below B3)) hr hk hv).mono ?_
    rintro e w4 ⟨v4, rfl, o4, b4⟩
    have B4 := B3.trans (b4.mono B3.size)
    obtain ⟨ka, kc, va, vc, rfl, V4⟩ := oop_shape o4 hr
    have P4 := below_blk b4 hs3 P3
    have hs4 := b4.size
    clear q0 q1 q2 q3 b4 b3 b2
    go_wp2_with fail
    refine ((HI.out) _ d _ (V4.ext (hE _ _))).mono ?_
    rintro e w5 ⟨rfl, b5⟩
    rw [← HB.out]
    have X4 : ∀ o, Ext w4 (w4.alloc o) := hE w4
    have P5 := below_blk b5 (by simp; omega) ((Below.heap_alloc w4 _ w.heap.size (by omega)).trans P4)
    have T5 := below_blk b5 (by simp) (heap_alloc_new w4 _)
    have V5 := (V4.ext (X4 _)).ext (ext_below b5)
    have B5 := (B4.alloc B4.size _).trans (b5.mono (by have := B4.size; simp; omega))
    have hs5 : w4.heap.size < w5.heap.size := (Array.getElem?_eq_some_iff.1 T5).1
    obtain ⟨q0, _⟩ := at_block P5 0 _ rfl
    obtain ⟨q1, _⟩ := at_block P5 1 _ rfl
    obtain ⟨q2, _⟩ := at_block P5 2 _ rfl
    obtain ⟨q3, _⟩ := at_block P5 3 _ rfl
    obtain ⟨t0, _⟩ := at_block T5 0 _ rfl
    obtain ⟨t1, _⟩ := at_block T5 1 _ rfl
    obtain ⟨t2, _⟩ := at_block T5 2 _ rfl
    obtain ⟨t3, _⟩ := at_block T5 3 _ rfl
    clear b5
    have S5 : (w5.cell? ⟨w4.heap.size, 0, none⟩ = some (.int .i64 d.kind) ∧ w5.cell? ⟨w4.heap.size, 1, none⟩ = some (.slice ka d.key.length kc) ∧ w5.cell? ⟨w4.heap.size, 2, none⟩ = some (.slice va d.val.length vc) ∧ w5.cell? ⟨w4.heap.size, 3, none⟩ = some (.int .i64 d.n)) ∧ (w5.cell? ⟨w.heap.size, 0, none⟩ = some (.int .i64 d.kind) ∧ w5.cell? ⟨w.heap.size, 1, none⟩ = some kv ∧ w5.cell? ⟨w.heap.size, 2, none⟩ = some vv ∧ w5.cell? ⟨w.heap.size, 3, none⟩ = some (.int .i64 d.n)) := ⟨⟨t0, t1, t2, t3⟩, ⟨q0, q1, q2, q3⟩⟩
    have HS5 : Hid _ := S5
    have X5 : Ext w5 w5.drew := ext_drewN w5 1
    go_wp2_with fail
    go_region_held3 (fun w' => w'.cell? ⟨w4.heap.size, 0, none⟩ = some (.int .i64 d.kind) ∧ w'.cell? ⟨w4.heap.size, 1, none⟩ = some (.slice ka d.key.length kc) ∧ w'.cell? ⟨w4.heap.size, 2, none⟩ = some (.slice va d.val.length vc) ∧ w'.cell? ⟨w4.heap.size, 3, none⟩ = some (.int .i64 d.n) ∧ w'.cell? ⟨w.heap.size, 0, none⟩ = some (.int .i64 d.kind) ∧ w'.cell? ⟨w.heap.size, 1, none⟩ = some kv ∧ w'.cell? ⟨w.heap.size, 2, none⟩ = some vv ∧ w'.cell? ⟨w.heap.size, 3, none⟩ = some (.int .i64 d.n)) (simp [*])
      (first | (go_at_call 16; refine (toO _ d _ ?_ hr hk hv).mono ?_; exact (h0.ext (ext_below B5)).ext X5; rintro e w6 ⟨v6, rfl, o6, b6⟩; obtain ⟨⟨a0, a1, a2, a3⟩, ⟨c0, c1, c2, c3⟩⟩ := keep8 (w := w5.drew) HS5.out b6) | (go_at_call 18; refine (eqO _ _ d _ ?_ ?_ (by omega) (by omega)).mono ?_; exact (V5.ext X5).ext (ext_below b6); exact o6.v hr; rintro e w7 ⟨rfl, b7⟩; obtain ⟨⟨a0', a1', a2', a3'⟩, ⟨c0', c1', c2', c3'⟩⟩ := keep8 ⟨⟨a0, a1, a2, a3⟩, ⟨c0, c1, c2, c3⟩⟩ b7))
    all_goals
      go_wp2
      go_ret
      exact ⟨rfl, ((below_drewN B5 1).trans (b6.mono B5.size)).trans (b7.mono (Nat.le_trans B5.size b6.size))⟩

end Go.Proofs.Ytgfnhhcelifokaj
