/- The exact statement of TreeSize: the walk of the law itself. -/
import Derived.Test.YtdeogmkcomdbjaaTk2
import Derived.Test.YtdeogmkcomdbjaaTk3
import Derived.Test.YtdeogmkcomdbjaaTe5
import Derived.Test.YtdeogmkcomdbjaaTe3
import Derived.Deep.RegionHeld3
namespace Go.Proofs.Ytdeogmkcomdbjaa
open Go.RowKit

theorem keptT4 {w w' : World} {g : Nat} {a0 a1 a2 a3 : Value} (h : w.cell? ⟨g, 0, none⟩ = some a0 ∧ w.cell? ⟨g, 1, none⟩ = some a1 ∧ w.cell? ⟨g, 2, none⟩ = some a2 ∧ w.cell? ⟨g, 3, none⟩ = some a3) (hb : Below w.heap.size w w') :
    w'.cell? ⟨g, 0, none⟩ = some a0 ∧ w'.cell? ⟨g, 1, none⟩ = some a1 ∧ w'.cell? ⟨g, 2, none⟩ = some a2 ∧ w'.cell? ⟨g, 3, none⟩ = some a3 := by
  have hg : g < w.heap.size := World.block_lt_of_cell? w _ h.1
  obtain ⟨h0, h1, h2, h3⟩ := h
  exact ⟨(hb.cell (p := ⟨g, 0, none⟩) hg).trans h0, (hb.cell (p := ⟨g, 1, none⟩) hg).trans h1, (hb.cell (p := ⟨g, 2, none⟩) hg).trans h2, (hb.cell (p := ⟨g, 3, none⟩) hg).trans h3⟩
theorem keptT8 {w w' : World} {g g' : Nat} {a0 a1 a2 a3 b0 b1 b2 b3 : Value} (h : (w.cell? ⟨g, 0, none⟩ = some a0 ∧ w.cell? ⟨g, 1, none⟩ = some a1 ∧ w.cell? ⟨g, 2, none⟩ = some a2 ∧ w.cell? ⟨g, 3, none⟩ = some a3) ∧ (w.cell? ⟨g', 0, none⟩ = some b0 ∧ w.cell? ⟨g', 1, none⟩ = some b1 ∧ w.cell? ⟨g', 2, none⟩ = some b2 ∧ w.cell? ⟨g', 3, none⟩ = some b3)) (hb : Below w.heap.size w w') :
    (w'.cell? ⟨g, 0, none⟩ = some a0 ∧ w'.cell? ⟨g, 1, none⟩ = some a1 ∧ w'.cell? ⟨g, 2, none⟩ = some a2 ∧ w'.cell? ⟨g, 3, none⟩ = some a3) ∧ (w'.cell? ⟨g', 0, none⟩ = some b0 ∧ w'.cell? ⟨g', 1, none⟩ = some b1 ∧ w'.cell? ⟨g', 2, none⟩ = some b2 ∧ w'.cell? ⟨g', 3, none⟩ = some b3) :=
  ⟨keptT4 h.1 hb, keptT4 h.2 hb⟩

set_option maxHeartbeats 4000000 in
theorem law_TreeSize_of (hI : ∀ (d : Nat) (t : DTree d), L6Says t) (v : Value) {d : Nat} (t : DTree d) (w : World) (h : VTree w t v) :
    Calls Try.prog 3 #[v] w fun e w' => e = .returned (.bool true) ∧ Below w.heap.size w w' := by
  have hE : ∀ w : World, ∀ o, Ext w (w.alloc o) := fun w o => World.grownBy_alloc _ _ _
  have hB : ∀ w : World, ∀ o, Below w.heap.size w (w.alloc o) := fun w o => (Below.refl _ w).alloc (Nat.le_refl _) _
  have h0 : Hid (VTree w t v) := h
  have HI : Hid (∀ (d : Nat) (t : DTree d), L6Says t) := hI
  have HR : Hid (rngT t) := h.rng
  clear hI
  obtain ⟨ob, hob⟩ : ∃ ob : Int, ob = if tB (okT t) then (cntK t : Int) else 0 := ⟨_, rfl⟩
  have HB : Hid (ob = if tB (okT t) then (cntK t : Int) else 0) := hob
  clear hob
  have hne : (ob != ob) = false := by simp
  obtain ⟨q1, q2, q3, hv, xv, q4, q5, q6, rfl⟩ := VTree.agg h
  obtain ⟨ev, hev⟩ : ∃ ev, ev = Value.slice q1 q2 q3 := ⟨_, rfl⟩
  obtain ⟨kv, hkv⟩ : ∃ kv, kv = Value.slice q4 q5 q6 := ⟨_, rfl⟩
  rw [← hev, ← hkv] at h0 ⊢
  clear hev hkv
  clear h
  go_enter Try.func3, Try.ntmps3
  go_wp2_with fail
  refine (szTree_any t _ 1048576 _ (VTree.ext (hE _ _) _ _ h0.out) (by omega) (by omega)).mono ?_
  rintro e w1 ⟨r, rfl, hrr, b1⟩
  have B1 := (hB w _).trans (b1.mono (by simp))
  have P1 := below_blk b1 (by simp) (heap_alloc_new w _)
  rcases hrr with ⟨h1, rfl⟩ | ⟨h1, h2⟩
  · go_wp2_with fail
    go_ret
    exact ⟨rfl, B1⟩
  · have HL : Hid (szT t ≤ 1048576) := by show _ ≤ _; omega
    have hr0 : 0 ≤ r := by omega
    clear h1 h2 b1
    obtain ⟨p0, _⟩ := at_block P1 0 _ rfl
    obtain ⟨p1, _⟩ := at_block P1 1 _ rfl
    obtain ⟨p2, _⟩ := at_block P1 2 _ rfl
    obtain ⟨p3, _⟩ := at_block P1 3 _ rfl
    go_wp2_with fail
    refine (toTree_any t _ w1 (VTree.ext (ext_below B1) _ _ h0.out) HL.out).mono ?_
    rintro e w2 ⟨v2, rfl, o2, b2⟩
    have B2 := B1.trans (b2.mono B1.size)
    have s1 := b2.size
    go_wp2_with fail
    refine (sTreeSizeV_of HI.out t _ w2 (o2.v HR.out) HL.out).mono ?_
    rintro e w3 ⟨rfl, b3⟩
    rw [← HB.out]
    have B3 := B2.trans (b3.mono B2.size)
    have hs3 : w.heap.size < w3.heap.size := by
      have := (Array.getElem?_eq_some_iff.1 P1).1
      have := b3.size
      omega
    have P3 := below_blk b3 (by have := (Array.getElem?_eq_some_iff.1 P1).1; omega) (below_blk b2 (Array.getElem?_eq_some_iff.1 P1).1 P1)
    obtain ⟨q0, _⟩ := at_block P3 0 _ rfl
    obtain ⟨q1, _⟩ := at_block P3 1 _ rfl
    obtain ⟨q2, _⟩ := at_block P3 2 _ rfl
    obtain ⟨q3, _⟩ := at_block P3 3 _ rfl
    clear p0 p1 p2 p3 o2
    go_wp2_with fail
    refine (toTree_any t _ w3 (VTree.ext (ext_below B3) _ _ h0.out) HL.out).mono ?_
    rintro e w4 ⟨v4, rfl, o4, b4⟩
    have B4 := B3.trans (b4.mono B3.size)
    have V4 : Hid (VTree w4 t v4) := o4.v HR.out
    obtain ⟨a4, m4, c4, h4, x4, g4, n4, rfl⟩ := o4.cells HR.out
    clear o4
    have P4 := below_blk b4 hs3 P3
    have hs4 := b4.size
    clear q0 q1 q2 q3 b4 b3 b2
    go_wp2_with fail
    refine (iTreeSizeV t _ _ (VTree.ext (hE _ _) _ _ V4.out) HL.out).mono ?_
    rintro e w5 ⟨rfl, b5⟩
    rw [← HB.out]
    have P5 := below_blk b5 (by simp; omega) ((Below.heap_alloc w4 _ w.heap.size (by omega)).trans P4)
    have T5 := below_blk b5 (by simp) (heap_alloc_new w4 _)
    have V5 : Hid (VTree w5 t (.agg #[.slice a4 m4 c4, .bool h4, .int .i64 x4, .slice (some ⟨g4, 0, none⟩) n4 n4])) := VTree.ext (ext_below b5) _ _ (VTree.ext (hE w4 _) _ _ V4.out)
    have B5 := (B4.alloc B4.size _).trans (b5.mono (by have := B4.size; simp; omega))
    have hs5 : w4.heap.size < w5.heap.size := (Array.getElem?_eq_some_iff.1 T5).1
    obtain ⟨q0, _⟩ := at_block P5 0 _ rfl
    obtain ⟨q1, _⟩ := at_block P5 1 _ rfl
    obtain ⟨q2, _⟩ := at_block P5 2 _ rfl
    obtain ⟨q3, _⟩ := at_block P5 3 _ rfl
    obtain ⟨t0, _⟩ := at_block T5 0 _ rfl
    obtain ⟨t1, _⟩ := at_block T5 1 _ rfl
    obtain ⟨t2, _⟩ := at_block T5 2 _ rfl
    obtain ⟨t3, _⟩ := at_block T5 3 _ rfl
    clear b5
    have S5 : (w5.cell? ⟨w4.heap.size, 0, none⟩ = some (.slice a4 m4 c4) ∧ w5.cell? ⟨w4.heap.size, 1, none⟩ = some (.bool h4) ∧ w5.cell? ⟨w4.heap.size, 2, none⟩ = some (.int .i64 x4) ∧ w5.cell? ⟨w4.heap.size, 3, none⟩ = some (.slice (some ⟨g4, 0, none⟩) n4 n4)) ∧ (w5.cell? ⟨w.heap.size, 0, none⟩ = some ev ∧ w5.cell? ⟨w.heap.size, 1, none⟩ = some (.bool hv) ∧ w5.cell? ⟨w.heap.size, 2, none⟩ = some (.int .i64 xv) ∧ w5.cell? ⟨w.heap.size, 3, none⟩ = some kv) := ⟨⟨t0, t1, t2, t3⟩, ⟨q0, q1, q2, q3⟩⟩
    have HS5 : Hid _ := S5
    have X5 : Ext w5 w5.drew := ext_drewN w5 1
    clear S5
    go_wp2_with fail
    go_region_held3 (fun w' => w'.cell? ⟨w4.heap.size, 0, none⟩ = some (.slice a4 m4 c4) ∧ w'.cell? ⟨w4.heap.size, 1, none⟩ = some (.bool h4) ∧ w'.cell? ⟨w4.heap.size, 2, none⟩ = some (.int .i64 x4) ∧ w'.cell? ⟨w4.heap.size, 3, none⟩ = some (.slice (some ⟨g4, 0, none⟩) n4 n4) ∧ w'.cell? ⟨w.heap.size, 0, none⟩ = some ev ∧ w'.cell? ⟨w.heap.size, 1, none⟩ = some (.bool hv) ∧ w'.cell? ⟨w.heap.size, 2, none⟩ = some (.int .i64 xv) ∧ w'.cell? ⟨w.heap.size, 3, none⟩ = some kv) (simp [*])
      (first | (go_at_call 9; refine (toTree_any t _ _ ?_ HL.out).mono ?_; exact VTree.ext X5 _ _ (VTree.ext (ext_below B5) _ _ h0.out); rintro e w6 ⟨v6, rfl, o6, b6⟩; obtain ⟨⟨a0, a1, a2, a3⟩, ⟨c0, c1, c2, c3⟩⟩ := keptT8 (w := w5.drew) HS5.out b6) | (go_at_call 11; refine (eqTree_any t _ _ _ ?_ ?_ HL.out).mono ?_; exact VTree.ext (ext_below b6) _ _ (VTree.ext X5 _ _ V5.out); exact o6.v HR.out; rintro e w7 ⟨rfl, b7⟩; obtain ⟨⟨a0', a1', a2', a3'⟩, ⟨c0', c1', c2', c3'⟩⟩ := keptT8 ⟨⟨a0, a1, a2, a3⟩, ⟨c0, c1, c2, c3⟩⟩ b7))
    all_goals
      go_wp2_with fail
      go_ret
      exact ⟨rfl, ((below_drewN B5 1).trans (b6.mono B5.size)).trans (b7.mono (Nat.le_trans B5.size b6.size))⟩

theorem law_TreeSize (v : Value) (T : (d : Nat) × DTree d) (w : World) (h : VTree w T.2 v) :
    Calls Try.prog 3 #[v] w fun e w' => e = .returned (.bool true) ∧ Below w.heap.size w w' := law_TreeSize_of l6ok_anyD v T.2 w h

end Go.Proofs.Ytdeogmkcomdbjaa
