/- States as bytes: the program's StateBytes. -/
import Derived.Test.YtknemgmfbmmngaaBy2
import Derived.Test.YtknemgmfbmmngaaIState
namespace Go.Proofs.Ytknemgmfbmmngaa
open Go.RowKit

theorem keyB_le {xs : List Int} (h : keyB xs = true) : xs.length ≤ 20 := by
  unfold keyB at h
  simp only [Bool.and_eq_true, decide_eq_true_eq] at h
  exact h.1.2
theorem stW_of {S : DState} (h : StP S) : StW S := by
  obtain ⟨_, _, hs, hr, ht, hl⟩ := h
  refine ⟨hr.1, ht.1, hs.1, hl.1, fun i r hi => ?_, fun i r hi => ?_⟩
  · have := hr.2 i (get_lt hi) r hi
    exact ⟨keyB_le this.1, this.2.1⟩
  · have := ht.2 i (get_lt hi) r hi
    exact keyB_le this.1
/-- What StateBytes answers: the bytes, or none. -/
def sbL (S : DState) (h : Decidable (StP S) := Classical.propDecidable (StP S)) : List Int := @ite _ (StP S) h (b9state S) []
def SbPost (S : DState) (w : World) (e : Ending) (w' : World) : Prop := ∃ v', e = .returned (.tuple #[v', .bool (tB (StP S))]) ∧ RV w' v' (sbL S) ∧ Ow w' w.heap.size v' (sbL S) ∧ Below w.heap.size w w'
theorem sbL_yes {S : DState} (h : StP S) : sbL S = b9state S := by unfold sbL; exact if_pos h
theorem sbL_no {S : DState} (h : ¬ StP S) : sbL S = [] := by unfold sbL; exact if_neg h
theorem sbL_le (S : DState) : (sbL S).length ≤ 2000 := by
  by_cases h : StP S
  · rw [sbL_yes h]; exact b9state_le (stW_of h)
  · rw [sbL_no h]; simp
theorem ow_nil (w : World) (b : Nat) : Ow w b (.slice none 0 0) [] := by
  exact World.ownsRow_nil _ _ _ _
theorem rows_shape {w : World} {v : Value} {rs : List DRow} (h : VRows w v rs) : ∃ a cap, v = .slice a rs.length cap := by
  obtain ⟨C, ⟨a, cap, rfl, _⟩, _⟩ := h
  exact ⟨a, cap, rfl⟩

set_option maxRecDepth 20000 in
set_option maxHeartbeats 4000000 in
theorem iStateBytesP (v : Value) (S : DState) (w : World) (h : VState w v S) : Calls Try.prog 7 #[v] w (SbPost S w) := by
  have hE : ∀ w : World, ∀ o, Ext w (w.alloc o) := fun w o => World.grownBy_alloc _ _ _
  have hB : ∀ w : World, ∀ o, Below w.heap.size w (w.alloc o) := fun w o => (Below.refl _ w).alloc (Nat.le_refl _) _
  have h0 : Hid (VState w v S) := h
  obtain ⟨rv, tv, sv, lv, rfl, hr, ht, hs, hl⟩ := h
  go_enter Try.func7, Try.ntmps7
  go_wp2_with fail
  have P0 := heap_alloc_new w (.cells #[.int .i64 S.index, rv, tv, .int .i64 S.lost, sv, lv] 37 (0, 0))
  have B0 := hB w (.cells #[.int .i64 S.index, rv, tv, .int .i64 S.lost, sv, lv] 37 (0, 0))
  generalize w.alloc (.cells #[.int .i64 S.index, rv, tv, .int .i64 S.lost, sv, lv] 37 (0, 0)) = W at P0 B0 ⊢
  refine (iStateOkV _ S W (h0.out.ext (ext_below B0))).mono ?_
  rintro e w1 ⟨rfl, b1⟩
  have B1 := B0.trans (b1.mono B0.size)
  obtain ⟨P1, c0, c1, c2, c3, c4, c5⟩ := cellsB6 P0 b1
  clear P0 B0 b1
  cases t0 : tB (StP S)
  · have HK : Hid (sbL S = []) := sbL_no (tB_no t0)
    have HT : Hid (tB (StP S) = false) := t0
    clear t0
    go_wp2
    go_ret2
    refine ⟨_, by rw [HT.out]; rfl, ?_, ?_, B1⟩
    · rw [HK.out]; exact rv_nil _
    · rw [HK.out]; exact ow_nil _ _
  have hp : StP S := tB_iff.1 t0
  have HT : Hid (tB (StP S) = true) := t0
  have hw := stW_of hp
  have HK : Hid (sbL S = b9state S) := sbL_yes hp
  clear hp t0
  obtain ⟨z0, hz0⟩ : ∃ z, z = numsL [] [S.index, S.lost] := ⟨_, rfl⟩
  obtain ⟨z1, hz1⟩ : ∃ z, z = b9list b9row z0 S.rows := ⟨_, rfl⟩
  obtain ⟨z2, hz2⟩ : ∃ z, z = b9list b9tomb z1 S.tombs := ⟨_, rfl⟩
  obtain ⟨z3, hz3⟩ : ∃ z, z = b9list b9sess z2 S.sess := ⟨_, rfl⟩
  obtain ⟨z4, hz4⟩ : ∃ z, z = b9list b9last z3 S.lasts := ⟨_, rfl⟩
  have HZ : Hid (sbL S = z4) := by unfold Hid; rw [HK.out, hz4, hz3, hz2, hz1, hz0]; rfl
  have l0 : z0.length ≤ 10 := by
    rw [hz0]
    have a1 := putL_le [] S.index
    have a2 := putL_le ([] ++ numL S.index) S.lost
    have e0 : ([] : List Int).length = 0 := rfl
    show ([] ++ numL S.index ++ numL S.lost).length ≤ 10
    omega
  have l1 : z1.length ≤ z0.length + 5 + 60 * S.rows.length := by rw [hz1]; exact b9list_le b9row 60 b9row_le z0 S.rows
  have l2 : z2.length ≤ z1.length + 5 + 30 * S.tombs.length := by rw [hz2]; exact b9list_le b9tomb 30 b9tomb_le z1 S.tombs
  have l3 : z3.length ≤ z2.length + 5 + 10 * S.sess.length := by rw [hz3]; exact b9list_le b9sess 10 b9sess_le z2 S.sess
  have m1 : z1.length ≤ 10000 := by have := hw.rows; omega
  have m2 : z2.length ≤ 10000 := by have := hw.rows; have := hw.tombs; omega
  have m3 : z3.length ≤ 10000 := by have := hw.rows; have := hw.tombs; have := hw.sess; omega
  have G0 : Hid (numsL [] [S.index, S.lost] = z0) := hz0.symm
  have G1 : Hid (b9list b9row z0 S.rows = z1) := hz1.symm
  have G2 : Hid (b9list b9tomb z1 S.tombs = z2) := hz2.symm
  have G3 : Hid (b9list b9sess z2 S.sess = z3) := hz3.symm
  have G4 : Hid (b9list b9last z3 S.lasts = z4) := hz4.symm
  clear hz0 hz1 hz2 hz3 hz4 l1 l2 l3
  have HW : Hid (StW S) := hw
  clear hw
  go_wp2_with fail
  refine (putN2 _ [] z0 S.index S.lost _ _ (rv_nil _) (by simp) G0.out (heap_alloc_new _ _)).mono ?_
  rintro e w2 ⟨v2, rfl, r2, o2, b2⟩
  have B2 : Below w.heap.size w w2 := (B1.alloc B1.size _).trans (b2.mono (by have := B1.size; simp; omega))
  have P2 : w2.heap[w.heap.size]? = _ := below_blk b2 (by have := (Array.getElem?_eq_some_iff.1 P1).1; simp; omega) ((Below.heap_alloc w1 _ _ (Array.getElem?_eq_some_iff.1 P1).1).trans P1)
  clear b2 P1 B1 o2 c0 c1 c2 c3 c4 c5
  obtain ⟨_, c0, c1, c2, c3, c4, c5⟩ := cellsB6 P2 (Below.refl _ _)
  go_wp2_with fail
  refine (putListRowV _ _ z0 S.rows _ r2 (hr.ext (ext_below B2)) (by omega) HW.out.rows HW.out.row).mono ?_
  rw [G1.out]
  rintro e w3 ⟨v3, rfl, r3, o3, b3⟩
  have B3 := B2.trans (b3.mono B2.size)
  clear c0 c1 c2 c3 c4 c5
  obtain ⟨P3, c0, c1, c2, c3, c4, c5⟩ := cellsB6 P2 b3
  clear P2 B2 b3 r2 o3
  go_wp2_with fail
  refine (putListTombV _ _ z1 S.tombs _ r3 (ht.ext (ext_below B3)) (by omega) HW.out.tombs HW.out.tomb).mono ?_
  rw [G2.out]
  rintro e w4 ⟨v4, rfl, r4, o4, b4⟩
  have B4 := B3.trans (b4.mono B3.size)
  clear c0 c1 c2 c3 c4 c5
  obtain ⟨P4, c0, c1, c2, c3, c4, c5⟩ := cellsB6 P3 b4
  clear P3 B3 b4 r3 o4
  go_wp2_with fail
  refine (putListSessionV _ _ z2 S.sess _ r4 (hs.ext (ext_below B4)) (by omega) HW.out.sess).mono ?_
  rw [G3.out]
  rintro e w5 ⟨v5, rfl, r5, o5, b5⟩
  have B5 := B4.trans (b5.mono B4.size)
  clear c0 c1 c2 c3 c4 c5
  obtain ⟨P5, c0, c1, c2, c3, c4, c5⟩ := cellsB6 P4 b5
  clear P4 B4 b5 r4 o5
  go_wp2_with fail
  refine (putListLastV _ _ z3 S.lasts _ r5 (hl.ext (ext_below B5)) (by omega) HW.out.lasts).mono ?_
  rw [G4.out]
  rintro e w6 ⟨v6, rfl, r6, o6, b6⟩
  have B6 := B5.trans (b6.mono B5.size)
  have s5 := B5.size
  go_wp2
  go_ret2
  refine ⟨_, by rw [HT.out]; rfl, ?_, ?_, B6⟩
  · rw [HZ.out]; exact r6
  · rw [HZ.out]; exact ow_base o6 s5

end Go.Proofs.Ytknemgmfbmmngaa
