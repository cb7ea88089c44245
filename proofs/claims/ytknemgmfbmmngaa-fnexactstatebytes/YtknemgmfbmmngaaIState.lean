/- The contract of the program's StateOk. -/
import Derived.Test.YtknemgmfbmmngaaIRows
import Derived.Test.YtknemgmfbmmngaaITombs
import Derived.Test.YtknemgmfbmmngaaILast
namespace Go.Proofs.Ytknemgmfbmmngaa
open Go.RowKit

/-- It may be a state. -/
def StP (S : DState) : Prop := (0 ≤ S.index ∧ S.index ≤ 1000000) ∧ (0 ≤ S.lost ∧ S.lost ≤ S.index) ∧ SessP S.index S.sess ∧ RowsP S.index S.sess S.rows ∧ TombsP S.index S.lost S.rows S.tombs ∧ LastP S.index S.lasts

theorem inB_iff {n a b : Int} : inB n a b = true ↔ a ≤ n ∧ n ≤ b := by unfold inB; simp
theorem inB_no {n a b : Int} (h : inB n a b = false) : ¬ (a ≤ n ∧ n ≤ b) := fun h' => by rw [inB_iff.2 h'] at h; cases h
theorem tB_no {p : Prop} (h : tB p = false) : ¬ p := fun h' => by rw [tB_true h'] at h; cases h

/-- The six cells of a struct in a block. -/
theorem six {w : World} {g : Nat} {a b c d e f : Value} {t : TypeId} (h : w.heap[g]? = some (.cells #[a, b, c, d, e, f] t (0, 0))) :
    w.cell? ⟨g, 0, none⟩ = some a ∧ w.cell? ⟨g, 1, none⟩ = some b ∧ w.cell? ⟨g, 2, none⟩ = some c ∧ w.cell? ⟨g, 3, none⟩ = some d ∧ w.cell? ⟨g, 4, none⟩ = some e ∧ w.cell? ⟨g, 5, none⟩ = some f :=
  ⟨(at_block h 0 _ rfl).1, (at_block h 1 _ rfl).1, (at_block h 2 _ rfl).1, (at_block h 3 _ rfl).1, (at_block h 4 _ rfl).1, (at_block h 5 _ rfl).1⟩

set_option maxHeartbeats 2000000 in
theorem iStateOkV (v : Value) (S : DState) (w : World) (h : VState w v S) :
    Calls Try.prog 23 #[v] w fun e w' => e = .returned (.bool (tB (StP S))) ∧ Below w.heap.size w w' := by
  have hE : ∀ w : World, ∀ o, Ext w (w.alloc o) := fun w o => World.grownBy_alloc _ _ _
  have hB : ∀ w : World, ∀ o, Below w.heap.size w (w.alloc o) := fun w o => (Below.refl _ w).alloc (Nat.le_refl _) _
  obtain ⟨rv, tv, sv, lv, rfl, hr, ht, hs, hl⟩ := h
  go_enter Try.func23, Try.ntmps23
  cases h0 : inB S.index 0 1000000
  · have HK : Hid (tB (StP S) = false) := tB_false (fun h => inB_no h0 h.1)
    go_wp2_with (first
      | (go_at_call 56; refine (withinV _ _ _ _).mono ?_; rintro e w1 ⟨rfl, rfl⟩; rw [h0]))
    go_ret
    exact ⟨by rw [HK.out]; rfl, hB _ _⟩
  cases h1 : inB S.lost 0 S.index
  · have HK : Hid (tB (StP S) = false) := tB_false (fun h => inB_no h1 h.2.1)
    go_wp2_with (first
      | (go_at_call 56; refine (withinV _ _ _ _).mono ?_; rintro e w1 ⟨rfl, rfl⟩; first | rw [h0] | rw [h1]))
    go_ret
    exact ⟨by rw [HK.out]; rfl, hB _ _⟩
  have hix : S.index ≤ 1000000 := (inB_iff.1 h0).2
  go_wp2_with (first
    | (go_at_call 56; refine (withinV _ _ _ _).mono ?_; rintro e w1 ⟨rfl, rfl⟩; first | rw [h0] | rw [h1]))
  have P0 := heap_alloc_new w (.cells #[.int .i64 S.index, rv, tv, .int .i64 S.lost, sv, lv] 37 (0, 0))
  have B0 := hB w (.cells #[.int .i64 S.index, rv, tv, .int .i64 S.lost, sv, lv] 37 (0, 0))
  have z0 : w.heap.size < (w.alloc (.cells #[.int .i64 S.index, rv, tv, .int .i64 S.lost, sv, lv] 37 (0, 0))).heap.size := by simp
  generalize w.alloc (.cells #[.int .i64 S.index, rv, tv, .int .i64 S.lost, sv, lv] 37 (0, 0)) = W0 at P0 B0 z0 ⊢
  refine (sessionsOkV rv tv _ sv lv S.index S.sess W0 (hs.ext (ext_below B0)) hix).mono ?_
  rintro e W1 ⟨rfl, b1⟩
  have B1 := B0.trans (b1.mono B0.size)
  have P1 := below_blk b1 z0 P0
  have z1 := Nat.lt_of_lt_of_le z0 b1.size
  cases t0 : tB (SessP S.index S.sess)
  · have HK : Hid (tB (StP S) = false) := tB_false (fun h => tB_no t0 h.2.2.1)
    clear B0 b1 P0
    obtain ⟨q0, q1, q2, q3, q4, q5⟩ := six P1
    go_wp2
    go_ret
    exact ⟨by rw [HK.out]; rfl, B1⟩
  clear B0 b1 P0 z0
  obtain ⟨q0, q1, q2, q3, q4, q5⟩ := six P1
  go_wp2_with fail
  clear q0 q1 q2 q3 q4 q5
  refine (rowsOkV rv tv _ sv lv S.index S.sess S.rows W1 (hr.ext (ext_below B1)) (hs.ext (ext_below B1))).mono ?_
  rintro e W2 ⟨rfl, b2⟩
  have B2 := B1.trans (b2.mono B1.size)
  have P2 := below_blk b2 z1 P1
  have z2 := Nat.lt_of_lt_of_le z1 b2.size
  cases t1 : tB (RowsP S.index S.sess S.rows)
  · have HK : Hid (tB (StP S) = false) := tB_false (fun h => tB_no t1 h.2.2.2.1)
    clear B1 b2 P1
    obtain ⟨q0, q1, q2, q3, q4, q5⟩ := six P2
    go_wp2
    go_ret
    exact ⟨by rw [HK.out]; rfl, B2⟩
  clear B1 b2 P1 z1
  obtain ⟨q0, q1, q2, q3, q4, q5⟩ := six P2
  go_wp2_with fail
  clear q0 q1 q2 q3 q4 q5
  refine (tombsOkV rv tv sv lv S.index S.lost S.rows S.tombs W2 (hr.ext (ext_below B2)) (ht.ext (ext_below B2)) (tB_iff.1 t1).1).mono ?_
  rintro e W3 ⟨rfl, b3⟩
  have B3 := B2.trans (b3.mono B2.size)
  have P3 := below_blk b3 z2 P2
  have z3 := Nat.lt_of_lt_of_le z2 b3.size
  cases t2 : tB (TombsP S.index S.lost S.rows S.tombs)
  · have HK : Hid (tB (StP S) = false) := tB_false (fun h => tB_no t2 h.2.2.2.2.1)
    clear B2 b3 P2
    obtain ⟨q0, q1, q2, q3, q4, q5⟩ := six P3
    go_wp2
    go_ret
    exact ⟨by rw [HK.out]; rfl, B3⟩
  clear B2 b3 P2 z2
  obtain ⟨q0, q1, q2, q3, q4, q5⟩ := six P3
  go_wp2_with fail
  clear q0 q1 q2 q3 q4 q5
  refine (lastsOkV rv tv _ sv lv S.index S.lasts W3 (hl.ext (ext_below B3))).mono ?_
  rintro e W4 ⟨rfl, b4⟩
  have B4 := B3.trans (b4.mono B3.size)
  have P4 := below_blk b4 z3 P3
  have z4 := Nat.lt_of_lt_of_le z3 b4.size
  cases t3 : tB (LastP S.index S.lasts)
  · have HK : Hid (tB (StP S) = false) := tB_false (fun h => tB_no t3 h.2.2.2.2.2)
    clear B3 b4 P3
    obtain ⟨q0, q1, q2, q3, q4, q5⟩ := six P4
    go_wp2
    go_ret
    exact ⟨by rw [HK.out]; rfl, B4⟩
  clear B3 b4 P3 z3
  have HK : Hid (tB (StP S) = true) := tB_true ⟨inB_iff.1 h0, inB_iff.1 h1, tB_iff.1 t0, tB_iff.1 t1, tB_iff.1 t2, tB_iff.1 t3⟩
  go_wp2
  go_ret
  exact ⟨by rw [HK.out]; rfl, B4⟩

end Go.Proofs.Ytknemgmfbmmngaa
