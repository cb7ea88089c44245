/- The exact statement of MoveOk: the walk of the law itself. -/
import Derived.Test.YtdfjonamolgjnaaOpenV
import Derived.Test.YtdfjonamolgjnaaMo0
namespace Go.Proofs.Ytdfjonamolgjnaa
open Go.RowKit

set_option maxHeartbeats 2000000 in
theorem law_MoveOk (v : Value) (m : DMov) (w : World) (h : VMo w v m) (_h1 : True) (_h2 : intMo m) :
    Calls Try.prog 3 #[v] w fun e w' => e = .returned (.bool true) ∧ Below w.heap.size w w' := by
  have hB : ∀ w : World, ∀ o, Below w.heap.size w (w.alloc o) := fun w o => (Below.refl _ w).alloc (Nat.le_refl _) _
  obtain rfl : v = .agg #[.int .i64 m.kind, .int .i64 m.who, .int .i64 m.i] := h
  obtain ⟨R, hR⟩ : ∃ R, R = movB m := ⟨_, rfl⟩
  have HR : Hid (movB m = R) := hR.symm
  clear hR
  go_enter Try.func3, Try.ntmps3
  go_wp2_with fail
  refine (toMovV m _).mono ?_
  rintro e w1 ⟨rfl, b1⟩
  have B1 := (hB w _).trans (b1.mono (by simp))
  have P1 := below_blk b1 (by simp) (heap_alloc_new w _)
  clear b1
  go_wp2_with fail
  refine (sMoveOkV m _).mono ?_
  rintro e w2 ⟨rfl, b2⟩
  rw [HR.out]
  have B2 := B1.trans (b2.mono B1.size)
  have P2 := below_blk b2 (Array.getElem?_eq_some_iff.1 P1).1 P1
  obtain ⟨p0, _⟩ := at_block P2 0 _ rfl
  obtain ⟨p1, _⟩ := at_block P2 1 _ rfl
  obtain ⟨p2, _⟩ := at_block P2 2 _ rfl
  clear P1 b2 B1
  go_wp2_with fail
  refine (toMovV m _).mono ?_
  rintro e w3 ⟨rfl, b3⟩
  have B3 := B2.trans (b3.mono B2.size)
  go_wp2_with fail
  refine (iMoveOkV m _).mono ?_
  rintro e w4 ⟨rfl, b4⟩
  rw [HR.out]
  have B4 := B3.trans (b4.mono B3.size)
  go_wp2
  go_ret
  exact ⟨rfl, B4⟩

end Go.Proofs.Ytdfjonamolgjnaa
