
/- The exact statement of StatusText: the walk of the law itself. -/
import Derived.Test.YtbmagdmhdppokaaSt13
import Derived.Test.YtbmagdmhdppokaaOmK
import Derived.Test.YtbmagdmhdppokaaValE
import Derived.Test.YtbmagdmhdppokaaMark
namespace Go.Proofs.Ytbmagdmhdppokaa
open Go.RowKit

set_option maxHeartbeats 2000000 in
theorem law_StatusText (q : Int) (w : World) (_h1 : -9223372036854775808 ≤ q) (_h2 : q ≤ 9223372036854775807) :
    Calls Try.prog 4 #[.int .i64 q] w fun e w' => e = .returned (.bool true) ∧ Below w.heap.size w w' := by
  have hyr := stL_rng q
  have hyl := stL_len q
  obtain ⟨ys, hys⟩ : ∃ ys, ys = stL q := ⟨_, rfl⟩
  have HY : Hid (ys = stL q) := hys
  rw [← hys] at hyr hyl
  clear hys
  have hyl2 : ys.length ≤ 2097152 := by omega
  go_enter Try.func4, Try.ntmps4
  go_wp2_with fail
  refine (sStatusTextV q w).mono ?_
  rintro e w2 ⟨v2, rfl, o2, b2⟩
  rw [← HY.out] at o2
  go_wp2_with fail
  refine (iStatusTextV q w2).mono ?_
  rintro e w4 ⟨v4, rfl, o4, b4⟩
  rw [← HY.out] at o4
  have c4 := b2.trans (b4.mono b2.size)
  have o2' : OwM w4 w.heap.size v2 ys := o2.ext (ext_below b4)
  go_wp2_with fail
  refine (eqV_yes v4 v2 ys w4 (o4.rv hyr) (o2'.rv hyr) hyl2).mono ?_
  rintro e w5 ⟨rfl, q5, rfl⟩
  have c5 := below_drewN c4 q5
  go_wp2_with fail
  refine (markM w2.heap.size v4 ys 1 _ (o4.ext (ext_drewN w4 q5)) hyl2 (by omega) (by omega)).mono ?_
  rintro e w10 ⟨rfl, o10, g10⟩
  have c10 : Below w.heap.size w w10 := m_below c5 b2.size (o4.ext (ext_drewN w4 q5)) c5.size g10
  have m2 : OwM w10 w.heap.size v2 ys := (o2'.ext (ext_drewN w4 q5)).kept g10 (m_apart o2 (Nat.le_refl _) o4)
  have hpos2 : ¬ (1 + (ys.length : Int)) < 0 := by omega
  go_wp2_with fail
  refine (heldV v4 ys.length 1 w10 (o10.rv (marks_rng _ _)) hyl2 (by omega) (by omega)).mono ?_
  rintro e w11 ⟨rfl, rfl⟩
  go_wp2_with fail
  refine (iStatusTextV q w11).mono ?_
  rintro e w13 ⟨v13, rfl, o13, b13⟩
  rw [← HY.out] at o13
  have c13 := c10.trans (b13.mono c10.size)
  have x13 : Ext w11 w13 := ext_below b13
  go_wp2_with fail
  refine (eqV_yes v13 v2 ys w13 (o13.rv hyr) ((m2.ext x13).rv hyr) hyl2).mono ?_
  rintro e w14 ⟨rfl, q14, rfl⟩
  go_wp2_with fail
  refine (heldV v4 ys.length 1 _ (((o10.ext x13).ext (ext_drewN w13 q14)).rv (marks_rng _ _)) hyl2 (by omega) (by omega)).mono ?_
  rintro e w15 ⟨rfl, rfl⟩
  go_wp2
  go_ret
  exact ⟨rfl, below_drewN c13 q14⟩

end Go.Proofs.Ytbmagdmhdppokaa
