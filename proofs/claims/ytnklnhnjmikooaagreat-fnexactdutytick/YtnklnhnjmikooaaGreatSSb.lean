
/- The specification's StateOk where a number or a length is out of bounds, and the whole contract. -/
import Derived.Test.YtnklnhnjmikooaaGreatSSt
namespace Go.Proofs.YtnklnhnjmikooaaGreat
open Go.RowKit

set_option maxHeartbeats 4000000 in
set_option maxRecDepth 100000 in
theorem sStateB (S : DState) (w : World) (rv tv sv lv : Value) (hr : VRows w rv S.rows) (ht : VTombs w tv S.tombs) (hs : VSess w sv S.sess) (hl : VLasts w lv S.lasts)
    (hbad : ¬ ((0 ≤ S.index ∧ S.index ≤ 1000000) ∧ (0 ≤ S.lost ∧ S.lost ≤ S.index) ∧ S.rows.length ≤ 20 ∧ S.tombs.length ≤ 10 ∧ S.sess.length ≤ 8 ∧ S.lasts.length ≤ 4)) :
    Calls Tryz.prog 27 #[.agg #[.int .i64 S.index, rv, tv, .int .i64 S.lost, sv, lv]] w fun e w' => e = .returned (.bool false) ∧ Below w.heap.size w w' := by
  have hB : ∀ w : World, ∀ o, Below w.heap.size w (w.alloc o) := fun w o => (Below.refl _ w).alloc (Nat.le_refl _) _
  obtain ⟨idx, rows, tombs, lost, sess, lasts⟩ := S
  simp only at hr ht hs hl hbad ⊢
  obtain ⟨_, ⟨a, cap, rfl, _, _, _⟩, _⟩ := hr
  obtain ⟨_, ⟨a1, capt, rfl, _, _, _⟩, _⟩ := ht
  obtain ⟨_, ⟨a2, caps, rfl, _, _, _⟩, _⟩ := hs
  obtain ⟨_, ⟨a3, capl, rfl, _, _, _⟩, _⟩ := hl
  generalize rows.length = n at hbad ⊢
  generalize tombs.length = m at hbad ⊢
  generalize sess.length = p at hbad ⊢
  generalize lasts.length = q at hbad ⊢
  have HBAD : Hid (¬ ((0 ≤ idx ∧ idx ≤ 1000000) ∧ (0 ≤ lost ∧ lost ≤ idx) ∧ n ≤ 20 ∧ m ≤ 10 ∧ p ≤ 8 ∧ q ≤ 4)) := hbad
  clear hbad
  cases e7 : (decide (0 ≤ idx) && decide (idx ≤ 1000000))
  · clear HBAD
    go_enter Tryz.func27, Tryz.ntmps27
    go_wp2_with (go_at_call 63; refine (l2indexV _ _).mono ?_; rintro e w1 ⟨rfl, rfl⟩; rw [e7])
    go_ret
    exact ⟨rfl, hB _ _⟩
  have HI : Hid (0 ≤ idx ∧ idx ≤ 1000000) := by
    have : decide (0 ≤ idx) = true ∧ decide (idx ≤ 1000000) = true := by simpa using e7
    exact ⟨of_decide_eq_true this.1, of_decide_eq_true this.2⟩
  cases e1 : decide ((20 : Int) < (n : Int))
  case true =>
    clear HBAD
    go_enter Tryz.func27, Tryz.ntmps27
    go_wp2_with (go_at_call 63; refine (l2indexV _ _).mono ?_; rintro e w1 ⟨rfl, rfl⟩; rw [e7])
    go_ret
    exact ⟨rfl, hB _ _⟩
  cases e2 : decide ((10 : Int) < (m : Int))
  case true =>
    clear HBAD
    go_enter Tryz.func27, Tryz.ntmps27
    go_wp2_with (go_at_call 63; refine (l2indexV _ _).mono ?_; rintro e w1 ⟨rfl, rfl⟩; rw [e7])
    go_ret
    exact ⟨rfl, hB _ _⟩
  cases e5 : decide (lost < 0)
  case true =>
    clear HBAD
    go_enter Tryz.func27, Tryz.ntmps27
    go_wp2_with (go_at_call 63; refine (l2indexV _ _).mono ?_; rintro e w1 ⟨rfl, rfl⟩; rw [e7])
    go_ret
    exact ⟨rfl, hB _ _⟩
  cases e6 : decide (idx < lost)
  case true =>
    clear HBAD
    go_enter Tryz.func27, Tryz.ntmps27
    go_wp2_with (go_at_call 63; refine (l2indexV _ _).mono ?_; rintro e w1 ⟨rfl, rfl⟩; rw [e7])
    go_ret
    exact ⟨rfl, hB _ _⟩
  cases e3 : decide ((8 : Int) < (p : Int))
  case true =>
    clear HBAD
    go_enter Tryz.func27, Tryz.ntmps27
    go_wp2_with (go_at_call 63; refine (l2indexV _ _).mono ?_; rintro e w1 ⟨rfl, rfl⟩; rw [e7])
    go_ret
    exact ⟨rfl, hB _ _⟩
  cases e4 : decide ((4 : Int) < (q : Int))
  case true =>
    clear HBAD
    go_enter Tryz.func27, Tryz.ntmps27
    go_wp2_with (go_at_call 63; refine (l2indexV _ _).mono ?_; rintro e w1 ⟨rfl, rfl⟩; rw [e7])
    go_ret
    exact ⟨rfl, hB _ _⟩
  exact absurd (⟨HI.out, ⟨by have := of_decide_eq_false e5; omega, by have := of_decide_eq_false e6; omega⟩, by have := of_decide_eq_false e1; omega, by have := of_decide_eq_false e2; omega, by have := of_decide_eq_false e3; omega, by have := of_decide_eq_false e4; omega⟩) HBAD.out

theorem sStateOkV (v : Value) (S : DState) (w : World) (h : VState w v S) :
    Calls Tryz.prog 27 #[v] w fun e w' => e = .returned (.bool (tB (StP S))) ∧ Below w.heap.size w w' := by
  obtain ⟨rv, tv, sv, lv, rfl, hr, ht, hs, hl⟩ := h
  by_cases hk : (0 ≤ S.index ∧ S.index ≤ 1000000) ∧ (0 ≤ S.lost ∧ S.lost ≤ S.index) ∧ S.rows.length ≤ 20 ∧ S.tombs.length ≤ 10 ∧ S.sess.length ≤ 8 ∧ S.lasts.length ≤ 4
  · exact sStateX S w rv tv sv lv hr ht hs hl hk.1 hk.2.1 hk.2.2.1 hk.2.2.2.1 hk.2.2.2.2.1 hk.2.2.2.2.2
  · rw [tB_false (fun h : StP S => hk ⟨h.1, h.2.1, h.2.2.2.1.1, h.2.2.2.2.1.1, h.2.2.1.1, h.2.2.2.2.2.1⟩)]
    exact sStateB S w rv tv sv lv hr ht hs hl hk

end Go.Proofs.YtnklnhnjmikooaaGreat
