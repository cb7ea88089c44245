/- Moves as data, and MoveOk of both sides. -/
import Derived.Test.YtdfjonamolgjnaaWi
import Derived.Test.YtdfjonamolgjnaaOp0
namespace Go.Proofs.Ytdfjonamolgjnaa
open Go.RowKit

structure DMov where
  kind : Int
  who : Int
  i : Int
/-- It may be a move. -/
def movB (m : DMov) : Bool := decide (0 ≤ m.kind) && decide (m.kind ≤ 6) && decide (0 ≤ m.who) && decide (m.who < 12) && decide (0 ≤ m.i) && decide (m.i ≤ 2147483647)
theorem movB_in (m : DMov) : movB m = (inB m.kind 0 6 && (inB m.who 0 11 && inB m.i 0 2147483647)) := by
  unfold movB inB
  rw [show decide (m.who < 12) = decide (m.who ≤ 11) by rw [decide_eq_decide]; omega]
  simp only [Bool.and_assoc]

set_option maxHeartbeats 1000000 in
theorem toMovV (m : DMov) (w : World) :
    Calls Try.prog 5 #[.agg #[.int .i64 m.kind, .int .i64 m.who, .int .i64 m.i]] w fun e w' => e = .returned (.agg #[.int .i64 m.kind, .int .i64 m.who, .int .i64 m.i]) ∧ Below w.heap.size w w' := by
  go_enter Try.func5, Try.ntmps5
  go_wp2
  refine bodyPost_ret (v := .agg #[.int .i64 m.kind, .int .i64 m.who, .int .i64 m.i]) (by simp [results, Try.results5, go_sem]) rfl ?_
  exact ⟨rfl, (((Below.refl _ w).alloc (Nat.le_refl _) _).alloc (by simp) _).alloc (by simp; omega) _⟩

set_option maxHeartbeats 2000000 in
theorem sMoveOkV (m : DMov) (w : World) :
    Calls Try.prog 4 #[.agg #[.int .i64 m.kind, .int .i64 m.who, .int .i64 m.i]] w fun e w' => e = .returned (.bool (movB m)) ∧ Below w.heap.size w w' := by
  have hB : ∀ w : World, ∀ o, Below w.heap.size w (w.alloc o) := fun w o => (Below.refl _ w).alloc (Nat.le_refl _) _
  have HM : Hid (movB m = (decide (0 ≤ m.kind) && decide (m.kind ≤ 6) && decide (0 ≤ m.who) && decide (m.who < 12) && decide (0 ≤ m.i) && decide (m.i ≤ 2147483647))) := rfl
  generalize movB m = mb at HM ⊢
  obtain ⟨i, s, l⟩ := m
  simp only at HM ⊢
  go_enter Try.func4, Try.ntmps4
  cases h1 : decide (0 ≤ i)
  · have HK : Hid (mb = false) := by show _ = _; rw [HM.out, h1]; simp
    go_wp2
    go_ret
    exact ⟨by rw [HK.out]; rfl, hB _ _⟩
  cases h2 : decide (i ≤ 6)
  · have HK : Hid (mb = false) := by show _ = _; rw [HM.out, h2]; simp
    go_wp2
    go_ret
    exact ⟨by rw [HK.out]; rfl, hB _ _⟩
  cases h3 : decide (0 ≤ s)
  · have HK : Hid (mb = false) := by show _ = _; rw [HM.out, h3]; simp
    go_wp2
    go_ret
    exact ⟨by rw [HK.out]; rfl, hB _ _⟩
  cases h4 : decide (s < 12)
  · have HK : Hid (mb = false) := by show _ = _; rw [HM.out, h4]; simp
    go_wp2
    go_ret
    exact ⟨by rw [HK.out]; rfl, hB _ _⟩
  cases h5 : decide (0 ≤ l)
  · have HK : Hid (mb = false) := by show _ = _; rw [HM.out, h5]; simp
    go_wp2
    go_ret
    exact ⟨by rw [HK.out]; rfl, hB _ _⟩
  have HK : Hid (mb = decide (l ≤ 2147483647)) := by show _ = _; rw [HM.out, h1, h2, h3, h4, h5]; simp
  generalize hd : decide (l ≤ 2147483647) = d6 at HK
  go_wp2
  go_ret
  exact ⟨by rw [HK.out]; rfl, hB _ _⟩

set_option maxHeartbeats 2000000 in
theorem iMoveOkV (m : DMov) (w : World) :
    Calls Try.prog 6 #[.agg #[.int .i64 m.kind, .int .i64 m.who, .int .i64 m.i]] w fun e w' => e = .returned (.bool (movB m)) ∧ Below w.heap.size w w' := by
  have hB : ∀ w : World, ∀ o, Below w.heap.size w (w.alloc o) := fun w o => (Below.refl _ w).alloc (Nat.le_refl _) _
  have HM : Hid (movB m = (inB m.kind 0 6 && (inB m.who 0 11 && inB m.i 0 2147483647))) := movB_in m
  generalize movB m = mb at HM ⊢
  obtain ⟨i, s, l⟩ := m
  simp only at HM ⊢
  go_enter Try.func6, Try.ntmps6
  cases h1 : inB i 0 6
  · have HK : Hid (mb = false) := by show _ = _; rw [HM.out, h1]; rfl
    clear HM
    go_wp2_with (go_at_call 7; refine (withinV _ _ _ _).mono ?_; rintro e w1 ⟨rfl, rfl⟩; rw [h1])
    go_ret
    exact ⟨by rw [HK.out]; rfl, hB _ _⟩
  cases h2 : inB s 0 11
  · have HK : Hid (mb = false) := by show _ = _; rw [HM.out, h2]; simp
    clear HM
    go_wp2_with (go_at_call 7; refine (withinV _ _ _ _).mono ?_; rintro e w1 ⟨rfl, rfl⟩; first | rw [h1] | rw [h2])
    go_ret
    exact ⟨by rw [HK.out]; rfl, hB _ _⟩
  have HK : Hid (mb = inB l 0 2147483647) := by show _ = _; rw [HM.out, h1, h2]; simp
  obtain ⟨b3, h3⟩ : ∃ b3, inB l 0 2147483647 = b3 := ⟨_, rfl⟩
  rw [h3] at HK
  clear HM
  go_wp2_with (go_at_call 7; refine (withinV _ _ _ _).mono ?_; rintro e w1 ⟨rfl, rfl⟩; first | rw [h1] | rw [h2] | rw [h3])
  go_ret
  exact ⟨by rw [HK.out]; rfl, hB _ _⟩

end Go.Proofs.Ytdfjonamolgjnaa
