/- The program's seedOk and Mix. -/
import Derived.Test.YtfdklcmhafhbeaaPr2a
import Derived.Test.YtfdklcmhafhbeaaWi
namespace Go.Proofs.Ytfdklcmhafhbeaa
open Go.RowKit

set_option maxHeartbeats 1000000 in
theorem seedOkV (s : Int) (w : World) : Calls Try.prog 53 #[.int .i64 s] w fun e w' => e = .returned (.bool (inB s 0 2147483647)) ∧ w' = w := by
  go_enter Try.func53, Try.ntmps53
  go_wp2_with fail
  refine (withinV _ _ _ _).mono ?_
  rintro e w1 ⟨rfl, rfl⟩
  go_wp2
  go_ret
  exact ⟨rfl, rfl⟩

theorem seed_no {s : Int} (h : s < 0 ∨ 2147483647 < s) : inB s 0 2147483647 = false := by
  unfold inB
  rcases h with h | h
  · rw [decide_eq_false (by omega)]; rfl
  · rw [decide_eq_false (p := s ≤ 2147483647) (by omega)]; simp
theorem seed_yes {s : Int} (h : ¬ (s < 0 ∨ 2147483647 < s)) : inB s 0 2147483647 = true := by
  unfold inB
  rw [decide_eq_true (by omega), decide_eq_true (p := s ≤ 2147483647) (by omega)]; rfl

set_option maxHeartbeats 1000000 in
theorem iMixV (s : Int) (w : World) (_h1 : -9223372036854775808 ≤ s) (_h2 : s ≤ 9223372036854775807) : Calls Try.prog 62 #[.int .i64 s] w fun e w' => e = .returned (.int .i64 (mixF s)) ∧ w' = w := by
  by_cases h : s < 0 ∨ 2147483647 < s
  · have HM : Hid (mixF s = 0) := if_pos h
    have h1 := seed_no h
    clear h
    go_enter Try.func62, Try.ntmps62
    go_wp2_with (go_at_call 53; refine (seedOkV _ _).mono ?_; rintro e w1 ⟨rfl, rfl⟩; rw [h1])
    go_ret
    exact ⟨by rw [HM.out]; rfl, rfl⟩
  · have HM : Hid (mixF s = (16807 * s + 11) % 2147483647) := by show _ = _; rw [Int.mul_comm]; exact if_neg h
    have h1 := seed_yes h
    have h0 : 0 ≤ s := by omega
    have h2 : s ≤ 2147483647 := by omega
    clear h
    go_enter Try.func62, Try.ntmps62
    go_wp2_with (go_at_call 53; refine (seedOkV _ _).mono ?_; rintro e w1 ⟨rfl, rfl⟩; rw [h1])
    go_ret
    exact ⟨by rw [HM.out]; rfl, rfl⟩

end Go.Proofs.Ytfdklcmhafhbeaa
