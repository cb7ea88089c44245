/- The program's ProberNew. -/
import Derived.Test.YtbgjfccdgalapaaPr4a
import Derived.Test.YtbgjfccdgalapaaPx0
namespace Go.Proofs.Ytbgjfccdgalapaa
open Go.RowKit

set_option maxHeartbeats 1000000 in
theorem iProberNewV (s : Int) (w : World) (_h1 : -9223372036854775808 ≤ s) (_h2 : s ≤ 9223372036854775807) :
    Calls Try.prog 22 #[.int .i64 s] w fun e w' => ∃ tv, e = .returned (.tuple #[.agg #[tv, .int .i64 (newPD s).1.next, .int .i64 (newPD s).1.seed, .int .i64 (newPD s).1.state, .int .i64 (newPD s).1.who, .int .i64 (newPD s).1.wait], .bool (newPD s).2]) ∧ OwI w' w.heap.size tv (newPD s).1.order ∧ Below w.heap.size w w' := by
  have hB : ∀ w : World, ∀ o, Below w.heap.size w (w.alloc o) := fun w o => (Below.refl _ w).alloc (Nat.le_refl _) _
  obtain ⟨R, hR⟩ : ∃ R, R = newPD s := ⟨_, rfl⟩
  rw [← hR]
  by_cases h : s < 0 ∨ 2147483647 < s
  · have HK : Hid (R = (zeroPro, false)) := by show _ = _; rw [hR]; exact if_pos h
    have h1 := seed_no h
    clear hR h
    go_enter Try.func22, Try.ntmps22
    go_wp2_with (go_at_call 27; refine (seedOkV _ _).mono ?_; rintro e w1 ⟨rfl, hw1⟩; have hw2 := hw1.symm; clear hw1; subst hw2; rw [h1])
    refine bodyPost_ret (v := .tuple #[.agg #[.slice none 0 0, .int .i64 0, .int .i64 0, .int .i64 0, .int .i64 0, .int .i64 0], .bool false]) (by simp [results, Try.results22, go_sem]) rfl ?_
    rw [HK.out]
    exact ⟨_, rfl, OwI.nil _ _, by first | exact hB _ _ | exact pro_below (hB _ _) (Nat.le_refl _) _ _ _ _ _ _⟩
  · have HK : Hid (R = (⟨[], 0, s, 0, 0, 0⟩, true)) := by show _ = _; rw [hR]; exact if_neg h
    have h1 := seed_yes h
    clear hR h
    go_enter Try.func22, Try.ntmps22
    go_wp2_with (go_at_call 27; refine (seedOkV _ _).mono ?_; rintro e w1 ⟨rfl, hw1⟩; have hw2 := hw1.symm; clear hw1; subst hw2; rw [h1])
    refine bodyPost_ret (v := .tuple #[.agg #[.slice none 0 0, .int .i64 0, .int .i64 s, .int .i64 0, .int .i64 0, .int .i64 0], .bool true]) (by simp [results, Try.results22, go_sem]) rfl ?_
    rw [HK.out]
    exact ⟨_, rfl, OwI.nil _ _, by first | exact hB _ _ | exact pro_below (hB _ _) (Nat.le_refl _) _ _ _ _ _ _⟩

end Go.Proofs.Ytbgjfccdgalapaa
