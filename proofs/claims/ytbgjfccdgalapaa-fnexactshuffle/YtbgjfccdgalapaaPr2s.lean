/- The specification's Shuffle. -/
import Derived.Test.YtbgjfccdgalapaaPr2
namespace Go.Proofs.Ytbgjfccdgalapaa
open Go.RowKit

set_option maxHeartbeats 1000000 in
theorem sShuffleV (v : Value) (xs : List Int) (s : Int) (w : World) (h : VL fI w v xs) (_h1 : -9223372036854775808 ≤ s) (_h2 : s ≤ 9223372036854775807) :
    Calls Try.prog 10 #[v, .int .i64 s] w fun e w' => ∃ tv, e = .returned (.tuple #[tv, .int .i64 (shufD xs s).2]) ∧ OwI w' w.heap.size tv (shufD xs s).1 ∧ Below w.heap.size w w' := by
  have HV : Hid (VL fI w v xs) := h
  obtain ⟨a, cap, rfl⟩ := vl_shape h
  obtain ⟨n, hnn⟩ : ∃ n, n = xs.length := ⟨_, rfl⟩
  have hml : n ≤ 9223372036854775807 := by
    obtain ⟨a', cap', e, h1, h2, _⟩ := h
    unfold maxLen at h2
    omega
  have HN : Hid (n = xs.length) := hnn
  obtain ⟨R, hR⟩ : ∃ R, R = shufD xs s := ⟨_, rfl⟩
  rw [← hR]
  rw [← hnn] at HV ⊢
  have HNIL : Hid (OwI w w.heap.size (.slice none 0 0) []) := World.ownsRow_nil _ _ _ _
  by_cases h1 : n > 12 ∨ s < 0 ∨ 2147483647 < s
  · have HK : Hid (R = ([], 0)) := by show _ = _; rw [hR]; exact if_pos (by rw [← hnn]; exact h1)
    clear hR h hnn
    rcases h1 with h1 | h1 | h1
    · have d1 : decide ((n : Int) > 12) = true := decide_eq_true (by omega)
      go_enter Try.func10, Try.ntmps10
      go_wp2
      go_ret2
      rw [HK.out]
      exact ⟨_, rfl, HNIL.out, Below.refl _ _⟩
    · cases d1 : decide ((n : Int) > 12)
      all_goals
        go_enter Try.func10, Try.ntmps10
        go_wp2
        go_ret2
        rw [HK.out]
        exact ⟨_, rfl, HNIL.out, Below.refl _ _⟩
    · have h0 : ¬ s < 0 := by omega
      cases d1 : decide ((n : Int) > 12)
      all_goals
        go_enter Try.func10, Try.ntmps10
        go_wp2
        go_ret2
        rw [HK.out]
        exact ⟨_, rfl, HNIL.out, Below.refl _ _⟩
  · have HK : Hid (R = shufL xs s) := by show _ = _; rw [hR]; exact if_neg (by rw [← hnn]; exact h1)
    have d1 : decide ((n : Int) > 12) = false := decide_eq_false (by omega)
    have d2 : ¬ s < 0 := by omega
    have d3 : ¬ (2147483647 < s) := by omega
    have hn12 : n ≤ 12 := by omega
    clear hR h hnn h1
    go_enter Try.func10, Try.ntmps10
    go_wp2_with fail
    refine (sShufV _ xs s w HV.out (by have := HN.out; omega) (by omega) (by omega)).mono ?_
    rintro e w1 ⟨tv, rfl, o1, b1⟩
    rw [← HK.out] at o1 ⊢
    have HO1 : Hid (OwI w1 w.heap.size tv R.1) := o1
    obtain ⟨a1, c1, rfl⟩ := o1.shape
    go_wp2
    go_ret2
    exact ⟨_, rfl, HO1.out, b1⟩

end Go.Proofs.Ytbgjfccdgalapaa
