
/- The contracts of the program's KeyOk and of what it asks of numbers and values. -/
import Derived.Test.YtollbjbgncjkoaaOp2
import Derived.Test.YtollbjbgncjkoaaWi
namespace Go.Proofs.Ytollbjbgncjkoaa
open Go.RowKit

set_option maxHeartbeats 1000000 in
theorem keyOkB (a : Option Addr) (n cap : Nat) (xs : List Int) (w : World) (hr : Rd w a n xs) (hn : n ≤ 9223372036854775807) :
    Calls Try.prog 47 #[.slice a n cap] w fun e w' => e = .returned (.bool (keyB xs)) ∧ w' = w := by
  have hl := hr.len
  by_cases h1 : inB n 1 20 = false
  · have HK : Hid (keyB xs = false) := by unfold Hid keyB; unfold inB at h1; simp at h1 ⊢; omega
    go_enter Try.func47, Try.ntmps47
    go_wp2_with (go_at_call 52; refine (withinV _ _ _ _).mono ?_; rintro e w1 ⟨rfl, rfl⟩; try rw [h1])
    go_ret
    exact ⟨by rw [HK.out]; rfl, rfl⟩
  have h1 : inB n 1 20 = true := by simpa using h1
  have h2 : 1 ≤ n ∧ n ≤ 20 := by unfold inB at h1; simp at h1; omega
  obtain ⟨b, o, rfl, _, hc⟩ := hr.pos (by omega)
  have HC : Hid (∀ i, i < n → w.cell? ⟨b, o + i, none⟩ = some (.int .u8 (xs.getD i 0))) := hc
  clear hc
  go_enter Try.func47, Try.ntmps47
  go_wp2_with (go_at_call 52; refine (withinV _ _ _ _).mono ?_; rintro e w1 ⟨rfl, rfl⟩; try rw [h1])
  go_loop [11] (fun i => ∃ k : Nat, k ≤ n ∧ i = .int .i64 k ∧ Hid (∀ j, j < k → keyC (xs.getD j 0) = true)) (fun i => n - (intOf i).toNat)
  case atStart => exact ⟨0, Nat.zero_le _, rfl, fun j hj => absurd hj (by omega)⟩
  case round =>
    obtain ⟨k, hk, rfl, hall⟩ := hrel
    by_cases hlt : k < n
    · have hck := HC.out k hlt
      have HN : Hid (keyC (xs.getD k 0) = true → ∀ j, j < k + 1 → keyC (xs.getD j 0) = true) := fun h j hj => by
        by_cases e : j = k
        · subst e; exact h
        · exact hall.out j (by omega)
      have HF : Hid (keyC (xs.getD k 0) = false → keyB xs = false) := fun h => by
        unfold keyB; rw [not_all (by omega) h]; simp
      generalize xs.getD k 0 = c at hck HN HF
      clear HC hall
      have hlt' : (k : Int) < (n : Int) := by omega
      by_cases hz : c = 47
      · subst hz
        have HN' := HN.out (by decide)
        have HN2 : Hid (∀ j, j < k + 1 → keyC (xs.getD j 0) = true) := HN'
        clear HN HF HN'
        go_wp2
        go_round
        case rel => exact ⟨k + 1, by omega, by go_num, HN2⟩
        case measure => simp [intOf]; omega
      · have hz' : (c != 47) = true := by simpa using hz
        by_cases h97 : c < 97
        · have HF2 : Hid (keyB xs = false) := HF.out (by unfold keyC; simp; omega)
          clear HN HF
          go_wp2
          go_ret
          exact ⟨by rw [HF2.out]; rfl, rfl⟩
        · by_cases h122 : 122 < c
          · have HF2 : Hid (keyB xs = false) := HF.out (by unfold keyC; simp; omega)
            clear HN HF
            go_wp2
            go_ret
            exact ⟨by rw [HF2.out]; rfl, rfl⟩
          · have HN2 : Hid (∀ j, j < k + 1 → keyC (xs.getD j 0) = true) := HN.out (by unfold keyC; simp; omega)
            clear HN HF
            go_wp2
            go_round
            case rel => exact ⟨k + 1, by omega, by go_num, HN2⟩
            case measure => simp [intOf]; omega
    · have hkn : k = n := by omega
      subst hkn
      have HK : Hid (keyB xs = true) := by
        unfold Hid keyB
        rw [all_get (fun j hj => hall.out j (by omega))]
        simp
        omega
      go_wp2
      go_ret
      exact ⟨by rw [HK.out]; rfl, rfl⟩

theorem keyOkV (v : Value) (xs : List Int) (w : World) (h : RV w v xs) : Calls Try.prog 47 #[v] w fun e w' => e = .returned (.bool (keyB xs)) ∧ w' = w := by
  obtain ⟨a, cap, rfl, hr, h1, h2⟩ := h
  exact keyOkB a xs.length cap xs w hr (by unfold maxLen at h2; omega)

end Go.Proofs.Ytollbjbgncjkoaa
