/- Held: Marks in lists of Member that a call owns: laid, held. -/
import Derived.Test.YtbphmgcfbjiadaaElMem3
namespace Go.Proofs.Ytbphmgcfbjiadaa
open Go.RowKit

set_option maxHeartbeats 1000000 in
theorem hNil_Mem (k : Int) (w : World) : Calls Try.prog 27 #[.slice none 0 0, .int .i64 k] w fun e w' => e = .returned (.int .i64 k) ∧ w' = w := by
  go_enter Try.func27, Try.ntmps27
  go_wp2
  refine wp_loop_rounds 1 ?_
  rw [rounds_succ]
  go_wp2
  go_ret
  exact ⟨rfl, rfl⟩

set_option maxHeartbeats 2000000 in
theorem heldMem (base : Nat) (v : Value) (n : Nat) (k : Int) (w : World) (h : OwMem w base v (mkMem k n)) (hk0 : 0 ≤ k) (hk1 : k ≤ 1000000000) (hn : n ≤ 1048576) :
    Calls Try.prog 27 #[v, .int .i64 k] w fun e w' => e = .returned (.int .i64 (k + 3 * n)) ∧ ∃ q, w' = w.drewN q := by
  rcases h.2 with ⟨rfl, h0⟩ | ⟨g, cap, cur, rfl, _, _, hnc, hcm, _⟩
  · rw [mkMem_len] at h0
    subst h0
    refine (hNil_Mem k w).mono fun e w' ⟨h1, h2⟩ => ⟨by simpa using h1, 0, h2⟩
  · rw [mkMem_len] at h hnc ⊢
    unfold maxLen at hcm
    go_enter Try.func27, Try.ntmps27
    go_wp2
    go_loopw [1, 5] (fun kv i wr => ∃ i' q : Nat, i' ≤ n ∧ i = .int .i64 i' ∧ kv = .int .i64 (k + 3 * i') ∧ wr = w.drewN q) (fun _ i _ => n - (intOf i).toNat)
    case atStart => exact ⟨0, 0, Nat.zero_le _, rfl, by simp, rfl⟩
    case round =>
      obtain ⟨i, q, hi, rfl, rfl, rfl⟩ := hrel
      by_cases hlt : i < n
      · obtain ⟨c0, c1, c2, _, _, _⟩ := h.cells (mkMem_len k n).symm (mkMem_get k n i hlt)
        have hlt' : (i : Int) < (n : Int) := by omega
        have HC : Hid (∀ q, (w.drewN q).cell? ⟨g, i * 3, none⟩ = some (.int .i64 (k + 3 * (i : Int))) ∧ (w.drewN q).cell? ⟨g, i * 3 + 1, none⟩ = some (.int .i64 (k + 3 * (i : Int) + 1)) ∧ (w.drewN q).cell? ⟨g, i * 3 + 2, none⟩ = some (.int .i64 (k + 3 * (i : Int) + 1 + 1))) := fun q => ⟨c0, c1, c2⟩
        simp only at c0 c1 c2
        go_wp2
        try go_quiet (fail)
        try go_wp2
        try go_quiet (fail)
        try go_wp2
        try go_quiet (fail)
        try go_wp2
        go_roundw
        case rel => exact ⟨i + 1, _, by omega, by go_num, by go_num, by first | rfl | exact World.drewN_drewN _ _ _ | (simp only [World.drewN_drewN])⟩
        case measure => simp [intOf]; omega
      · have hin : i = n := by omega
        subst hin
        go_wp2
        go_ret
        exact ⟨rfl, _, rfl⟩


end Go.Proofs.Ytbphmgcfbjiadaa
