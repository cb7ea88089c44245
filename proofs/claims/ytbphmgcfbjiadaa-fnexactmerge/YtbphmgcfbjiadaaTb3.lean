/- Tables of members: marks. -/
import Derived.Test.YtbphmgcfbjiadaaTb2
import Derived.Test.YtbphmgcfbjiadaaElMem4
namespace Go.Proofs.Ytbphmgcfbjiadaa
open Go.RowKit

set_option maxHeartbeats 1000000 in
theorem heldTab (base : Nat) (self : Int) (v : Value) (n : Nat) (k : Int) (w : World) (h : OwMem w base v (mkMem k n)) (hn : n ≤ 1048576) (hk0 : 0 ≤ k) (hk1 : k ≤ 100000) :
    Calls Try.prog 12 #[.agg #[.int .i64 self, v], .int .i64 k] w fun e w' => e = .returned (.int .i64 (k + 3 * n)) ∧ Below w.heap.size w w' := by
  obtain ⟨a, c, rfl⟩ := h.v.shape
  rw [mkMem_len] at h ⊢
  have HO : Hid (OwMem w base (.slice a n c) (mkMem k n)) := h
  have HN : Hid (n ≤ 1048576) := hn
  have hn1 : (n : Int) ≤ 1048576 := by omega
  clear h
  go_enter Try.func12, Try.ntmps12
  go_wp2_with fail
  refine (heldMem base _ n k _ (HO.out.ext (World.grownBy_alloc _ _ _)) hk0 (by omega) HN.out).mono ?_
  rintro e w1 ⟨rfl, q, rfl⟩
  have h0 : ¬ (k + 3 * (n : Int) < 0) := by omega
  go_wp2
  go_ret
  exact ⟨rfl, below_drewN ((Below.refl _ w).alloc (Nat.le_refl _) _) q⟩


end Go.Proofs.Ytbphmgcfbjiadaa
