/- Tables of members: marks. -/
import Derived.Test.YtfdklcmhafhbeaaTb1
namespace Go.Proofs.Ytfdklcmhafhbeaa
open Go.RowKit

set_option maxHeartbeats 1000000 in
theorem markTab (base : Nat) (self : Int) (v : Value) (ts : List DMem) (k : Int) (w : World) (h : OwMem w base v ts) (hn : ts.length ≤ 1048576) (hk0 : 0 ≤ k) (hk1 : k ≤ 100000) :
    Calls Try.prog 15 #[.agg #[.int .i64 self, v], .int .i64 k] w fun e w' => e = .returned (.int .i64 (k + 3 * ts.length)) ∧ OwMem w' base v (mkMem k ts.length) ∧ w.grownBy w' v.ownBlock := by
  obtain ⟨a, c, rfl⟩ := h.v.shape
  have HO : Hid (OwMem w base (.slice a ts.length c) ts) := h
  have HN : Hid (ts.length ≤ 1048576) := hn
  obtain ⟨n, hnn⟩ : ∃ n, n = ts.length := ⟨_, rfl⟩
  rw [← hnn] at HO HN ⊢
  have HNN : Hid (n = ts.length) := hnn
  clear h hn hnn
  go_enter Try.func15, Try.ntmps15
  go_wp2_with fail
  refine (markMem base _ ts k _ (HO.out.ext (World.grownBy_alloc _ _ _)) (by rw [← HNN.out]; exact HN.out) hk0 (by omega)).mono ?_
  rintro e w1 ⟨rfl, o1, g1⟩
  rw [← HNN.out] at o1 ⊢
  go_wp2
  go_ret
  exact ⟨rfl, o1, (World.grownBy_alloc _ _ _).trans g1⟩


end Go.Proofs.Ytfdklcmhafhbeaa
