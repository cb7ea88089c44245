
/- Marks of duties. -/
import Derived.Test.YtnklnhnjmikooaaGreatDy1
import Derived.Test.YtnklnhnjmikooaaGreatHpL
import Derived.Test.YtnklnhnjmikooaaGreatElG
namespace Go.Proofs.YtnklnhnjmikooaaGreat
open Go.RowKit

set_option maxHeartbeats 1000000 in
theorem markDu (base : Nat) (ttl now : Int) (v : Value) (ts : List DTim) (k : Int) (w : World) (h : OwT w base v ts) (hn : ts.length ≤ 1048576) (hk0 : 0 ≤ k) (hk1 : k ≤ 100000) :
    Calls Tryz.prog 13 #[.agg #[.int .i64 ttl, .int .i64 now, v], .int .i64 k] w fun e w' => e = .returned (.int .i64 (k + 2 * ts.length)) ∧ OwT w' base v (mkT k ts.length) ∧ w.grownBy w' v.ownBlock := by
  obtain ⟨a, c, rfl⟩ := h.v.shape
  have HO : Hid (OwT w base (.slice a ts.length c) ts) := h
  have HN : Hid (ts.length ≤ 1048576) := hn
  obtain ⟨n, hnn⟩ : ∃ n, n = ts.length := ⟨_, rfl⟩
  rw [← hnn] at HO HN ⊢
  have HNN : Hid (n = ts.length) := hnn
  clear h hn hnn
  go_enter Tryz.func13, Tryz.ntmps13
  go_wp2_with fail
  refine (markWh base now _ ts k _ (HO.out.alloc _) (by rw [← HNN.out]; exact HN.out) hk0 hk1).mono ?_
  rintro e w1 ⟨rfl, o1, g1⟩
  rw [← HNN.out] at o1 ⊢
  go_wp2
  go_ret
  exact ⟨rfl, o1, (World.grownBy_alloc _ _ _).trans g1⟩

set_option maxHeartbeats 1000000 in
theorem heldDu (base : Nat) (ttl now : Int) (v : Value) (n : Nat) (k : Int) (w : World) (h : OwT w base v (mkT k n)) (hn : n ≤ 1048576) (hk0 : 0 ≤ k) (hk1 : k ≤ 100000) :
    Calls Tryz.prog 15 #[.agg #[.int .i64 ttl, .int .i64 now, v], .int .i64 k] w fun e w' => e = .returned (.int .i64 (k + 2 * n)) ∧ Below w.heap.size w w' := by
  obtain ⟨a, c, rfl⟩ := h.v.shape
  rw [mkT_len] at h ⊢
  have HO : Hid (OwT w base (.slice a n c) (mkT k n)) := h
  have HN : Hid (n ≤ 1048576) := hn
  have hn1 : (n : Int) ≤ 1048576 := by omega
  clear h
  go_enter Tryz.func15, Tryz.ntmps15
  go_wp2_with fail
  refine (heldW base now _ n k _ (HO.out.alloc _) HN.out hk0 hk1).mono ?_
  rintro e w1 ⟨rfl, b1⟩
  have h0 : ¬ (k + 2 * (n : Int) < 0) := by omega
  go_wp2
  go_ret
  exact ⟨rfl, ((Below.refl _ w).alloc (Nat.le_refl _) _).trans (b1.mono (by simp))⟩

theorem bx3 {w : World} {g : Nat} {v0 v1 v2 : Value} {t : TypeId} (h : w.heap[g]? = some (.cells #[v0, v1, v2] t (0, 0))) : w.cell? ⟨g, 0, none⟩ = some v0 ∧ w.cell? ⟨g, 1, none⟩ = some v1 ∧ w.cell? ⟨g, 2, none⟩ = some v2 := ⟨(at_block h 0 _ rfl).1, (at_block h 1 _ rfl).1, (at_block h 2 _ rfl).1⟩

end Go.Proofs.YtnklnhnjmikooaaGreat
