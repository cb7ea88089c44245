/- Contracts of the exact statements' helpers on operations and commands. -/
import Derived.Test.YtkmjgmpiclchdaaSz0
namespace Go.Proofs.Ytkmjgmpiclchdaa
open Go.RowKit

set_option maxHeartbeats 1000000 in
theorem toO (v : Value) (d : DOp) (w : World) (h : VOp w v d) (hr : rngOp d) (hk : d.key.length ≤ 1048576) (hv : d.val.length ≤ 1048576) :
    Calls Try.prog 58 #[v] w fun e w' => ∃ v', e = .returned v' ∧ OOp w' w.heap.size v' d ∧ Below w.heap.size w w' := by
  obtain ⟨kv, vv, rfl, rk, rv⟩ := h
  have hE : ∀ w : World, ∀ o, Ext w (w.alloc o) := fun w o => World.grownBy_alloc _ _ _
  go_enter Try.func58, Try.ntmps58
  go_wp2_with fail
  refine (toV kv d.key _ (rk.ext (((hE _ _).tr (hE _ _)).tr (hE _ _))) hk).mono ?_
  rintro e w1 ⟨k1, rfl, o1, b1⟩
  have hs1 : w.heap.size + 3 ≤ w1.heap.size := by have := b1.size; simp at this; omega
  have P1 := below_blk b1 (by simp; omega) (h3_0 w _ _ _)
  have R1 := below_blk b1 (by simp) (h3_1 w _ _ _)
  have T1 := below_blk b1 (by simp) (h3_2 w _ _ _)
  obtain ⟨ka, kc, rfl, _, _, _⟩ := Ow.rv o1 hr.1
  have c2 := (at_block P1 2 _ rfl).1
  obtain ⟨t1, ft1⟩ := at_block T1 1 _ rfl
  have hsz : w.heap.size + 1 + 1 < w1.heap.size := by omega
  have hsz0 : w.heap.size < w1.heap.size := by omega
  have T2 := set_block T1 1 (.slice ka d.key.length kc)
  have P2 := set_other (w.heap.size + 1 + 1) 1 (.slice ka d.key.length kc) (by omega) P1
  have R2 := set_other (w.heap.size + 1 + 1) 1 (.slice ka d.key.length kc) (by omega) R1
  have G2 := set_grown w1 (w.heap.size + 1 + 1) 1 (.slice ka d.key.length kc)
  have HT2 : Hid ((w1.setCell ⟨w.heap.size + 1 + 1, 1, none⟩ (.slice ka d.key.length kc)).heap[w.heap.size + 1 + 1]? = some (.cells #[.int .i64 d.kind, .slice ka d.key.length kc, .slice none 0 0, .int .i64 0] 51 (0, 0))) := T2
  clear T2
  go_wp2_with fail
  have B0 : Below w.heap.size w w1 := ((((Below.refl _ w).alloc (Nat.le_refl _) _).alloc (by simp) _).alloc (by simp; omega) _).trans (b1.mono (by simp; omega))
  have B2 := below_at B0 B0.size G2 (by omega)
  have o2 := ow_row o1 G2 (by simp)
  have hs2 : w1.heap.size ≤ (w1.setCell ⟨w.heap.size + 1 + 1, 1, none⟩ (.slice ka d.key.length kc)).heap.size := G2.size
  generalize w1.setCell ⟨w.heap.size + 1 + 1, 1, none⟩ (.slice ka d.key.length kc) = w2 at HT2 P2 R2 G2 B2 o2 hs2 ⊢
  have T2 := HT2.out
  clear HT2 T1 P1 R1 t1 ft1 c2 G2 o1 b1 B0 hsz hsz0
  refine (toV vv d.val w2 (rv.ext (ext_below B2)) hv).mono ?_
  rintro e w3 ⟨v3, rfl, o3, b3⟩
  have hs3 := b3.size
  have P3 := below_blk b3 (by omega) P2
  have R3 := below_blk b3 (by omega) R2
  have T3 := below_blk b3 (by omega) T2
  have k3 := o2.ext (ext_below b3)
  have B3 := B2.trans (b3.mono B2.size)
  obtain ⟨va, vc, rfl, _, _, _⟩ := Ow.rv o3 hr.2
  have hap := apart_of o2 (Nat.le_refl _) o3
  clear P2 R2 T2 b3 B2 o2
  have p3 := (at_block P3 3 _ rfl).1
  obtain ⟨t2, f2⟩ := at_block T3 2 _ rfl
  have T4 := set_block T3 2 (.slice va d.val.length vc)
  have R4 := set_other (w.heap.size + 1 + 1) 2 (.slice va d.val.length vc) (by omega) R3
  have P4 := set_other (w.heap.size + 1 + 1) 2 (.slice va d.val.length vc) (by omega) P3
  have G4 := set_grown w3 (w.heap.size + 1 + 1) 2 (.slice va d.val.length vc)
  have HT4 : Hid ((w3.setCell ⟨w.heap.size + 1 + 1, 2, none⟩ (.slice va d.val.length vc)).heap[w.heap.size + 1 + 1]? = some (.cells #[.int .i64 d.kind, .slice ka d.key.length kc, .slice va d.val.length vc, .int .i64 0] 51 (0, 0))) := T4
  clear T4
  obtain ⟨q0, g0⟩ := at_block T3 0 _ rfl
  obtain ⟨q1, g1⟩ := at_block T3 1 _ rfl
  obtain ⟨q3, g3⟩ := at_block T3 3 _ rfl
  obtain ⟨r0, z0⟩ := at_block R3 0 _ rfl
  obtain ⟨r1, z1⟩ := at_block R3 1 _ rfl
  obtain ⟨r2, z2⟩ := at_block R3 2 _ rfl
  obtain ⟨r3, z3⟩ := at_block R3 3 _ rfl
  go_wp2
  refine bodyPost_ret (v := .agg #[.int .i64 d.kind, .slice ka d.key.length kc, .slice va d.val.length vc, .int .i64 d.n]) (by simp [results, Try.results58, go_sem, r0, r1, r2, r3]) rfl ?_
  have GG : ∀ (W : World) (j : Nat) (u : Value), W.grownBy (W.setCell ⟨w.heap.size + 1, j, none⟩ u) (some (w.heap.size + 1)) := fun W j u => set_grown W _ j u
  have GT : ∀ (W : World) (j : Nat) (u : Value), W.grownBy (W.setCell ⟨w.heap.size + 1 + 1, j, none⟩ u) (some (w.heap.size + 1 + 1)) := fun W j u => set_grown W _ j u
  refine ⟨_, rfl, ⟨_, _, rfl, ?_, ?_, hap⟩, ?_⟩
  · exact ow_base (ow_row (ow_row (ow_row (ow_row (ow_row (ow_row k3 (GT _ _ _) (by simp)) (GT _ _ _) (by simp)) (GG _ _ _) (by simp)) (GG _ _ _) (by simp)) (GG _ _ _) (by simp)) (GG _ _ _) (by simp)) (by simp; omega)
  · exact ow_base (ow_row (ow_row (ow_row (ow_row (ow_row (ow_row o3 (GT _ _ _) (by omega)) (GT _ _ _) (by omega)) (GG _ _ _) (by omega)) (GG _ _ _) (by omega)) (GG _ _ _) (by omega)) (GG _ _ _) (by omega)) (by omega)
  · exact (((((B3.setCell (by simp; omega) _).setCell (by simp; omega) _).setCell (by simp) _).setCell (by simp) _).setCell (by simp) _).setCell (by simp) _

set_option maxHeartbeats 1000000 in
theorem szO (v : Value) (d : DOp) (l : Int) (w : World) (h : VOp w v d) (hl0 : 0 ≤ l) (hl : l ≤ 1048576) :
    Calls Try.prog 53 #[v, .int .i64 l] w (SzPost l (d.key.length + d.val.length) w) := by
  obtain ⟨kv, vv, rfl, rk, rv⟩ := h
  have hE : ∀ w : World, ∀ o, Ext w (w.alloc o) := fun w o => World.grownBy_alloc _ _ _
  have hB : ∀ w : World, ∀ o, Below w.heap.size w (w.alloc o) := fun w o => (Below.refl _ w).alloc (Nat.le_refl _) _
  by_cases h1 : l - d.key.length < 0
  · go_enter Try.func53, Try.ntmps53
    go_wp2_with fail
    refine (szB kv d.key l _ (rk.ext (hE _ _)) hl0 hl).mono ?_
    rintro e w1 ⟨rfl, rfl⟩
    rw [if_pos (by omega)]
    go_wp2
    go_ret
    exact ⟨-1, rfl, .inl ⟨by omega, rfl⟩, hB _ _⟩
  · by_cases h2 : l - d.key.length - d.val.length < 0
    · go_enter Try.func53, Try.ntmps53
      go_wp2_with fail
      refine (szB kv d.key l _ (rk.ext (hE _ _)) hl0 hl).mono ?_
      rintro e w1 ⟨rfl, rfl⟩
      rw [if_neg (by omega)]
      go_wp2_with fail
      refine (szB vv d.val (l - d.key.length) _ (rv.ext (hE _ _)) (by omega) (by omega)).mono ?_
      rintro e w2 ⟨rfl, rfl⟩
      rw [if_pos (by omega)]
      go_wp2
      go_ret
      exact ⟨-1, rfl, .inl ⟨by omega, rfl⟩, hB _ _⟩
    · go_enter Try.func53, Try.ntmps53
      go_wp2_with fail
      refine (szB kv d.key l _ (rk.ext (hE _ _)) hl0 hl).mono ?_
      rintro e w1 ⟨rfl, rfl⟩
      rw [if_neg (by omega)]
      go_wp2_with fail
      refine (szB vv d.val (l - d.key.length) _ (rv.ext (hE _ _)) (by omega) (by omega)).mono ?_
      rintro e w2 ⟨rfl, rfl⟩
      rw [if_neg (by omega)]
      go_wp2
      go_ret
      exact ⟨l - d.key.length - d.val.length, rfl, .inr ⟨by omega, by omega⟩, hB _ _⟩

set_option maxHeartbeats 1000000 in
theorem eqO (v u : Value) (d : DOp) (w : World) (h : VOp w v d) (k : VOp w u d) (hk : d.key.length ≤ 2097152) (hv : d.val.length ≤ 2097152) :
    Calls Try.prog 67 #[v, u] w fun e w' => e = .returned (.bool true) ∧ Below w.heap.size w w' := by
  obtain ⟨kv, vv, rfl, rk, rv⟩ := h
  obtain ⟨kv', vv', rfl, rk', rv'⟩ := k
  have hE : ∀ w : World, ∀ o, Ext w (w.alloc o) := fun w o => World.grownBy_alloc _ _ _
  go_enter Try.func67, Try.ntmps67
  go_wp2_with fail
  have x2 : ∀ a b, Ext w ((w.alloc a).alloc b) := fun a b => (hE _ _).tr (hE _ _)
  refine (eqV_yes kv kv' d.key _ (rk.ext (x2 _ _)) (rk'.ext (x2 _ _)) hk).mono ?_
  rintro e w1 ⟨rfl, q1, rfl⟩
  go_wp2_with fail
  refine (eqV_yes vv vv' d.val _ ((rv.ext (x2 _ _)).ext (ext_drewN _ _)) ((rv'.ext (x2 _ _)).ext (ext_drewN _ _)) hv).mono ?_
  rintro e w2 ⟨rfl, q2, rfl⟩
  go_wp2
  go_ret
  exact ⟨rfl, below_drewN (((Below.refl _ w).alloc (Nat.le_refl _) _).alloc (by simp) _) _⟩

end Go.Proofs.Ytkmjgmpiclchdaa
