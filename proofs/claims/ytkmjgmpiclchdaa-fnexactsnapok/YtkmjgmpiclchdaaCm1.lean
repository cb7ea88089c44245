/- Contracts of the exact statements' helpers on commands. -/
import Derived.Test.YtkmjgmpiclchdaaOp1
namespace Go.Proofs.Ytkmjgmpiclchdaa
open Go.RowKit

/-- A command. -/
structure DCmd where
  client : Int
  req : Int
  op : DOp

/-- The value v reads as the command d (a struct within a struct lies in its cells). -/
def VCmd (w : World) (v : Value) (d : DCmd) : Prop := ∃ kv vv, v = .agg #[.int .i64 d.client, .int .i64 d.req, .int .i64 d.op.kind, kv, vv, .int .i64 d.op.n] ∧ RV w kv d.op.key ∧ RV w vv d.op.val
def OCmd (w : World) (base : Nat) (v : Value) (d : DCmd) : Prop := ∃ kv vv, v = .agg #[.int .i64 d.client, .int .i64 d.req, .int .i64 d.op.kind, kv, vv, .int .i64 d.op.n] ∧ Ow w base kv d.op.key ∧ Ow w base vv d.op.val ∧ (kv.ownBlock = none ∨ kv.ownBlock ≠ vv.ownBlock)

theorem VCmd.ext {w w' : World} {v : Value} {d : DCmd} (h : VCmd w v d) (k : Ext w w') : VCmd w' v d := by
  obtain ⟨kv, vv, hv, h1, h2⟩ := h
  exact ⟨kv, vv, hv, h1.ext k, h2.ext k⟩
theorem OCmd.ext {w w' : World} {base : Nat} {v : Value} {d : DCmd} (h : OCmd w base v d) (k : Ext w w') : OCmd w' base v d := by
  obtain ⟨kv, vv, hv, h1, h2, h3⟩ := h
  exact ⟨kv, vv, hv, h1.ext k, h2.ext k, h3⟩
theorem OCmd.v {w : World} {base : Nat} {v : Value} {d : DCmd} (h : OCmd w base v d) (hr : rngOp d.op) : VCmd w v d := by
  obtain ⟨kv, vv, hv, h1, h2, _⟩ := h
  exact ⟨kv, vv, hv, h1.rv hr.1, h2.rv hr.2⟩

set_option maxHeartbeats 1000000 in
theorem szC (v : Value) (d : DCmd) (l : Int) (w : World) (h : VCmd w v d) (hl0 : 0 ≤ l) (hl : l ≤ 1048576) :
    Calls Try.prog 26 #[v, .int .i64 l] w (SzPost l (d.op.key.length + d.op.val.length) w) := by
  obtain ⟨kv, vv, rfl, rk, rv⟩ := h
  have hE : ∀ w : World, ∀ o, Ext w (w.alloc o) := fun w o => World.grownBy_alloc _ _ _
  have hB : ∀ w : World, ∀ o, Below w.heap.size w (w.alloc o) := fun w o => (Below.refl _ w).alloc (Nat.le_refl _) _
  go_enter Try.func26, Try.ntmps26
  go_wp2_with fail
  refine (szO _ d.op l _ ⟨kv, vv, rfl, rk.ext (hE _ _), rv.ext (hE _ _)⟩ hl0 hl).mono ?_
  rintro e w1 ⟨r, rfl, hr, b1⟩
  have B1 := (hB w _).trans (b1.mono (by simp))
  rcases hr with ⟨h1, rfl⟩ | ⟨h1, rfl⟩
  · go_wp2
    go_ret
    exact ⟨-1, rfl, .inl ⟨by omega, rfl⟩, B1⟩
  · obtain ⟨m, hm⟩ : ∃ m, m = l - ((d.op.key.length + d.op.val.length : Nat) : Int) := ⟨_, rfl⟩
    rw [← hm] at h1 ⊢
    have HM : Hid (m = l - ((d.op.key.length + d.op.val.length : Nat) : Int)) := hm
    clear hm
    go_wp2
    go_ret
    exact ⟨m, rfl, .inr ⟨by rw [← HM.out]; exact h1, HM.out⟩, B1⟩

set_option maxHeartbeats 1000000 in
theorem toC (v : Value) (d : DCmd) (w : World) (h : VCmd w v d) (hr : rngOp d.op) (hk : d.op.key.length ≤ 1048576) (hv : d.op.val.length ≤ 1048576) :
    Calls Try.prog 38 #[v] w fun e w' => ∃ v', e = .returned v' ∧ OCmd w' w.heap.size v' d ∧ Below w.heap.size w w' := by
  obtain ⟨kv, vv, rfl, rk, rv⟩ := h
  have hE : ∀ w : World, ∀ o, Ext w (w.alloc o) := fun w o => World.grownBy_alloc _ _ _
  go_enter Try.func38, Try.ntmps38
  go_wp2_with fail
  refine (toO _ d.op _ ⟨kv, vv, rfl, rk.ext (((hE _ _).tr (hE _ _)).tr (hE _ _)), rv.ext (((hE _ _).tr (hE _ _)).tr (hE _ _))⟩ hr hk hv).mono ?_
  rintro e w1 ⟨v1, rfl, ⟨k1, u1, rfl, ok1, ou1, hap⟩, b1⟩
  have hs1 : w.heap.size + 3 ≤ w1.heap.size := by have := b1.size; simp at this; omega
  have R1 := below_blk b1 (by simp) (h3_1 w _ _ _)
  have T1 := below_blk b1 (by simp) (h3_2 w _ _ _)
  obtain ⟨ka, kc, rfl, _, _, _⟩ := Ow.rv ok1 hr.1
  obtain ⟨ua, uc, rfl, _, _, _⟩ := Ow.rv ou1 hr.2
  have B1 : Below w.heap.size w w1 := ((((Below.refl _ w).alloc (Nat.le_refl _) _).alloc (by simp) _).alloc (by simp; omega) _).trans (b1.mono (by simp; omega))
  clear b1
  obtain ⟨t0, g0⟩ := at_block T1 0 _ rfl
  obtain ⟨t1, g1⟩ := at_block T1 1 _ rfl
  obtain ⟨t2, g2⟩ := at_block T1 2 _ rfl
  obtain ⟨t3, g3⟩ := at_block T1 3 _ rfl
  obtain ⟨t4, g4⟩ := at_block T1 4 _ rfl
  obtain ⟨t5, g5⟩ := at_block T1 5 _ rfl
  obtain ⟨r0, z0⟩ := at_block R1 0 _ rfl
  obtain ⟨r1, z1⟩ := at_block R1 1 _ rfl
  obtain ⟨r2, z2⟩ := at_block R1 2 _ rfl
  obtain ⟨r3, z3⟩ := at_block R1 3 _ rfl
  obtain ⟨r4, z4⟩ := at_block R1 4 _ rfl
  obtain ⟨r5, z5⟩ := at_block R1 5 _ rfl
  clear T1 R1
  go_wp2
  refine bodyPost_ret (v := .agg #[.int .i64 d.client, .int .i64 d.req, .int .i64 d.op.kind, .slice ka d.op.key.length kc, .slice ua d.op.val.length uc, .int .i64 d.op.n]) (by simp [results, Try.results38, go_sem, r0, r1, r2, r3, r4, r5]) rfl ?_
  have ok2 : Ow w1 (w.heap.size + 3) _ _ := ow_base ok1 (by simp)
  have ou2 : Ow w1 (w.heap.size + 3) _ _ := ow_base ou1 (by simp)
  refine ⟨_, rfl, ⟨_, _, rfl, ow_base (base := w.heap.size + 3) ?_ (by omega), ow_base (base := w.heap.size + 3) ?_ (by omega), hap⟩, ?_⟩
  · iterate 10 (refine ow_set ?_ (by omega))
    exact ok2
  · iterate 10 (refine ow_set ?_ (by omega))
    exact ou2
  · iterate 10 (refine below_set ?_ (by omega))
    exact B1

set_option maxHeartbeats 1000000 in
theorem eqC (v u : Value) (d : DCmd) (w : World) (h : VCmd w v d) (k : VCmd w u d) (hk : d.op.key.length ≤ 2097152) (hv : d.op.val.length ≤ 2097152) :
    Calls Try.prog 50 #[v, u] w fun e w' => e = .returned (.bool true) ∧ Below w.heap.size w w' := by
  obtain ⟨kv, vv, rfl, rk, rv⟩ := h
  obtain ⟨kv', vv', rfl, rk', rv'⟩ := k
  have hE : ∀ w : World, ∀ o, Ext w (w.alloc o) := fun w o => World.grownBy_alloc _ _ _
  have x2 : ∀ a b, Ext w ((w.alloc a).alloc b) := fun a b => (hE _ _).tr (hE _ _)
  go_enter Try.func50, Try.ntmps50
  go_wp2_with fail
  refine (eqO _ _ d.op _ ⟨kv, vv, rfl, rk.ext (x2 _ _), rv.ext (x2 _ _)⟩ ⟨kv', vv', rfl, rk'.ext (x2 _ _), rv'.ext (x2 _ _)⟩ hk hv).mono ?_
  rintro e w1 ⟨rfl, b1⟩
  go_wp2
  go_ret
  exact ⟨rfl, (((Below.refl _ w).alloc (Nat.le_refl _) _).alloc (by simp) _).trans (b1.mono (by simp; omega))⟩

end Go.Proofs.Ytkmjgmpiclchdaa
