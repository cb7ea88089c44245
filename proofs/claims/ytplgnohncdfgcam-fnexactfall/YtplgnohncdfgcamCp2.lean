/- Copies of commands and items, as the program makes them. -/
import Derived.Test.YtplgnohncdfgcamCp
namespace Go.Proofs.Ytplgnohncdfgcam
open Go.RowKit

set_option maxRecDepth 20000 in
set_option maxHeartbeats 4000000 in
theorem copyCmdV (v : Value) (d : DCmd) (w : World) (h : VCmd w v d) (hk : d.op.key.length ≤ 2097152) (hv : d.op.val.length ≤ 2097152) :
    Calls Try.prog 67 #[v] w fun e w' => ∃ v', e = .returned v' ∧ OCmd w' w.heap.size v' d ∧ Below w.heap.size w w' := by
  have hE : ∀ w : World, ∀ o, Ext w (w.alloc o) := fun w o => World.grownBy_alloc _ _ _
  obtain ⟨kv, vv, rfl, rk, rv⟩ := h
  have hrk := rv_rng rk
  have hrv := rv_rng rv
  go_enter Try.func67, Try.ntmps67
  go_wp2_with fail
  refine (copyOpV _ d.op _ ⟨kv, vv, rfl, rk.ext ((hE _ _).tr (hE _ _)), rv.ext ((hE _ _).tr (hE _ _))⟩ hk hv).mono ?_
  rintro e w1 ⟨v1, rfl, ⟨k1, u1, rfl, ok1, ou1, hap⟩, b1⟩
  have hs1 : w.heap.size + 2 ≤ w1.heap.size := by have := b1.size; simp at this; omega
  have P1 := below_blk b1 (by simp; omega) ((Below.heap_alloc (w.alloc _) _ w.heap.size (by simp)).trans (heap_alloc_new w _))
  have R1 : w1.heap[w.heap.size + 1]? = _ := below_blk b1 (by simp) (by have := heap_alloc_new (w.alloc (.cells #[.int .i64 d.client, .int .i64 d.req, .int .i64 d.op.kind, kv, vv, .int .i64 d.op.n] 49 (0, 0))) (.cells #[.int .i64 0, .int .i64 0, .int .i64 0, .slice none 0 0, .slice none 0 0, .int .i64 0] 49 (0, 0)); simpa using this)
  obtain ⟨ka, kc, rfl, _, _, _⟩ := Ow.rv ok1 hrk
  obtain ⟨ua, uc, rfl, _, _, _⟩ := Ow.rv ou1 hrv
  have B1 : Below w.heap.size w w1 := ((((Below.refl _ w).alloc (Nat.le_refl _) _).alloc (by simp) _)).trans (b1.mono (by simp; omega))
  have ok2 : Ow w1 (w.heap.size + 2) _ _ := ow_base ok1 (by simp)
  have ou2 : Ow w1 (w.heap.size + 2) _ _ := ow_base ou1 (by simp)
  clear b1 ok1 ou1
  obtain ⟨t0, g0⟩ := at_block P1 0 _ rfl
  obtain ⟨t1, g1⟩ := at_block P1 1 _ rfl
  obtain ⟨t2, g2⟩ := at_block P1 2 _ rfl
  obtain ⟨t3, g3⟩ := at_block P1 3 _ rfl
  obtain ⟨t4, g4⟩ := at_block P1 4 _ rfl
  obtain ⟨t5, g5⟩ := at_block P1 5 _ rfl
  obtain ⟨r0, z0⟩ := at_block R1 0 _ rfl
  obtain ⟨r1, z1⟩ := at_block R1 1 _ rfl
  obtain ⟨r2, z2⟩ := at_block R1 2 _ rfl
  obtain ⟨r3, z3⟩ := at_block R1 3 _ rfl
  obtain ⟨r4, z4⟩ := at_block R1 4 _ rfl
  obtain ⟨r5, z5⟩ := at_block R1 5 _ rfl
  clear P1 R1
  go_wp2
  refine bodyPost_ret (v := .agg #[.int .i64 d.client, .int .i64 d.req, .int .i64 d.op.kind, .slice ka d.op.key.length kc, .slice ua d.op.val.length uc, .int .i64 d.op.n]) (by simp [results, Try.results67, go_sem, r0, r1, r2, r3, r4, r5]) rfl ?_
  refine ⟨_, rfl, ⟨_, _, rfl, ow_base (base := w.heap.size + 2) ?_ (by omega), ow_base (base := w.heap.size + 2) ?_ (by omega), hap⟩, ?_⟩
  · repeat (refine ow_set ?_ (by omega))
    exact ok2
  · repeat (refine ow_set ?_ (by omega))
    exact ou2
  · repeat (refine below_set ?_ (by omega))
    exact B1

set_option maxRecDepth 20000 in
set_option maxHeartbeats 4000000 in
theorem copyItemV (v : Value) (d : DItem) (w : World) (h : VItem w v d) (hk : d.cmd.op.key.length ≤ 2097152) (hv : d.cmd.op.val.length ≤ 2097152) :
    Calls Try.prog 56 #[v] w fun e w' => ∃ v', e = .returned v' ∧ OItem w' w.heap.size v' d ∧ Below w.heap.size w w' := by
  have hE : ∀ w : World, ∀ o, Ext w (w.alloc o) := fun w o => World.grownBy_alloc _ _ _
  obtain ⟨kv, vv, rfl, rk, rv⟩ := h
  have hrk := rv_rng rk
  have hrv := rv_rng rv
  go_enter Try.func56, Try.ntmps56
  go_wp2_with fail
  have P0 : ((w.alloc (.cells #[.int .i64 d.term, .int .i64 d.cmd.client, .int .i64 d.cmd.req, .int .i64 d.cmd.op.kind, kv, vv, .int .i64 d.cmd.op.n] 51 (0, 0))).alloc (.cells #[.int .i64 0, .int .i64 0, .int .i64 0, .int .i64 0, .slice none 0 0, .slice none 0 0, .int .i64 0] 51 (0, 0))).heap[w.heap.size]? = _ := (Below.heap_alloc (w.alloc _) _ w.heap.size (by simp)).trans (heap_alloc_new w _)
  have R0 : ((w.alloc (.cells #[.int .i64 d.term, .int .i64 d.cmd.client, .int .i64 d.cmd.req, .int .i64 d.cmd.op.kind, kv, vv, .int .i64 d.cmd.op.n] 51 (0, 0))).alloc (.cells #[.int .i64 0, .int .i64 0, .int .i64 0, .int .i64 0, .slice none 0 0, .slice none 0 0, .int .i64 0] 51 (0, 0))).heap[w.heap.size + 1]? = some (.cells #[.int .i64 0, .int .i64 0, .int .i64 0, .int .i64 0, .slice none 0 0, .slice none 0 0, .int .i64 0] 51 (0, 0)) := by have := heap_alloc_new (w.alloc (.cells #[.int .i64 d.term, .int .i64 d.cmd.client, .int .i64 d.cmd.req, .int .i64 d.cmd.op.kind, kv, vv, .int .i64 d.cmd.op.n] 51 (0, 0))) (.cells #[.int .i64 0, .int .i64 0, .int .i64 0, .int .i64 0, .slice none 0 0, .slice none 0 0, .int .i64 0] 51 (0, 0)); simpa using this
  have X0 : Ext w ((w.alloc (.cells #[.int .i64 d.term, .int .i64 d.cmd.client, .int .i64 d.cmd.req, .int .i64 d.cmd.op.kind, kv, vv, .int .i64 d.cmd.op.n] 51 (0, 0))).alloc (.cells #[.int .i64 0, .int .i64 0, .int .i64 0, .int .i64 0, .slice none 0 0, .slice none 0 0, .int .i64 0] 51 (0, 0))) := (hE _ _).tr (hE _ _)
  have B0 : Below w.heap.size w ((w.alloc (.cells #[.int .i64 d.term, .int .i64 d.cmd.client, .int .i64 d.cmd.req, .int .i64 d.cmd.op.kind, kv, vv, .int .i64 d.cmd.op.n] 51 (0, 0))).alloc (.cells #[.int .i64 0, .int .i64 0, .int .i64 0, .int .i64 0, .slice none 0 0, .slice none 0 0, .int .i64 0] 51 (0, 0))) := ((Below.refl _ w).alloc (Nat.le_refl _) _).alloc (by simp) _
  have z0 : ((w.alloc (.cells #[.int .i64 d.term, .int .i64 d.cmd.client, .int .i64 d.cmd.req, .int .i64 d.cmd.op.kind, kv, vv, .int .i64 d.cmd.op.n] 51 (0, 0))).alloc (.cells #[.int .i64 0, .int .i64 0, .int .i64 0, .int .i64 0, .slice none 0 0, .slice none 0 0, .int .i64 0] 51 (0, 0))).heap.size = w.heap.size + 2 := by simp
  generalize (w.alloc (.cells #[.int .i64 d.term, .int .i64 d.cmd.client, .int .i64 d.cmd.req, .int .i64 d.cmd.op.kind, kv, vv, .int .i64 d.cmd.op.n] 51 (0, 0))).alloc (.cells #[.int .i64 0, .int .i64 0, .int .i64 0, .int .i64 0, .slice none 0 0, .slice none 0 0, .int .i64 0] 51 (0, 0)) = V at P0 R0 X0 B0 z0 ⊢
  have XD : Ext V V.drew := ext_drewN V 1
  have zd : V.drew.heap.size = V.heap.size := rfl
  obtain ⟨c0, _⟩ := at_block P0 0 _ rfl
  obtain ⟨c1, _⟩ := at_block P0 1 _ rfl
  obtain ⟨c2, _⟩ := at_block P0 2 _ rfl
  obtain ⟨c3, _⟩ := at_block P0 3 _ rfl
  obtain ⟨c4, _⟩ := at_block P0 4 _ rfl
  obtain ⟨c5, _⟩ := at_block P0 5 _ rfl
  obtain ⟨c6, _⟩ := at_block P0 6 _ rfl
  go_region_with (go_at_call 67; refine (copyCmdV _ d.cmd _ ⟨kv, vv, rfl, rk.ext (X0.tr XD), rv.ext (X0.tr XD)⟩ hk hv).mono ?_; rintro e w1 ⟨v1, rfl, ⟨k1, u1, rfl, ok1, ou1, hap⟩, b1⟩; obtain ⟨ka, kc, rfl, _, _, _⟩ := Ow.rv ok1 hrk; obtain ⟨ua, uc, rfl, _, _, _⟩ := Ow.rv ou1 hrv; have P1 := below_blk b1 (by omega) (show V.drew.heap[w.heap.size]? = _ from P0); have R1 := below_blk b1 (by omega) (show V.drew.heap[w.heap.size + 1]? = _ from R0); obtain ⟨c0, _⟩ := at_block P1 0 _ rfl; obtain ⟨r0, f0⟩ := at_block R1 0 _ rfl; obtain ⟨r1, f1⟩ := at_block R1 1 _ rfl; obtain ⟨r2, f2⟩ := at_block R1 2 _ rfl; obtain ⟨r3, f3⟩ := at_block R1 3 _ rfl; obtain ⟨r4, f4⟩ := at_block R1 4 _ rfl; obtain ⟨r5, f5⟩ := at_block R1 5 _ rfl; obtain ⟨r6, f6⟩ := at_block R1 6 _ rfl)
  all_goals
    have s1 := b1.size
    have B1 : Below w.heap.size w w1 := (below_drewN B0 1).trans (b1.mono (by omega))
    have ok2 : Ow w1 (w.heap.size + 2) _ _ := ow_base ok1 (by omega)
    have ou2 : Ow w1 (w.heap.size + 2) _ _ := ow_base ou1 (by omega)
    clear ok1 ou1 b1 P1 R1
    go_wp2
    refine bodyPost_ret (v := .agg #[.int .i64 d.term, .int .i64 d.cmd.client, .int .i64 d.cmd.req, .int .i64 d.cmd.op.kind, .slice ka d.cmd.op.key.length kc, .slice ua d.cmd.op.val.length uc, .int .i64 d.cmd.op.n]) (by simp [results, Try.results56, go_sem, r0, r1, r2, r3, r4, r5, r6]) rfl ?_
    refine ⟨_, rfl, ⟨_, _, rfl, ow_base (base := w.heap.size + 2) ?_ (by omega), ow_base (base := w.heap.size + 2) ?_ (by omega), hap⟩, ?_⟩
    · repeat (refine ow_set ?_ (by omega))
      exact ok2
    · repeat (refine ow_set ?_ (by omega))
      exact ou2
    · repeat (refine below_set ?_ (by omega))
      exact B1

end Go.Proofs.Ytplgnohncdfgcam
