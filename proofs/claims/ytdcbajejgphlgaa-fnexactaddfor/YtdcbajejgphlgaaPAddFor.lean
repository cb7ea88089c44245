/- The exact statement of AddFor holds, without a condition. -/
import Derived.Test.YtdcbajejgphlgaaInf
import Derived.Test.YtdcbajejgphlgaaBytes
import Derived.Lib.SliceRun
import Derived.Test.YtdcbajejgphlgaaIt1
import Derived.Test.YtdcbajejgphlgaaTo0
import Derived.Deep.RegionHeld3
import Derived.Test.YtdcbajejgphlgaaIg
import Derived.Test.YtdcbajejgphlgaaMsQ
import Derived.Test.YtdcbajejgphlgaaNdT0
import Derived.Test.YtdcbajejgphlgaaFb0
import Derived.WalkMore
import Derived.Deep.CutRange
import Derived.Deep.RegionWith
import Derived.Test.YtdcbajejgphlgaaCi2
import Derived.Deep.RegionLawGrows
import Derived.Test.YtdcbajejgphlgaaAfO
import Derived.Test.YtdcbajejgphlgaaNdS
import Derived.Test.YtdcbajejgphlgaaNdB0
import Derived.Test.YtdcbajejgphlgaaVal
import Derived.Test.YtdcbajejgphlgaaSz0
import Derived.Test.YtdcbajejgphlgaaMsA
import Derived.Test.YtdcbajejgphlgaaNdB
import Derived.Test.YtdcbajejgphlgaaVal0
import Derived.ProofKit
import Derived.OpenShut
import Derived.Lib.SmallJoins
import Derived.Test.YtdcbajejgphlgaaCm1
import Derived.Test.YtdcbajejgphlgaaSt0
import Derived.Deep.Slices
import Derived.Test.YtdcbajejgphlgaaRows
import Derived.ChangeOld
import Derived.Carry
namespace Go.Proofs.Ytdcbajejgphlgaa
open Go.RowKit

set_option maxHeartbeats 1000000 in
theorem clone (a : Option Addr) (n cap : Nat) (xs : List Int) (w : World) (hr : Rd w a n xs) (hn : n ≤ 2097152) :
    Calls Try.prog 81 #[.slice a n cap] w fun e w' => ∃ v, e = .returned v ∧ Ow w' w.heap.size v xs ∧ Below w.heap.size w w' := by
  have hnl := fun w => Lib.run_eql_slice_nil (P := Try.prog) w 61 5 a n cap 0 0 Try.underlying61
  cases a with
  | none =>
    have h0 : n = 0 := by
      rcases Nat.eq_zero_or_pos n with h | h
      · exact h
      · obtain ⟨b, o, e, _⟩ := hr.pos h
        cases e
    subst h0
    obtain rfl : xs = [] := List.eq_nil_of_length_eq_zero hr.len
    go_enter Try.func81, Try.ntmps81
    go_wp2
    go_ret
    exact ⟨_, rfl, World.ownsRow_nil _ _ _ _, Below.refl _ _⟩
  | some ad =>
    go_enter Try.func81, Try.ntmps81
    go_wp2_with (at_builtin; refine wpList_append_bytes _ rfl (.tmp 5) (.tmp 6) 61 rfl w.heap.size info5 Try.underlying61 _ [] rfl (ow_empty w) (some ad) n cap xs rfl (hr.grown (World.grownBy_alloc _ _ _)) (by simp; omega) (by simp) ?_; intro v1 w1 hown1 hg1)
    go_ret
    refine ⟨_, rfl, hown1, ?_⟩
    exact below_own ((Below.refl _ _).alloc (Nat.le_refl _) _) (by simp) (ow_empty w) hg1

end Go.Proofs.Ytdcbajejgphlgaa

namespace Go.Proofs.Ytdcbajejgphlgaa
open Go.RowKit

theorem cloneV (v : Value) (xs : List Int) (w : World) (h : RV w v xs) (hn : xs.length ≤ 2097152) : Calls Try.prog 81 #[v] w fun e w' => ∃ v', e = .returned v' ∧ Ow w' w.heap.size v' xs ∧ Below w.heap.size w w' := by
  obtain ⟨a, cap, rfl, hr, _, _⟩ := h
  exact clone a xs.length cap xs w hr hn

set_option maxRecDepth 20000 in
set_option maxHeartbeats 4000000 in
theorem copyOpV (v : Value) (o : DOp) (w : World) (h : VOp w v o) (hk : o.key.length ≤ 2097152) (hv : o.val.length ≤ 2097152) :
    Calls Try.prog 76 #[v] w fun e w' => ∃ v', e = .returned v' ∧ OOp w' w.heap.size v' o ∧ Below w.heap.size w w' := by
  have hE : ∀ w : World, ∀ o, Ext w (w.alloc o) := fun w o => World.grownBy_alloc _ _ _
  obtain ⟨kv, vv, rfl, rk, rv⟩ := h
  have hrk := rv_rng rk
  have hrv := rv_rng rv
  go_enter Try.func76, Try.ntmps76
  go_wp2_with fail
  have P0 := heap_alloc_new w (.cells #[.int .i64 o.kind, kv, vv, .int .i64 o.n] 70 (0, 0))
  have X0 := hE w (.cells #[.int .i64 o.kind, kv, vv, .int .i64 o.n] 70 (0, 0))
  have B0 : Below w.heap.size w (w.alloc (.cells #[.int .i64 o.kind, kv, vv, .int .i64 o.n] 70 (0, 0))) := (Below.refl _ w).alloc (Nat.le_refl _) _
  have zw : (w.alloc (.cells #[.int .i64 o.kind, kv, vv, .int .i64 o.n] 70 (0, 0))).heap.size = w.heap.size + 1 := by simp
  generalize w.alloc (.cells #[.int .i64 o.kind, kv, vv, .int .i64 o.n] 70 (0, 0)) = W at P0 X0 B0 zw ⊢
  have hs0 : w.heap.size < W.heap.size := (Array.getElem?_eq_some_iff.1 P0).1
  have P1 : (W.alloc (.cells #[.int .i64 0, .slice none 0 0, .slice none 0 0, .int .i64 0] 70 (0, 0))).heap[w.heap.size]? = _ := (Below.heap_alloc W _ _ hs0).trans P0
  have R1 : (W.alloc (.cells #[.int .i64 0, .slice none 0 0, .slice none 0 0, .int .i64 0] 70 (0, 0))).heap[W.heap.size]? = _ := heap_alloc_new W _
  have X1 := X0.tr (hE W (.cells #[.int .i64 0, .slice none 0 0, .slice none 0 0, .int .i64 0] 70 (0, 0)))
  have B1 := B0.alloc (Nat.le_of_lt hs0) (.cells #[.int .i64 0, .slice none 0 0, .slice none 0 0, .int .i64 0] 70 (0, 0))
  have z1 : (W.alloc (.cells #[.int .i64 0, .slice none 0 0, .slice none 0 0, .int .i64 0] 70 (0, 0))).heap.size = W.heap.size + 1 := by simp
  generalize W.alloc (.cells #[.int .i64 0, .slice none 0 0, .slice none 0 0, .int .i64 0] 70 (0, 0)) = V at P1 R1 X1 B1 z1 ⊢
  have XD : Ext V V.drew := ext_drewN V 1
  obtain ⟨c1, _⟩ := at_block P1 1 _ rfl
  obtain ⟨c2, _⟩ := at_block P1 2 _ rfl
  have zd : V.drew.heap.size = V.heap.size := rfl
  go_region_with (first
    | (go_at_call 81; refine (cloneV vv o.val _ (rv.ext ((X1.tr XD).tr (ext_below b1))) hv).mono ?_; rintro e w2 ⟨v2, rfl, o2, b2⟩; obtain ⟨va, vc, rfl, _, _, _⟩ := Ow.rv o2 hrv; have Q2 := below_blk b2 (by have := b1.size; omega) Q1; obtain ⟨c1, f1⟩ := at_block Q2 1 _ rfl; obtain ⟨c2, f2⟩ := at_block Q2 2 _ rfl)
    | (go_at_call 81; refine (cloneV kv o.key _ (rk.ext (X1.tr XD)) hk).mono ?_; rintro e w1 ⟨v1, rfl, o1, b1⟩; obtain ⟨ka, kc, rfl, _, _, _⟩ := Ow.rv o1 hrk; have Q1 := below_blk b1 (by omega) (show V.drew.heap[w.heap.size]? = _ from P1); obtain ⟨c1, f1⟩ := at_block Q1 1 _ rfl; obtain ⟨c2, f2⟩ := at_block Q1 2 _ rfl))
  all_goals
    have s1 := b1.size
    have s2 := b2.size
    have R2 := below_blk b2 (by omega) (below_blk b1 (by omega) (show V.drew.heap[W.heap.size]? = _ from R1))
    rw [zw] at R2
    have T3 := set_block (set_block Q2 1 (.slice ka o.key.length kc)) 2 (.slice va o.val.length vc)
    have R3 := set_other w.heap.size 2 (.slice va o.val.length vc) (by omega) (set_other w.heap.size 1 (.slice ka o.key.length kc) (by omega) R2)
    have BB : Below w.heap.size w w2 := ((below_drewN B1 1).trans (b1.mono (by omega))).trans (b2.mono (by omega))
    have ok2 : Ow w2 (w.heap.size + 2) _ o.key := ow_base (o1.ext (ext_below b2)) (by omega)
    have ov2 : Ow w2 (w.heap.size + 2) _ o.val := ow_base o2 (by omega)
    have hap := apart_of o1 (Nat.le_refl _) o2
    obtain ⟨t0, g0⟩ := at_block T3 0 _ rfl
    obtain ⟨t1, g1⟩ := at_block T3 1 _ rfl
    obtain ⟨t2, g2⟩ := at_block T3 2 _ rfl
    obtain ⟨t3, g3⟩ := at_block T3 3 _ rfl
    obtain ⟨r0, z0⟩ := at_block R3 0 _ rfl
    obtain ⟨r1, z1'⟩ := at_block R3 1 _ rfl
    obtain ⟨r2, z2⟩ := at_block R3 2 _ rfl
    obtain ⟨r3, z3⟩ := at_block R3 3 _ rfl
    clear T3 R3 R2 Q2 Q1 c1 c2 f1 f2 o1 o2 b1 b2
    go_wp2
    refine bodyPost_ret (v := .agg #[.int .i64 o.kind, .slice ka o.key.length kc, .slice va o.val.length vc, .int .i64 o.n]) (by simp [results, Try.results76, go_sem, r0, r1, r2, r3]) rfl ?_
    refine ⟨_, rfl, ⟨_, _, rfl, ow_base (base := w.heap.size + 2) ?_ (by omega), ow_base (base := w.heap.size + 2) ?_ (by omega), hap⟩, ?_⟩
    · repeat (refine ow_set ?_ (by omega))
      exact ok2
    · repeat (refine ow_set ?_ (by omega))
      exact ov2
    · repeat (refine below_set ?_ (by omega))
      exact BB

end Go.Proofs.Ytdcbajejgphlgaa

namespace Go.Proofs.Ytdcbajejgphlgaa
open Go.RowKit

set_option maxRecDepth 20000 in
set_option maxHeartbeats 4000000 in
theorem copyCmdV (v : Value) (d : DCmd) (w : World) (h : VCmd w v d) (hk : d.op.key.length ≤ 2097152) (hv : d.op.val.length ≤ 2097152) :
    Calls Try.prog 67 #[v] w fun e w' => ∃ v', e = .returned v' ∧ OCmd w' w.heap.size v' d ∧ Below w.heap.size w w' := by
  have hE : ∀ w : World, ∀ o, Ext w (w.alloc o) := fun w o => World.grownBy_alloc _ _ _
  obtain ⟨kv, vv, rfl, rk, rv⟩ := h
  have hrk := rv_rng rk
  have hrv := rv_rng rv
  go_enter Try.func67, Try.ntmps67
  go_wp2_with fail
  refine (copyOpV _ d.op _ ⟨kv, vv, rfl, rk.ext ((hE _ _).tr (hE _ _)), rv.ext ((hE _ _).tr (hE _ _))⟩ hk hv).mono ?_
  rintro e w1 ⟨v1, rfl, ⟨k1, u1, rfl, ok1, ou1, hap⟩, b1⟩
  have hs1 : w.heap.size + 2 ≤ w1.heap.size := by have := b1.size; simp at this; omega
  have P1 := below_blk b1 (by simp; omega) ((Below.heap_alloc (w.alloc _) _ w.heap.size (by simp)).trans (heap_alloc_new w _))
  have R1 : w1.heap[w.heap.size + 1]? = _ := below_blk b1 (by simp) (by have := heap_alloc_new (w.alloc (.cells #[.int .i64 d.client, .int .i64 d.req, .int .i64 d.op.kind, kv, vv, .int .i64 d.op.n] 72 (0, 0))) (.cells #[.int .i64 0, .int .i64 0, .int .i64 0, .slice none 0 0, .slice none 0 0, .int .i64 0] 72 (0, 0)); simpa using this)
  obtain ⟨ka, kc, rfl, _, _, _⟩ := Ow.rv ok1 hrk
  obtain ⟨ua, uc, rfl, _, _, _⟩ := Ow.rv ou1 hrv
  have B1 : Below w.heap.size w w1 := ((((Below.refl _ w).alloc (Nat.le_refl _) _).alloc (by simp) _)).trans (b1.mono (by simp; omega))
  have ok2 : Ow w1 (w.heap.size + 2) _ _ := ow_base ok1 (by simp)
  have ou2 : Ow w1 (w.heap.size + 2) _ _ := ow_base ou1 (by simp)
  clear b1 ok1 ou1
  obtain ⟨t0, g0⟩ := at_block P1 0 _ rfl
  obtain ⟨t1, g1⟩ := at_block P1 1 _ rfl
  obtain ⟨t2, g2⟩ := at_block P1 2 _ rfl
  obtain ⟨t3, g3⟩ := at_block P1 3 _ rfl
  obtain ⟨t4, g4⟩ := at_block P1 4 _ rfl
  obtain ⟨t5, g5⟩ := at_block P1 5 _ rfl
  obtain ⟨r0, z0⟩ := at_block R1 0 _ rfl
  obtain ⟨r1, z1⟩ := at_block R1 1 _ rfl
  obtain ⟨r2, z2⟩ := at_block R1 2 _ rfl
  obtain ⟨r3, z3⟩ := at_block R1 3 _ rfl
  obtain ⟨r4, z4⟩ := at_block R1 4 _ rfl
  obtain ⟨r5, z5⟩ := at_block R1 5 _ rfl
  clear P1 R1
  go_wp2
  refine bodyPost_ret (v := .agg #[.int .i64 d.client, .int .i64 d.req, .int .i64 d.op.kind, .slice ka d.op.key.length kc, .slice ua d.op.val.length uc, .int .i64 d.op.n]) (by simp [results, Try.results67, go_sem, r0, r1, r2, r3, r4, r5]) rfl ?_
  refine ⟨_, rfl, ⟨_, _, rfl, ow_base (base := w.heap.size + 2) ?_ (by omega), ow_base (base := w.heap.size + 2) ?_ (by omega), hap⟩, ?_⟩
  · repeat (refine ow_set ?_ (by omega))
    exact ok2
  · repeat (refine ow_set ?_ (by omega))
    exact ou2
  · repeat (refine below_set ?_ (by omega))
    exact B1

set_option maxRecDepth 20000 in
set_option maxHeartbeats 4000000 in
theorem copyItemV (v : Value) (d : DItem) (w : World) (h : VItem w v d) (hk : d.cmd.op.key.length ≤ 2097152) (hv : d.cmd.op.val.length ≤ 2097152) :
    Calls Try.prog 58 #[v] w fun e w' => ∃ v', e = .returned v' ∧ OItem w' w.heap.size v' d ∧ Below w.heap.size w w' := by
  have hE : ∀ w : World, ∀ o, Ext w (w.alloc o) := fun w o => World.grownBy_alloc _ _ _
  obtain ⟨kv, vv, rfl, rk, rv⟩ := h
  have hrk := rv_rng rk
  have hrv := rv_rng rv
  go_enter Try.func58, Try.ntmps58
  go_wp2_with fail
  have P0 : ((w.alloc (.cells #[.int .i64 d.term, .int .i64 d.cmd.client, .int .i64 d.cmd.req, .int .i64 d.cmd.op.kind, kv, vv, .int .i64 d.cmd.op.n] 74 (0, 0))).alloc (.cells #[.int .i64 0, .int .i64 0, .int .i64 0, .int .i64 0, .slice none 0 0, .slice none 0 0, .int .i64 0] 74 (0, 0))).heap[w.heap.size]? = _ := (Below.heap_alloc (w.alloc _) _ w.heap.size (by simp)).trans (heap_alloc_new w _)
  have R0 : ((w.alloc (.cells #[.int .i64 d.term, .int .i64 d.cmd.client, .int .i64 d.cmd.req, .int .i64 d.cmd.op.kind, kv, vv, .int .i64 d.cmd.op.n] 74 (0, 0))).alloc (.cells #[.int .i64 0, .int .i64 0, .int .i64 0, .int .i64 0, .slice none 0 0, .slice none 0 0, .int .i64 0] 74 (0, 0))).heap[w.heap.size + 1]? = some (.cells #[.int .i64 0, .int .i64 0, .int .i64 0, .int .i64 0, .slice none 0 0, .slice none 0 0, .int .i64 0] 74 (0, 0)) := by have := heap_alloc_new (w.alloc (.cells #[.int .i64 d.term, .int .i64 d.cmd.client, .int .i64 d.cmd.req, .int .i64 d.cmd.op.kind, kv, vv, .int .i64 d.cmd.op.n] 74 (0, 0))) (.cells #[.int .i64 0, .int .i64 0, .int .i64 0, .int .i64 0, .slice none 0 0, .slice none 0 0, .int .i64 0] 74 (0, 0)); simpa using this
  have X0 : Ext w ((w.alloc (.cells #[.int .i64 d.term, .int .i64 d.cmd.client, .int .i64 d.cmd.req, .int .i64 d.cmd.op.kind, kv, vv, .int .i64 d.cmd.op.n] 74 (0, 0))).alloc (.cells #[.int .i64 0, .int .i64 0, .int .i64 0, .int .i64 0, .slice none 0 0, .slice none 0 0, .int .i64 0] 74 (0, 0))) := (hE _ _).tr (hE _ _)
  have B0 : Below w.heap.size w ((w.alloc (.cells #[.int .i64 d.term, .int .i64 d.cmd.client, .int .i64 d.cmd.req, .int .i64 d.cmd.op.kind, kv, vv, .int .i64 d.cmd.op.n] 74 (0, 0))).alloc (.cells #[.int .i64 0, .int .i64 0, .int .i64 0, .int .i64 0, .slice none 0 0, .slice none 0 0, .int .i64 0] 74 (0, 0))) := ((Below.refl _ w).alloc (Nat.le_refl _) _).alloc (by simp) _
  have z0 : ((w.alloc (.cells #[.int .i64 d.term, .int .i64 d.cmd.client, .int .i64 d.cmd.req, .int .i64 d.cmd.op.kind, kv, vv, .int .i64 d.cmd.op.n] 74 (0, 0))).alloc (.cells #[.int .i64 0, .int .i64 0, .int .i64 0, .int .i64 0, .slice none 0 0, .slice none 0 0, .int .i64 0] 74 (0, 0))).heap.size = w.heap.size + 2 := by simp
  generalize (w.alloc (.cells #[.int .i64 d.term, .int .i64 d.cmd.client, .int .i64 d.cmd.req, .int .i64 d.cmd.op.kind, kv, vv, .int .i64 d.cmd.op.n] 74 (0, 0))).alloc (.cells #[.int .i64 0, .int .i64 0, .int .i64 0, .int .i64 0, .slice none 0 0, .slice none 0 0, .int .i64 0] 74 (0, 0)) = V at P0 R0 X0 B0 z0 ⊢
  have XD : Ext V V.drew := ext_drewN V 1
  have zd : V.drew.heap.size = V.heap.size := rfl
  obtain ⟨c0, _⟩ := at_block P0 0 _ rfl
  obtain ⟨c1, _⟩ := at_block P0 1 _ rfl
  obtain ⟨c2, _⟩ := at_block P0 2 _ rfl
  obtain ⟨c3, _⟩ := at_block P0 3 _ rfl
  obtain ⟨c4, _⟩ := at_block P0 4 _ rfl
  obtain ⟨c5, _⟩ := at_block P0 5 _ rfl
  obtain ⟨c6, _⟩ := at_block P0 6 _ rfl
  go_region_with (go_at_call 67; refine (copyCmdV _ d.cmd _ ⟨kv, vv, rfl, rk.ext (X0.tr XD), rv.ext (X0.tr XD)⟩ hk hv).mono ?_; rintro e w1 ⟨v1, rfl, ⟨k1, u1, rfl, ok1, ou1, hap⟩, b1⟩; obtain ⟨ka, kc, rfl, _, _, _⟩ := Ow.rv ok1 hrk; obtain ⟨ua, uc, rfl, _, _, _⟩ := Ow.rv ou1 hrv; have P1 := below_blk b1 (by omega) (show V.drew.heap[w.heap.size]? = _ from P0); have R1 := below_blk b1 (by omega) (show V.drew.heap[w.heap.size + 1]? = _ from R0); obtain ⟨c0, _⟩ := at_block P1 0 _ rfl; obtain ⟨r0, f0⟩ := at_block R1 0 _ rfl; obtain ⟨r1, f1⟩ := at_block R1 1 _ rfl; obtain ⟨r2, f2⟩ := at_block R1 2 _ rfl; obtain ⟨r3, f3⟩ := at_block R1 3 _ rfl; obtain ⟨r4, f4⟩ := at_block R1 4 _ rfl; obtain ⟨r5, f5⟩ := at_block R1 5 _ rfl; obtain ⟨r6, f6⟩ := at_block R1 6 _ rfl)
  all_goals
    have s1 := b1.size
    have B1 : Below w.heap.size w w1 := (below_drewN B0 1).trans (b1.mono (by omega))
    have ok2 : Ow w1 (w.heap.size + 2) _ _ := ow_base ok1 (by omega)
    have ou2 : Ow w1 (w.heap.size + 2) _ _ := ow_base ou1 (by omega)
    clear ok1 ou1 b1 P1 R1
    go_wp2
    refine bodyPost_ret (v := .agg #[.int .i64 d.term, .int .i64 d.cmd.client, .int .i64 d.cmd.req, .int .i64 d.cmd.op.kind, .slice ka d.cmd.op.key.length kc, .slice ua d.cmd.op.val.length uc, .int .i64 d.cmd.op.n]) (by simp [results, Try.results58, go_sem, r0, r1, r2, r3, r4, r5, r6]) rfl ?_
    refine ⟨_, rfl, ⟨_, _, rfl, ow_base (base := w.heap.size + 2) ?_ (by omega), ow_base (base := w.heap.size + 2) ?_ (by omega), hap⟩, ?_⟩
    · repeat (refine ow_set ?_ (by omega))
      exact ok2
    · repeat (refine ow_set ?_ (by omega))
      exact ou2
    · repeat (refine below_set ?_ (by omega))
      exact B1

end Go.Proofs.Ytdcbajejgphlgaa

namespace Go.Proofs.Ytdcbajejgphlgaa
open Go.RowKit

set_option maxRecDepth 20000 in
set_option maxHeartbeats 4000000 in
theorem copyItemsV (v : Value) (ss : List DItem) (w : World) (h : VItems w v ss) (hn : ss.length ≤ 1048576) (hl : ∀ (i : Nat) s, ss[i]? = some s → s.cmd.op.key.length ≤ 2097152 ∧ s.cmd.op.val.length ≤ 2097152) :
    Calls Try.prog 46 #[v] w fun e w' => ∃ v' F, e = .returned v' ∧ IG w.heap.size w' v' ss F ∧ Below w.heap.size w w' := by
  have hE : ∀ w : World, ∀ o, Ext w (w.alloc o) := fun w o => World.grownBy_alloc _ _ _
  obtain ⟨C, ⟨a, cap, rfl, h1, h2, h3⟩, hC⟩ := h
  have HC : Hid (∀ i d, ss[i]? = some d → C i 0 = .int .i64 d.term ∧ C i 1 = .int .i64 d.cmd.client ∧ C i 2 = .int .i64 d.cmd.req ∧ C i 3 = .int .i64 d.cmd.op.kind ∧ RV w (C i 4) d.cmd.op.key ∧ RV w (C i 5) d.cmd.op.val ∧ C i 6 = .int .i64 d.cmd.op.n) := hC
  have HL : Hid (∀ (i : Nat) s, ss[i]? = some s → s.cmd.op.key.length ≤ 2097152 ∧ s.cmd.op.val.length ≤ 2097152) := hl
  clear hC hl
  unfold maxLen at h2
  obtain ⟨n, hnn⟩ : ∃ n, n = ss.length := ⟨_, rfl⟩
  rw [← hnn] at h1 h3 hn ⊢
  have HN : Hid (n = ss.length) := hnn
  clear hnn
  have H3 : Hid (0 < n → ∃ b o, a = some ⟨b, o, none⟩ ∧ b < w.heap.size ∧ ∀ i, i < n → ∀ j, j < 7 → w.cell? ⟨b, o + i * 7 + j, none⟩ = some (C i j)) := h3
  clear h3
  obtain ⟨i0, hi, hz0, hz1, hz2⟩ := info_parts info_I
  obtain ⟨wm, hmk, hrow, hgm⟩ := run_make_own (P := Try.prog) w w.heap.size 28 74 i0 _ 7 Try.underlying28 hi hz0 hz1 .i64 .i64 n (by rw [hz2]; omega) (by unfold maxLen; omega) (Nat.le_refl _)
  have HMR : Hid (IG w.heap.size wm (.slice (some ⟨w.heap.size, 0, none⟩) 0 n) [] (fun _ _ => .bool false)) := IG.made hrow
  have hbm : Below w.heap.size w wm := (Below.refl _ w).grown hgm (Nat.le_refl _) (fun k hk => by cases hk)
  clear hrow hgm hi hz0 hz1 hz2
  go_enter Try.func46, Try.ntmps46
  go_wp2
  go_loopw [3, 11] (fun bv i wr => ∃ k : Nat, k ≤ n ∧ i = .int .i64 k ∧ Below w.heap.size w wr ∧ ∃ F, Hid (IG w.heap.size wr bv (ss.take k) F)) (fun _ i _ => n - (intOf i).toNat)
  case atStart => exact ⟨0, Nat.zero_le _, rfl, hbm, _, by rw [List.take_zero]; exact HMR⟩
  case round =>
    obtain ⟨k, hk, rfl, hb, F, hF⟩ := hrel
    clear hmk HMR hbm
    by_cases hlt : k < n
    · obtain ⟨b, o, rfl, hbl, hc⟩ := H3.out (by omega)
      obtain ⟨s, hs⟩ : ∃ s, ss[k]? = some s := ⟨_, List.getElem?_eq_getElem (by have := HN.out; omega)⟩
      have HS : Hid (ss[k]? = some s) := hs
      have HTL : Hid ((ss.take k).length = k) := by show _ = _; rw [List.length_take]; have := HN.out; omega
      have HTN : Hid (ss.take (k + 1) = ss.take k ++ [s]) := by show _ = _; rw [List.take_add_one, hs]; rfl
      obtain ⟨e0, e1, e2, e3, e4, e5, e6⟩ := HC.out k s hs
      have X := ext_below hb
      have d0 := World.grownBy.cell X (hc k hlt 0 (by omega)) (by simp)
      rw [Nat.add_zero, e0] at d0
      have d1 := World.grownBy.cell X (hc k hlt 1 (by omega)) (by simp)
      rw [e1] at d1
      have d2 := World.grownBy.cell X (hc k hlt 2 (by omega)) (by simp)
      rw [e2] at d2
      have d3 := World.grownBy.cell X (hc k hlt 3 (by omega)) (by simp)
      rw [e3] at d3
      have d4 := World.grownBy.cell X (hc k hlt 4 (by omega)) (by simp)
      have cr4 := e4.ext X
      have hr4 := rv_rng e4
      obtain ⟨ca4, cp4, cx4, _, _, _⟩ := e4
      rw [cx4] at cr4 d4
      have d5 := World.grownBy.cell X (hc k hlt 5 (by omega)) (by simp)
      have cr5 := e5.ext X
      have hr5 := rv_rng e5
      obtain ⟨ca5, cp5, cx5, _, _, _⟩ := e5
      rw [cx5] at cr5 d5
      have d6 := World.grownBy.cell X (hc k hlt 6 (by omega)) (by simp)
      rw [e6] at d6
      have hlt' : (k : Int) < (n : Int) := by omega
      have hlk := HL.out k s hs
      clear hc hs
      go_wp2_with fail
      refine (copyItemV _ s _ ⟨_, _, rfl, cr4.ext (hE _ _), cr5.ext (hE _ _)⟩ hlk.1 hlk.2).mono ?_
      rintro e w1 ⟨v1, rfl, ⟨kv, vv, rfl, ok, ov, hap⟩, b1⟩
      have HOK : Hid (Ow w1 _ kv s.cmd.op.key ∧ Ow w1 _ vv s.cmd.op.val) := ⟨ok, ov⟩
      obtain ⟨ka, kc, rfl, _, _, _⟩ := Ow.rv ok hr4
      obtain ⟨va, vc, rfl, _, _, _⟩ := Ow.rv ov hr5
      have hF0 := hF.out.ext (hE wr (.cells #[.int .i64 s.term, .int .i64 s.cmd.client, .int .i64 s.cmd.req, .int .i64 s.cmd.op.kind, .slice ca4 s.cmd.op.key.length cp4, .slice ca5 s.cmd.op.val.length cp5, .int .i64 s.cmd.op.n] 74 (0, 0)))
      have HF0 : Hid (IG w.heap.size _ _ (ss.take k) F) := hF0
      have HB1 : Hid (Below _ _ w1) := b1
      have hs1 : wr.heap.size + 1 ≤ w1.heap.size := by have := b1.size; simpa using this
      have hbs := hb.size
      have BB1 : Below w.heap.size w w1 := (hb.alloc hbs _).trans (b1.mono (by simp; omega))
      clear hF hF0 ok ov b1 d0 d1 d2 d3 d4 d5 d6 cr4 cr5
      have RW := (HF0.out.ext ((ext_below HB1.out).tr (hE w1 (.cells #[.int .i64 s.term, .int .i64 s.cmd.client, .int .i64 s.cmd.req, .int .i64 s.cmd.op.kind, .slice ka s.cmd.op.key.length kc, .slice va s.cmd.op.val.length vc, .int .i64 s.cmd.op.n] 74 (0, 0))))).row
      rw [HTL.out] at RW
      have HRW : Hid _ := RW
      clear RW
      have N1 := heap_alloc_new w1 (.cells #[.int .i64 s.term, .int .i64 s.cmd.client, .int .i64 s.cmd.req, .int .i64 s.cmd.op.kind, .slice ka s.cmd.op.key.length kc, .slice va s.cmd.op.val.length vc, .int .i64 s.cmd.op.n] 74 (0, 0))
      have HCL : Hid (∀ (j : Nat) u, ([.int .i64 s.term, .int .i64 s.cmd.client, .int .i64 s.cmd.req, .int .i64 s.cmd.op.kind, .slice ka s.cmd.op.key.length kc, .slice va s.cmd.op.val.length vc, .int .i64 s.cmd.op.n] : List Value)[j]? = some u → (w1.alloc (.cells #[.int .i64 s.term, .int .i64 s.cmd.client, .int .i64 s.cmd.req, .int .i64 s.cmd.op.kind, .slice ka s.cmd.op.key.length kc, .slice va s.cmd.op.val.length vc, .int .i64 s.cmd.op.n] 74 (0, 0))).cell? ⟨w1.heap.size, j, none⟩ = some u) := fun j u hu => by
        rw [cell_of_row _ _ j _ _ (0, 0) N1]
        simpa using hu
      clear N1
      go_wp2_with (at_builtin; refine wpList_append_it _ rfl (.tmp 15) (.tmp 18) rfl w.heap.size _ k _ rfl HRW.out w1.heap.size _ rfl rfl HCL.out (by simp [Value.oneCell']) (by omega) (by simp; omega) ?_; intro v3 w3 r3 g3 q3)
      have HN3 := IG.next HF0.out (by simp; omega) HB1.out HOK.out.1 HOK.out.2 hap (hE w1 _) (by rw [HTL.out]; exact r3) g3 q3
      rw [← HTN.out] at HN3
      have HN3' : Hid _ := HN3
      have B3 : Below w.heap.size w w3 := (BB1.alloc (by omega) _).grown g3 (by simp; omega) (fun x hx => by have := (World.ownsRow.lt HRW.out x hx).1; omega)
      clear HN3 r3 g3 q3
      go_wp2
      go_roundw
      case rel => exact ⟨k + 1, by omega, by go_num, B3, _, HN3'.out⟩
      case measure => simp [intOf]; omega
    · have hkn : k = n := by omega
      subst hkn
      have HTT : Hid (ss.take k = ss) := by show _ = _; rw [List.take_of_length_le (by have := HN.out; omega)]
      go_wp2
      go_ret
      exact ⟨_, F, rfl, by have := hF.out; rw [HTT.out] at this; exact this, hb⟩

end Go.Proofs.Ytdcbajejgphlgaa

namespace Go.Proofs.Ytdcbajejgphlgaa
open Go.RowKit

theorem run_min2A (x y : Int) (W : World) : (Builtin.min_ #[3, 3] 3 #[.int .i64 x, .int .i64 y]).run Try.prog W = .ok (.int .i64 (min x y)) W := by
  simp [Builtin.min_, Builtin.min2, go_sem]
  rw [Int.min_def]
  split <;> split <;> omega

set_option maxRecDepth 20000 in
set_option maxHeartbeats 4000000 in
theorem addForV (g : Nat) (t : Nat) (p : Nat) (M : DNode) (lv bv nv mv sv : Value) (w : World) (hg : Srv w g M lv bv nv mv sv) (hlv : VItems w lv M.log) (hnv : VL fI w nv M.next) (ht : M.next[t]? = some ((p : Int) + 1)) (hp : p ≤ M.log.length) (hl : M.log.length ≤ 400) (hL : ∀ (i : Nat) s, M.log[i]? = some s → s.cmd.op.key.length ≤ 2097152 ∧ s.cmd.op.val.length ≤ 2097152) :
    Calls Try.prog 25 #[.pointer (some ⟨g, 0, none⟩), .int .i64 t] w fun e w' => ∃ iv F, e = .returned (.agg #[.int .i64 2, .int .i64 M.id, .int .i64 t, .int .i64 M.term, .int .i64 p, .int .i64 (termF M.log p), iv, .int .i64 M.commit, .bool false]) ∧ IG w.heap.size w' iv ((M.log.drop p).take 4) F ∧ Below w.heap.size w w' := by
  have hE : ∀ w : World, ∀ o, Ext w (w.alloc o) := fun w o => World.grownBy_alloc _ _ _
  have HLV : Hid (VItems w lv M.log) := hlv
  obtain ⟨la, lc, rfl⟩ := items_shape hlv
  obtain ⟨na, nc, rfl, hn1, hn2, hn3⟩ := hnv
  have htl : t < M.next.length := (List.getElem?_eq_some_iff.1 ht).1
  obtain ⟨nb, no, rfl, hnb, hnc⟩ := hn3 (by omega)
  have cn := hnc t _ ht
  have HS : Hid (Srv w g M (.slice la M.log.length lc) bv (.slice (some ⟨nb, no, none⟩) M.next.length nc) mv sv) := hg
  have hg' : w.heap[g]? = some (.cells #[.int .i64 M.id, .int .i64 M.votes.length, .int .i64 M.term, .int .i64 M.vote, .slice la M.log.length lc, .int .i64 M.commit, .int .i64 M.lead, .int .i64 M.wait, sv, .int .i64 M.role, bv, .slice (some ⟨nb, no, none⟩) M.next.length nc, mv] 83 (0, 0)) := hg
  have hgl : g < w.heap.size := (Array.getElem?_eq_some_iff.1 hg').1
  have PU := (Below.heap_alloc w (.cells #[.int .i64 0, .int .i64 0, .int .i64 0, .int .i64 0, .int .i64 0, .int .i64 0, .slice none 0 0, .int .i64 0, .bool false] 30 (0, 0)) g hgl).trans hg'
  have RU := heap_alloc_new w (.cells #[.int .i64 0, .int .i64 0, .int .i64 0, .int .i64 0, .int .i64 0, .int .i64 0, .slice none 0 0, .int .i64 0, .bool false] 30 (0, 0))
  have XU := hE w (.cells #[.int .i64 0, .int .i64 0, .int .i64 0, .int .i64 0, .int .i64 0, .int .i64 0, .slice none 0 0, .int .i64 0, .bool false] 30 (0, 0))
  have BU : Below w.heap.size w (w.alloc (.cells #[.int .i64 0, .int .i64 0, .int .i64 0, .int .i64 0, .int .i64 0, .int .i64 0, .slice none 0 0, .int .i64 0, .bool false] 30 (0, 0))) := (Below.refl _ w).alloc (Nat.le_refl _) _
  have zU : (w.alloc (.cells #[.int .i64 0, .int .i64 0, .int .i64 0, .int .i64 0, .int .i64 0, .int .i64 0, .slice none 0 0, .int .i64 0, .bool false] 30 (0, 0))).heap.size = w.heap.size + 1 := by simp
  have cn' : (w.alloc (.cells #[.int .i64 0, .int .i64 0, .int .i64 0, .int .i64 0, .int .i64 0, .int .i64 0, .slice none 0 0, .int .i64 0, .bool false] 30 (0, 0))).cell? ⟨nb, no + t, none⟩ = some (.int .i64 ((p : Int) + 1)) := World.grownBy.cell XU cn (by simp)
  have hmin := run_min2A
  have hn2' : nc ≤ 9223372036854775807 := by unfold maxLen at hn2; omega
  clear hn3 hnc cn hlv
  go_enter Try.func25, Try.ntmps25
  obtain ⟨s0, _⟩ := at_block PU 0 (.int .i64 M.id) rfl
  obtain ⟨s2, _⟩ := at_block PU 2 (.int .i64 M.term) rfl
  obtain ⟨s4, _⟩ := at_block PU 4 (.slice la M.log.length lc) rfl
  obtain ⟨s5, _⟩ := at_block PU 5 (.int .i64 M.commit) rfl
  obtain ⟨s11, _⟩ := at_block PU 11 (.slice (some ⟨nb, no, none⟩) M.next.length nc) rfl
  have htl' : (t : Int) < (M.next.length : Int) := by omega
  have hlc : M.log.length ≤ lc := by obtain ⟨C, ⟨a', c', hv, h1, _, _⟩, _⟩ := HLV.out; simp only [Value.slice.injEq] at hv; omega
  have hlc2 : lc ≤ 9223372036854775807 := by obtain ⟨C, ⟨a', c', hv, _, h2, _⟩, _⟩ := HLV.out; simp only [Value.slice.injEq] at hv; unfold maxLen at h2; omega
  have hp4 : (p : Int) ≤ 400 := by omega
  have HLL : Hid (((M.log.drop p).take 4).length = min (p + 4) M.log.length - p) := by show _ = _; rw [List.length_take, List.length_drop]; omega
  have HSUB : Hid (VItems w (.slice (la.map fun x => x.add (p * 7)) (min (p + 4) M.log.length - p) (lc - p)) ((M.log.drop p).take 4)) := by
    have h1 := HLV.out.sub p (min (p + 4) M.log.length - p) (by omega)
    have h2 : (M.log.drop p).take (min (p + 4) M.log.length - p) = (M.log.drop p).take 4 := by
      by_cases h4 : p + 4 ≤ M.log.length
      · congr 1; omega
      · rw [List.take_of_length_le (by rw [List.length_drop]; omega), List.take_of_length_le (by rw [List.length_drop]; omega)]
    rw [h2] at h1
    exact h1
  have HSUB0 : Hid (lc = p → VItems w (.slice la 0 0) ((M.log.drop p).take 4)) := fun e => by
    have : (M.log.drop p).take 4 = [] := by rw [List.drop_of_length_le (by omega)]; rfl
    rw [this]
    exact ⟨fun _ _ => .bool false, ⟨la, 0, rfl, Nat.le_refl _, Nat.zero_le _, fun h => absurd h (by simp)⟩, fun i d h => by simp at h⟩
  obtain ⟨q, hq⟩ : ∃ q : Nat, q = min (p + 4) M.log.length := ⟨_, rfl⟩
  have hq1 : min ((p : Int) + 4) (M.log.length : Int) = (q : Int) := by rw [hq]; omega
  have hq2 : p ≤ q := by rw [hq]; omega
  have hq3 : q ≤ M.log.length := by rw [hq]; omega
  have hq4 : (p : Int) ≤ (q : Int) := by omega
  have hq5 : (q : Int) ≤ (lc : Int) := by omega
  go_upto_region 2 with fail
  go_cut [6] from 16 to 31 (fun s6 wx => (∃ a6 n6 c6, s6 = .slice a6 n6 c6) ∧ Hid (VItems w s6 ((M.log.drop p).take 4)) ∧ ∃ q, wx = (w.alloc (.cells #[.int .i64 0, .int .i64 0, .int .i64 0, .int .i64 0, .int .i64 0, .int .i64 0, .slice none 0 0, .int .i64 0, .bool false] 30 (0, 0))).drewN q)
  case first =>
    by_cases hcp : lc = p
    · have H0 : Hid (VItems w (.slice la 0 0) ((M.log.drop p).take 4)) := HSUB0.out hcp
      clear HSUB0
      subst hcp
      go_quiet (fail)
      go_wp2_with fail
      go_meet
      refine ⟨⟨_, _, _, rfl⟩, ?_, _, rfl⟩
      have e0 : min (lc + 4) M.log.length - lc = 0 := by omega
      rw [e0]
      exact H0.out
    · have hcp' : ¬ (lc = p) := hcp
      go_quiet (fail)
      go_wp2_with fail
      go_meet
      exact ⟨⟨_, _, _, rfl⟩, HSUB, _, rfl⟩
  obtain ⟨⟨a6, n6, c6, rfl⟩, HV6, nq, rfl⟩ := hcut
  have PV : ((w.alloc (.cells #[.int .i64 0, .int .i64 0, .int .i64 0, .int .i64 0, .int .i64 0, .int .i64 0, .slice none 0 0, .int .i64 0, .bool false] 30 (0, 0))).drewN nq).heap[g]? = some (.cells #[.int .i64 M.id, .int .i64 M.votes.length, .int .i64 M.term, .int .i64 M.vote, .slice la M.log.length lc, .int .i64 M.commit, .int .i64 M.lead, .int .i64 M.wait, sv, .int .i64 M.role, bv, .slice (some ⟨nb, no, none⟩) M.next.length nc, mv] 83 (0, 0)) := PU
  have RV' : ((w.alloc (.cells #[.int .i64 0, .int .i64 0, .int .i64 0, .int .i64 0, .int .i64 0, .int .i64 0, .slice none 0 0, .int .i64 0, .bool false] 30 (0, 0))).drewN nq).heap[w.heap.size]? = some (.cells #[.int .i64 0, .int .i64 0, .int .i64 0, .int .i64 0, .int .i64 0, .int .i64 0, .slice none 0 0, .int .i64 0, .bool false] 30 (0, 0)) := RU
  have BV : Below w.heap.size w ((w.alloc (.cells #[.int .i64 0, .int .i64 0, .int .i64 0, .int .i64 0, .int .i64 0, .int .i64 0, .slice none 0 0, .int .i64 0, .bool false] 30 (0, 0))).drewN nq) := below_drewN BU nq
  have zV : ((w.alloc (.cells #[.int .i64 0, .int .i64 0, .int .i64 0, .int .i64 0, .int .i64 0, .int .i64 0, .slice none 0 0, .int .i64 0, .bool false] 30 (0, 0))).drewN nq).heap.size = w.heap.size + 1 := zU
  generalize (w.alloc (.cells #[.int .i64 0, .int .i64 0, .int .i64 0, .int .i64 0, .int .i64 0, .int .i64 0, .slice none 0 0, .int .i64 0, .bool false] 30 (0, 0))).drewN nq = V at PV RV' BV zV ⊢
  clear PU RU BU zU s0 s2 s4 s5 s11 cn' XU HSUB HSUB0 hq hq1 hq2 hq3 hq4 hq5
  have hgV : g < V.heap.size := by omega
  have hwV : w.heap.size < V.heap.size := by omega
  have HZV : Hid (V.heap.size = w.heap.size + 1) := zV
  clear zV
  have HSV : Hid (Srv V g M (.slice la M.log.length lc) bv (.slice (some ⟨nb, no, none⟩) M.next.length nc) mv sv) := PV
  obtain ⟨s5, _⟩ := at_block PV 5 (.int .i64 M.commit) rfl
  have XV := ext_below BV
  have XD : Ext V V.drew := ext_drewN V 1
  have XA : Ext V (V.alloc (.cells #[.int .i64 0, .int .i64 0, .slice none 0 0, .int .i64 0] 86 (0, 0))).drew := (hE V _).tr (ext_drewN _ 1)
  obtain ⟨IT, hIT⟩ : ∃ IT, IT = (M.log.drop p).take 4 := ⟨_, rfl⟩
  have HSX : Hid (∀ W, Ext V W → Srv W g M (.slice la M.log.length lc) bv (.slice (some ⟨nb, no, none⟩) M.next.length nc) mv sv) := fun W e => (e.block g (by omega) (by simp)).trans HSV.out
  have HLX : Hid (∀ W, Ext V W → VItems W (.slice la M.log.length lc) M.log) := fun W e => (HLV.out.ext XV).ext e
  have HUX : Hid (∀ W, Ext V W → VItems W (.slice a6 n6 c6) IT) := fun W e => by rw [hIT]; exact (HV6.out.ext XV).ext e
  have HL4 : Hid (IT.length ≤ 1048576) := by show _ ≤ _; rw [hIT, List.length_take]; omega
  have HLT : Hid (∀ (i : Nat) s, IT[i]? = some s → s.cmd.op.key.length ≤ 2097152 ∧ s.cmd.op.val.length ≤ 2097152) := by
    intro i s hs
    rw [hIT] at hs
    have hm := List.mem_of_mem_take (List.mem_of_getElem? hs)
    obtain ⟨j, hj⟩ := List.getElem?_of_mem (List.mem_of_mem_drop hm)
    exact hL j s hj
  have HITT : Hid (IT = (M.log.drop p).take 4) := hIT
  clear hIT HV6 HLL
  have HPX : Hid (∀ (W w3 : World), Ext V W → Below W.heap.size W w3 → w3.heap[g]? = some (.cells #[.int .i64 M.id, .int .i64 M.votes.length, .int .i64 M.term, .int .i64 M.vote, .slice la M.log.length lc, .int .i64 M.commit, .int .i64 M.lead, .int .i64 M.wait, sv, .int .i64 M.role, bv, .slice (some ⟨nb, no, none⟩) M.next.length nc, mv] 83 (0, 0)) ∧ w3.heap[w.heap.size]? = some (.cells #[.int .i64 0, .int .i64 0, .int .i64 0, .int .i64 0, .int .i64 0, .int .i64 0, .slice none 0 0, .int .i64 0, .bool false] 30 (0, 0)) ∧ V.heap.size ≤ w3.heap.size ∧ Below w.heap.size w w3) := fun W w3 e b =>
    ⟨below_blk b (by have := e.size; omega) ((e.block g (by omega) (by simp)).trans PV), below_blk b (by have := e.size; omega) ((e.block w.heap.size (by omega) (by simp)).trans RV'), Nat.le_trans e.size b.size, by
      have hs := e.size
      refine (BV.trans ⟨e.os, e.tape, e.output, hs, fun k hk => e.block k (by omega) (by simp)⟩).trans (b.mono (by omega))⟩
  have k5 : ∀ o, (V.alloc o).drew.cell? ⟨g, 5, none⟩ = some (.int .i64 M.commit) := fun o => (at_block (show (V.alloc o).drew.heap[g]? = _ from (Below.heap_alloc V o g (by omega)).trans PV) 5 (.int .i64 M.commit) rfl).1
  have HAX : Hid (∀ (w3 : World), w3.cell? ⟨g, 5, none⟩ = some (.int .i64 M.commit) → ∀ o, (w3.alloc o).cell? ⟨g, 5, none⟩ = some (.int .i64 M.commit)) := fun w3 h o => World.grownBy.cell (hE w3 o) h (by simp)
  have HQX : Hid (∀ w3 : World, Below (V.alloc (.cells #[.int .i64 0, .int .i64 0, .slice none 0 0, .int .i64 0] 86 (0, 0))).drew.heap.size (V.alloc (.cells #[.int .i64 0, .int .i64 0, .slice none 0 0, .int .i64 0] 86 (0, 0))).drew w3 → w3.heap[V.heap.size]? = some (.cells #[.int .i64 0, .int .i64 0, .slice none 0 0, .int .i64 0] 86 (0, 0))) := fun w3 b =>
    below_blk b (by show V.heap.size < (V.alloc _).heap.size; simp) (show (V.alloc (.cells #[.int .i64 0, .int .i64 0, .slice none 0 0, .int .i64 0] 86 (0, 0))).drew.heap[V.heap.size]? = _ from heap_alloc_new V _)
  have HTA : Hid (∀ W, Ext V W → Calls Try.prog 45 #[.pointer (some ⟨g, 0, none⟩), .int .i64 p] W fun e w' => e = .returned (.int .i64 (termF M.log p)) ∧ w' = W) := fun W e => itermAtV g p M _ _ _ _ _ _ (HSX.out _ e) (HLX.out _ e)
  have HCI : Hid (∀ W, Ext V W → Calls Try.prog 46 #[.slice a6 n6 c6] W fun e w3 => ∃ a3 c3 F, e = .returned (.slice a3 IT.length c3) ∧ Hid (IG W.heap.size w3 (.slice a3 IT.length c3) IT F) ∧ Below W.heap.size W w3 ∧ w3.heap[g]? = some (.cells #[.int .i64 M.id, .int .i64 M.votes.length, .int .i64 M.term, .int .i64 M.vote, .slice la M.log.length lc, .int .i64 M.commit, .int .i64 M.lead, .int .i64 M.wait, sv, .int .i64 M.role, bv, .slice (some ⟨nb, no, none⟩) M.next.length nc, mv] 83 (0, 0)) ∧ w3.heap[w.heap.size]? = some (.cells #[.int .i64 0, .int .i64 0, .int .i64 0, .int .i64 0, .int .i64 0, .int .i64 0, .slice none 0 0, .int .i64 0, .bool false] 30 (0, 0)) ∧ V.heap.size ≤ w3.heap.size ∧ Below w.heap.size w w3 ∧ (V.heap.size < W.heap.size → w3.heap[V.heap.size]? = W.heap[V.heap.size]?)) := fun W e => by
    refine (copyItemsV _ _ W (HUX.out _ e) HL4.out HLT.out).mono ?_
    rintro e1 w3 ⟨v3, F, rfl, g3, b3⟩
    obtain ⟨a3, c3, rfl⟩ := g3.shape
    obtain ⟨h1, h2, h3, h4⟩ := HPX.out _ w3 e b3
    exact ⟨a3, c3, F, rfl, g3, b3, h1, h2, h3, h4, fun hh => b3.block _ hh⟩
  go_upto_region 3 with fail
  go_cut [7] from 32 to 45 (fun s7 wx => ∃ B a3 c3 F, s7 = .pointer (some ⟨B, 0, none⟩) ∧ w.heap.size < B ∧ wx.heap[B]? = some (.cells #[.int .i64 p, .int .i64 (termF M.log p), .slice a3 IT.length c3, .int .i64 M.commit] 86 (0, 0)) ∧ wx.heap[g]? = some (.cells #[.int .i64 M.id, .int .i64 M.votes.length, .int .i64 M.term, .int .i64 M.vote, .slice la M.log.length lc, .int .i64 M.commit, .int .i64 M.lead, .int .i64 M.wait, sv, .int .i64 M.role, bv, .slice (some ⟨nb, no, none⟩) M.next.length nc, mv] 83 (0, 0)) ∧ wx.heap[w.heap.size]? = some (.cells #[.int .i64 0, .int .i64 0, .int .i64 0, .int .i64 0, .int .i64 0, .int .i64 0, .slice none 0 0, .int .i64 0, .bool false] 30 (0, 0)) ∧ Hid (IG (w.heap.size + 1) wx (.slice a3 IT.length c3) IT F) ∧ Below w.heap.size w wx)
  case first =>
    have hne1 : V.heap.size ≠ g := by omega
    have hne2 : g ≠ V.heap.size := by omega
    go_region_held3 (fun w' => w'.cell? ⟨g, 5, none⟩ = some (.int .i64 M.commit)) (first | (simp [*]; done) | go_keep)
      (first
      | (go_at_call 46; refine (HCI.out _ ?_).mono ?_; (first | (exact XA; rintro e w3 ⟨a3, c3, F, rfl, g3, b3, h1, h2, h3, h4, h5⟩; have c5 := (at_block h1 5 (.int .i64 M.commit) rfl).1; have c5' := HAX.out w3 c5; have Q3 := HQX.out w3 b3; obtain ⟨q0, f0⟩ := at_block Q3 0 _ rfl; obtain ⟨q1, f1⟩ := at_block Q3 1 _ rfl; obtain ⟨q2, f2⟩ := at_block Q3 2 _ rfl; obtain ⟨q3, f3⟩ := at_block Q3 3 _ rfl) | (exact XD; rintro e w3 ⟨a3, c3, F, rfl, g3, b3, h1, h2, h3, h4, h5⟩; have c5 := (at_block h1 5 (.int .i64 M.commit) rfl).1; have c5' := HAX.out w3 c5)))
      | (go_at_call 45; refine (HTA.out _ ?_).mono ?_; (first | exact XD | exact XA); rintro e w1 ⟨rfl, rfl⟩))
    all_goals
      go_wp2_with fail
      go_meet
    · have hzv := HZV.out
      exact ⟨w3.heap.size, a3, c3, F, rfl, by omega, heap_alloc_new w3 _, (Below.heap_alloc w3 _ g (by omega)).trans h1, (Below.heap_alloc w3 _ w.heap.size (by omega)).trans h2, (g3.out.ext (hE _ _)).mono (by show w.heap.size + 1 ≤ V.heap.size; omega), h4.alloc h4.size _⟩
    · have hzv := HZV.out
      have hz : V.heap.size < (V.alloc (.cells #[.int .i64 0, .int .i64 0, .slice none 0 0, .int .i64 0] 86 (0, 0))).drew.heap.size := by show V.heap.size < (V.alloc _).heap.size; simp
      have hq : w.heap.size ≤ V.heap.size := by omega
      exact ⟨V.heap.size, a3, c3, F, rfl, by omega, set_block (set_block (set_block (set_block Q3 0 _) 1 _) 2 _) 3 _, set_other _ _ _ (by omega) (set_other _ _ _ (by omega) (set_other _ _ _ (by omega) (set_other _ _ _ (by omega) h1))), set_other _ _ _ (by omega) (set_other _ _ _ (by omega) (set_other _ _ _ (by omega) (set_other _ _ _ (by omega) h2))), ((((g3.out.set hz).set hz).set hz).set hz).mono (by omega), (((h4.setCell hq _).setCell hq _).setCell hq _).setCell hq _⟩
    · have hzv := HZV.out
      have hz : V.heap.size < (V.alloc (.cells #[.int .i64 0, .int .i64 0, .slice none 0 0, .int .i64 0] 86 (0, 0))).drew.heap.size := by show V.heap.size < (V.alloc _).heap.size; simp
      have hq : w.heap.size ≤ V.heap.size := by omega
      exact ⟨V.heap.size, a3, c3, F, rfl, by omega, set_block (set_block (set_block (set_block Q3 0 _) 1 _) 2 _) 3 _, set_other _ _ _ (by omega) (set_other _ _ _ (by omega) (set_other _ _ _ (by omega) (set_other _ _ _ (by omega) h1))), set_other _ _ _ (by omega) (set_other _ _ _ (by omega) (set_other _ _ _ (by omega) (set_other _ _ _ (by omega) h2))), ((((g3.out.set hz).set hz).set hz).set hz).mono (by omega), (((h4.setCell hq _).setCell hq _).setCell hq _).setCell hq _⟩
  obtain ⟨B, a3, c3, F, rfl, hB3, Q3, P3, R3, HIG, B3⟩ := hcut
  have hs3 : w.heap.size < wc.heap.size := (Array.getElem?_eq_some_iff.1 R3).1
  clear PV RV' BV XV XD XA HSX HLX HUX HPX k5 HAX HQX HSV s5 hwV hgV HTA HCI
  obtain ⟨s0, _⟩ := at_block P3 0 (.int .i64 M.id) rfl
  obtain ⟨s2, _⟩ := at_block P3 2 (.int .i64 M.term) rfl
  obtain ⟨y0, _⟩ := at_block Q3 0 _ rfl
  obtain ⟨y1, _⟩ := at_block Q3 1 _ rfl
  obtain ⟨y2, _⟩ := at_block Q3 2 _ rfl
  obtain ⟨y3, _⟩ := at_block Q3 3 _ rfl
  go_upto_region 4 with fail
  go_region_with (go_at_call 47; refine (messageAdd ⟨2, M.id, t, M.term, p, termF M.log p, IT, M.commit, false⟩ _ ⟨_, _, rfl⟩ _).mono ?_; rintro e w5 ⟨rfl, b5⟩; have R5 := below_blk b5 (by first | exact hs3 | (simp; omega)) (show wc.drew.heap[w.heap.size]? = _ from R3); obtain ⟨r0, z0⟩ := at_block R5 0 _ rfl; obtain ⟨r1, z1⟩ := at_block R5 1 _ rfl; obtain ⟨r2, z2⟩ := at_block R5 2 _ rfl; obtain ⟨r3, z3⟩ := at_block R5 3 _ rfl; obtain ⟨r4, z4⟩ := at_block R5 4 _ rfl; obtain ⟨r5, z5⟩ := at_block R5 5 _ rfl; obtain ⟨r6, z6⟩ := at_block R5 6 _ rfl; obtain ⟨r7, z7⟩ := at_block R5 7 _ rfl; obtain ⟨r8, z8⟩ := at_block R5 8 _ rfl)
  all_goals
    go_wp2_with fail
    refine bodyPost_ret (v := .agg #[.int .i64 2, .int .i64 M.id, .int .i64 t, .int .i64 M.term, .int .i64 p, .int .i64 (termF M.log p), .slice a3 IT.length c3, .int .i64 M.commit, .bool false]) (by simp [results, Try.results25, go_sem, r0, r1, r2, r3, r4, r5, r6, r7, r8]) rfl ?_
    have I5 : IG (w.heap.size + 1) w5 (.slice a3 IT.length c3) IT F := HIG.out.ext ((ext_drewN wc 1).tr (ext_below b5))
    have B5 : Below w.heap.size w w5 := (below_drewN B3 1).trans (b5.mono B3.size)
    have hx : w.heap.size < w.heap.size + 1 := by omega
    have hy : w.heap.size ≤ w.heap.size := Nat.le_refl _
    rw [← HITT.out]
    exact ⟨_, F, rfl, (((((((((I5.set hx).set hx).set hx).set hx).set hx).set hx).set hx).set hx).set hx).mono (by omega), ((((((((B5.setCell hy _).setCell hy _).setCell hy _).setCell hy _).setCell hy _).setCell hy _).setCell hy _).setCell hy _).setCell hy _⟩

end Go.Proofs.Ytdcbajejgphlgaa

namespace Go.Proofs.Ytdcbajejgphlgaa
open Go.RowKit

/-- 'append(out, x)' of items, out the call's own, as one step. -/
theorem step_append_it {ops : Array Oper} {o : Oper} {a : Act} {w : World} {K : Act → World → Prop} {Q : Exit → Act → World → Prop} {E : Prop} (hgd : o.guard = none) (s x : Operand)
    (ho : o.op = .call { callee := .builtin .append, args := #[s, x], argTypes := #[28, 28] })
    (base : Nat) (v : Value) (n : Nat) (xs : List Value) (hs : a.eval s = v) (hown : w.ownsRow base 74 7 v n xs)
    (g : Nat) (us : List Value) (hx : a.eval x = .slice (some ⟨g, 0, none⟩) 1 1) (hl : us.length = 7) (hc : ∀ (j : Nat) u, us[j]? = some u → w.cell? ⟨g, j, none⟩ = some u) (h1 : ∀ u ∈ us, u.oneCell' = true)
    (hb : n ≤ 1048576) (hbase : base ≤ w.heap.size)
    (h : ∀ v' w', w'.ownsRow base 74 7 v' (n + 1) (xs ++ us) → w.grownBy w' v.ownBlock → K (a.put o.dst v') w') :
    if Region.wanted o (yielded ops a.tmps) = true then Oper.wp Try.prog o a w K Q else E := by
  have hw : Region.wanted o (yielded ops a.tmps) = true := by simp [Region.wanted, hgd]
  rw [if_pos hw]
  obtain ⟨i0, hi, hz0, hz1, hz2⟩ := info_parts info_I
  obtain ⟨v', w', hrun, r1, r2, _, r4⟩ := run_append_own_at (P := Try.prog) w base 28 o.type 74 i0 _ 7 88 Try.underlying28 hi hz0 hz1 hz2 rfl (by decide) v n xs hown ⟨g, 0, none⟩ 1 1 us (by omega)
    (fun j u' hj => by rw [Addr.add_lit, Nat.zero_add]; exact hc j u' hj) h1 (by unfold maxLen; omega) (by omega) hbase
  unfold Oper.wp execOp
  simp only [ho, resolve, invoke, builtin, Sem.run_bind, Sem.run_pure, Result.andThen_ok, List.map_toArray, List.map_cons, List.map_nil, hs, hx, hrun]
  exact h v' w' r1 r2

set_option maxRecDepth 20000 in
set_option maxHeartbeats 4000000 in
theorem l4addV (g : Nat) (t : Nat) (p : Nat) (M : DNode) (lv bv nv mv : Value) (w : World)
    (hg : w.heap[g]? = some (.cells #[.int .i64 M.id, .int .i64 M.term, .int .i64 M.vote, lv, .int .i64 M.commit, .int .i64 M.role, .int .i64 M.lead, .int .i64 M.wait, bv, nv, mv] 34 (0, 0)))
    (hlv : VItems w lv M.log) (hnv : VL fI w nv M.next) (ht : M.next[t]? = some ((p : Int) + 1)) (hp : p ≤ M.log.length) (hl : M.log.length ≤ 400) :
    Calls Try.prog 18 #[.pointer (some ⟨g, 0, none⟩), .int .i64 t] w fun e w' => ∃ iv, e = .returned (.agg #[.int .i64 2, .int .i64 M.id, .int .i64 t, .int .i64 M.term, .int .i64 p, .int .i64 (termF M.log p), iv, .int .i64 M.commit, .bool false]) ∧ VItems w' iv ((M.log.drop p).take 4) ∧ Below w.heap.size w w' := by
  have hE : ∀ w : World, ∀ o, Ext w (w.alloc o) := fun w o => World.grownBy_alloc _ _ _
  have HLV : Hid (VItems w lv M.log) := hlv
  obtain ⟨C, ⟨la, lc, rfl, hlc, hlc2, hl3⟩, hC⟩ := hlv
  obtain ⟨na, nc, rfl, hn1, hn2, hn3⟩ := hnv
  have htl : t < M.next.length := (List.getElem?_eq_some_iff.1 ht).1
  obtain ⟨nb, no, rfl, hnb, hnc⟩ := hn3 (by omega)
  have cn := hnc t _ ht
  have hgl : g < w.heap.size := (Array.getElem?_eq_some_iff.1 hg).1
  have HG : Hid (w.heap[g]? = some (.cells #[.int .i64 M.id, .int .i64 M.term, .int .i64 M.vote, .slice la M.log.length lc, .int .i64 M.commit, .int .i64 M.role, .int .i64 M.lead, .int .i64 M.wait, bv, .slice (some ⟨nb, no, none⟩) M.next.length nc, mv] 34 (0, 0))) := hg
  have PU := (Below.heap_alloc w (.cells #[.int .i64 0, .int .i64 0, .int .i64 0, .int .i64 0, .int .i64 0, .int .i64 0, .slice none 0 0, .int .i64 0, .bool false] 30 (0, 0)) g hgl).trans hg
  have XU := hE w (.cells #[.int .i64 0, .int .i64 0, .int .i64 0, .int .i64 0, .int .i64 0, .int .i64 0, .slice none 0 0, .int .i64 0, .bool false] 30 (0, 0))
  have cn' : (w.alloc (.cells #[.int .i64 0, .int .i64 0, .int .i64 0, .int .i64 0, .int .i64 0, .int .i64 0, .slice none 0 0, .int .i64 0, .bool false] 30 (0, 0))).cell? ⟨nb, no + t, none⟩ = some (.int .i64 ((p : Int) + 1)) := World.grownBy.cell XU cn (by simp)
  have hn2' : nc ≤ 9223372036854775807 := by unfold maxLen at hn2; omega
  have HC : Hid (∀ i d, M.log[i]? = some d → C i 0 = .int .i64 d.term ∧ C i 1 = .int .i64 d.cmd.client ∧ C i 2 = .int .i64 d.cmd.req ∧ C i 3 = .int .i64 d.cmd.op.kind ∧ RV w (C i 4) d.cmd.op.key ∧ RV w (C i 5) d.cmd.op.val ∧ C i 6 = .int .i64 d.cmd.op.n) := hC
  have H3 : Hid (0 < M.log.length → ∃ b o, la = some ⟨b, o, none⟩ ∧ b < w.heap.size ∧ ∀ i, i < M.log.length → ∀ j, j < 7 → w.cell? ⟨b, o + i * 7 + j, none⟩ = some (C i j)) := hl3
  clear hn3 hnc cn hC hl3
  go_enter Try.func18, Try.ntmps18
  obtain ⟨s0, _⟩ := at_block PU 0 (.int .i64 M.id) rfl
  obtain ⟨s1, _⟩ := at_block PU 1 (.int .i64 M.term) rfl
  obtain ⟨s3, _⟩ := at_block PU 3 (.slice la M.log.length lc) rfl
  obtain ⟨s4, _⟩ := at_block PU 4 (.int .i64 M.commit) rfl
  obtain ⟨s9, _⟩ := at_block PU 9 (.slice (some ⟨nb, no, none⟩) M.next.length nc) rfl
  have htl' : (t : Int) < (M.next.length : Int) := by omega
  have hp4 : (p : Int) ≤ 400 := by omega
  go_upto_region 2 with fail
  have RU := heap_alloc_new w (.cells #[.int .i64 0, .int .i64 0, .int .i64 0, .int .i64 0, .int .i64 0, .int .i64 0, .slice none 0 0, .int .i64 0, .bool false] 30 (0, 0))
  have BU : Below w.heap.size w (w.alloc (.cells #[.int .i64 0, .int .i64 0, .int .i64 0, .int .i64 0, .int .i64 0, .int .i64 0, .slice none 0 0, .int .i64 0, .bool false] 30 (0, 0))) := (Below.refl _ w).alloc (Nat.le_refl _) _
  have zU : (w.alloc (.cells #[.int .i64 0, .int .i64 0, .int .i64 0, .int .i64 0, .int .i64 0, .int .i64 0, .slice none 0 0, .int .i64 0, .bool false] 30 (0, 0))).heap.size = w.heap.size + 1 := by simp
  have HLU : Hid (VItems (w.alloc (.cells #[.int .i64 0, .int .i64 0, .int .i64 0, .int .i64 0, .int .i64 0, .int .i64 0, .slice none 0 0, .int .i64 0, .bool false] 30 (0, 0))) (.slice la M.log.length lc) M.log) := HLV.out.ext XU
  generalize w.alloc (.cells #[.int .i64 0, .int .i64 0, .int .i64 0, .int .i64 0, .int .i64 0, .int .i64 0, .slice none 0 0, .int .i64 0, .bool false] 30 (0, 0)) = V at PU RU BU zU XU s0 s1 s3 s4 s9 cn' HLU ⊢
  have hgV : g < V.heap.size := by omega
  have HPV : Hid (V.heap[g]? = some (.cells #[.int .i64 M.id, .int .i64 M.term, .int .i64 M.vote, .slice la M.log.length lc, .int .i64 M.commit, .int .i64 M.role, .int .i64 M.lead, .int .i64 M.wait, bv, .slice (some ⟨nb, no, none⟩) M.next.length nc, mv] 34 (0, 0))) := PU
  have XD : Ext V V.drew := ext_drewN V 1
  have XA : Ext V (V.alloc (.cells #[.int .i64 0, .int .i64 0, .int .i64 0, .int .i64 0, .int .i64 0, .int .i64 0, .slice none 0 0, .int .i64 0, .bool false] 30 (0, 0))).drew := (hE V _).tr (ext_drewN _ 1)
  have k4 : ∀ o, (V.alloc o).drew.cell? ⟨g, 4, none⟩ = some (.int .i64 M.commit) := fun o => (at_block (show (V.alloc o).drew.heap[g]? = _ from (Below.heap_alloc V o g (by omega)).trans PU) 4 (.int .i64 M.commit) rfl).1
  have k0 : ∀ o, (V.alloc o).drew.cell? ⟨g, 0, none⟩ = some (.int .i64 M.id) := fun o => (at_block (show (V.alloc o).drew.heap[g]? = _ from (Below.heap_alloc V o g (by omega)).trans PU) 0 (.int .i64 M.id) rfl).1
  have k1 : ∀ o, (V.alloc o).drew.cell? ⟨g, 1, none⟩ = some (.int .i64 M.term) := fun o => (at_block (show (V.alloc o).drew.heap[g]? = _ from (Below.heap_alloc V o g (by omega)).trans PU) 1 (.int .i64 M.term) rfl).1
  have HTA : Hid (∀ W, Ext V W → Calls Try.prog 39 #[.pointer (some ⟨g, 0, none⟩), .int .i64 p] W fun e w' => e = .returned (.int .i64 (termF M.log p)) ∧ w' = W) := fun W e => l4termAtV g p _ _ _ _ _ _ _ _ _ _ _ M.log W ((e.block g hgV (by simp)).trans HPV.out) (HLU.out.ext e)
  go_cut [6] from 16 to 33 (fun s6 wx => ∃ B, s6 = .pointer (some ⟨B, 0, none⟩) ∧ w.heap.size < B ∧ wx.heap[B]? = some (.cells #[.int .i64 2, .int .i64 M.id, .int .i64 t, .int .i64 M.term, .int .i64 p, .int .i64 (termF M.log p), .slice none 0 0, .int .i64 M.commit, .bool false] 30 (0, 0)) ∧ wx.heap[g]? = some (.cells #[.int .i64 M.id, .int .i64 M.term, .int .i64 M.vote, .slice la M.log.length lc, .int .i64 M.commit, .int .i64 M.role, .int .i64 M.lead, .int .i64 M.wait, bv, .slice (some ⟨nb, no, none⟩) M.next.length nc, mv] 34 (0, 0)) ∧ wx.heap[w.heap.size]? = some (.cells #[.int .i64 0, .int .i64 0, .int .i64 0, .int .i64 0, .int .i64 0, .int .i64 0, .slice none 0 0, .int .i64 0, .bool false] 30 (0, 0)) ∧ Below w.heap.size w wx ∧ B < wx.heap.size)
  case first =>
    go_region_held3 (fun w' => w'.cell? ⟨g, 0, none⟩ = some (.int .i64 M.id) ∧ w'.cell? ⟨g, 1, none⟩ = some (.int .i64 M.term) ∧ w'.cell? ⟨g, 4, none⟩ = some (.int .i64 M.commit)) (simp [*])
      ((go_at_call 39; refine (HTA.out _ ?_).mono ?_; (first | exact XD | exact XA); rintro e w1 ⟨rfl, rfl⟩))
    all_goals
      go_wp2_with fail
      go_meet
    all_goals exact ⟨_, rfl, by omega, by rw [← zU]; exact heap_alloc_new V _, (Below.heap_alloc V _ g hgV).trans HPV.out, (Below.heap_alloc V _ w.heap.size (by omega)).trans RU, below_drewN (BU.alloc BU.size _) 1, by show _ < (V.alloc _).heap.size; simp; omega⟩
  obtain ⟨B, rfl, hB, Q2, P2, R2, B2, hBs⟩ := hcut
  clear PU RU BU zU s0 s1 s3 s4 s9 cn' HLU HPV XD XA k4 k0 k1 HTA hgV XU
  obtain ⟨nn, hnn⟩ : ∃ nn, nn = M.log.length := ⟨_, rfl⟩
  have HNN : Hid (nn = M.log.length) := hnn
  have HW0 : Hid (wc.heap[B]? = some (.cells #[.int .i64 2, .int .i64 M.id, .int .i64 t, .int .i64 M.term, .int .i64 p, .int .i64 (termF M.log p), .slice none 0 0, .int .i64 M.commit, .bool false] 30 (0, 0)) ∧ wc.heap[g]? = some (.cells #[.int .i64 M.id, .int .i64 M.term, .int .i64 M.vote, .slice la M.log.length lc, .int .i64 M.commit, .int .i64 M.role, .int .i64 M.lead, .int .i64 M.wait, bv, .slice (some ⟨nb, no, none⟩) M.next.length nc, mv] 34 (0, 0)) ∧ wc.heap[w.heap.size]? = some (.cells #[.int .i64 0, .int .i64 0, .int .i64 0, .int .i64 0, .int .i64 0, .int .i64 0, .slice none 0 0, .int .i64 0, .bool false] 30 (0, 0)) ∧ Below w.heap.size w wc ∧ B < wc.heap.size) := ⟨Q2, P2, R2, B2, hBs⟩
  clear Q2 P2 R2 B2 hBs hnn
  go_wp2_with fail
  go_loopw [7] (fun i wr => ∃ k : Nat, k ≤ 4 ∧ p + k ≤ M.log.length ∧ i = .int .i64 ((p : Int) + k) ∧ ∃ iv, Hid (wr.ownsRow (w.heap.size + 1) 74 7 iv k (flat7 (fun i j => C (p + i) j) k)) ∧ Hid (wr.heap[B]? = some (.cells #[.int .i64 2, .int .i64 M.id, .int .i64 t, .int .i64 M.term, .int .i64 p, .int .i64 (termF M.log p), iv, .int .i64 M.commit, .bool false] 30 (0, 0)) ∧ wr.heap[g]? = some (.cells #[.int .i64 M.id, .int .i64 M.term, .int .i64 M.vote, .slice la M.log.length lc, .int .i64 M.commit, .int .i64 M.role, .int .i64 M.lead, .int .i64 M.wait, bv, .slice (some ⟨nb, no, none⟩) M.next.length nc, mv] 34 (0, 0)) ∧ wr.heap[w.heap.size]? = some (.cells #[.int .i64 0, .int .i64 0, .int .i64 0, .int .i64 0, .int .i64 0, .int .i64 0, .slice none 0 0, .int .i64 0, .bool false] 30 (0, 0)) ∧ Below w.heap.size w wr ∧ B < wr.heap.size)) (fun i _ => 400 + 1 - (intOf i).toNat)
  case atStart => exact ⟨0, by omega, by omega, by simp, .slice none 0 0, World.ownsRow_nil _ _ _ _, HW0⟩
  case round =>
    obtain ⟨k, hk4, hkn, rfl, iv, hrow, hw⟩ := hrel
    obtain ⟨Q2, P2, R2, B2, hBs⟩ := hw.out
    have hsh : ∃ a5 c5, iv = .slice a5 k c5 := by
      rcases hrow.out.2 with ⟨rfl, h0⟩ | ⟨gg, cap, cur, rfl, _⟩
      · exact ⟨none, 0, by rw [h0]⟩
      · exact ⟨_, _, rfl⟩
    obtain ⟨a5, c5, rfl⟩ := hsh
    have P2' : wr.heap[g]? = some (.cells #[.int .i64 M.id, .int .i64 M.term, .int .i64 M.vote, .slice la nn lc, .int .i64 M.commit, .int .i64 M.role, .int .i64 M.lead, .int .i64 M.wait, bv, .slice (some ⟨nb, no, none⟩) M.next.length nc, mv] 34 (0, 0)) := by rw [HNN.out]; exact P2
    obtain ⟨x3, _⟩ := at_block P2' 3 _ rfl
    obtain ⟨x6, _⟩ := at_block Q2 6 _ rfl
    by_cases hmore : p + k < nn ∧ k < 4
    · obtain ⟨hm1, hm2⟩ := hmore
      have hm3 : (p : Int) + k < nn := by omega
      have hm4 : (k : Int) < 4 := by omega
      obtain ⟨b, o, rfl, hbl, hc⟩ := H3.out (by have := HNN.out; omega)
      obtain ⟨d, hd⟩ : ∃ d, M.log[p + k]? = some d := ⟨_, List.getElem?_eq_getElem (by have := HNN.out; omega)⟩
      obtain ⟨e0, e1, e2, e3, e4, e5, e6⟩ := HC.out _ d hd
      have X := ext_below B2
      have d0 := World.grownBy.cell X (hc (p + k) (by have := HNN.out; omega) 0 (by omega)) (by simp)
      have d1 := World.grownBy.cell X (hc (p + k) (by have := HNN.out; omega) 1 (by omega)) (by simp)
      have d2 := World.grownBy.cell X (hc (p + k) (by have := HNN.out; omega) 2 (by omega)) (by simp)
      have d3 := World.grownBy.cell X (hc (p + k) (by have := HNN.out; omega) 3 (by omega)) (by simp)
      have d4 := World.grownBy.cell X (hc (p + k) (by have := HNN.out; omega) 4 (by omega)) (by simp)
      have d5 := World.grownBy.cell X (hc (p + k) (by have := HNN.out; omega) 5 (by omega)) (by simp)
      have d6 := World.grownBy.cell X (hc (p + k) (by have := HNN.out; omega) 6 (by omega)) (by simp)
      obtain ⟨u4, v4, ev4, _, _, _⟩ := e4
      obtain ⟨u5, v5, ev5, _, _, _⟩ := e5
      have HCV : Hid (C (p + k) 0 = .int .i64 d.term ∧ C (p + k) 1 = .int .i64 d.cmd.client ∧ C (p + k) 2 = .int .i64 d.cmd.req ∧ C (p + k) 3 = .int .i64 d.cmd.op.kind ∧ C (p + k) 4 = .slice u4 d.cmd.op.key.length v4 ∧ C (p + k) 5 = .slice u5 d.cmd.op.val.length v5 ∧ C (p + k) 6 = .int .i64 d.cmd.op.n) := ⟨e0, e1, e2, e3, ev4, ev5, e6⟩
      rw [Nat.add_zero, e0] at d0
      rw [e1] at d1
      rw [e2] at d2
      rw [e3] at d3
      rw [ev4] at d4
      rw [ev5] at d5
      rw [e6] at d6
      clear hc e0 e1 e2 e3 ev4 ev5 e6
      generalize d.cmd.op.key.length = l4 at *
      generalize d.cmd.op.val.length = l5 at *
      obtain ⟨j, hj⟩ : ∃ j, j = p + k := ⟨_, rfl⟩
      have hji : (p : Int) + k = (j : Int) := by omega
      rw [← hj] at d0 d1 d2 d3 d4 d5 d6
      rw [hji]
      have hj3 : (j : Int) < nn := by omega
      have hj5 : (j : Int) ≤ 400 := by have := HNN.out; omega
      have HJ : Hid (j = p + k) := hj
      clear hm3 hji hj
      have hBg : B ≠ g := by omega
      have HRW : Hid (∀ ob, (wr.drew.alloc ob).ownsRow (w.heap.size + 1) 74 7 (.slice a5 k c5) k (flat7 (fun i j => C (p + i) j) k)) := fun ob => World.ownsRow.kept (w := wr.drew) hrow.out (hE wr.drew ob) (by cases hv : Value.ownBlock (.slice a5 k c5) <;> simp)
      have HCL : Hid (∀ (j : Nat) u, [.int .i64 d.term, .int .i64 d.cmd.client, .int .i64 d.cmd.req, .int .i64 d.cmd.op.kind, .slice u4 l4 v4, .slice u5 l5 v5, .int .i64 d.cmd.op.n][j]? = some u → (wr.drew.alloc (.cells #[.int .i64 d.term, .int .i64 d.cmd.client, .int .i64 d.cmd.req, .int .i64 d.cmd.op.kind, .slice u4 l4 v4, .slice u5 l5 v5, .int .i64 d.cmd.op.n] 74 (0, 0))).cell? ⟨wr.heap.size, j, none⟩ = some u) := fun j u hu => by
        have := cell_of_row _ _ j _ _ _ (heap_alloc_new wr.drew (.cells #[.int .i64 d.term, .int .i64 d.cmd.client, .int .i64 d.cmd.req, .int .i64 d.cmd.op.kind, .slice u4 l4 v4, .slice u5 l5 v5, .int .i64 d.cmd.op.n] 74 (0, 0)))
        rw [show wr.heap.size = wr.drew.heap.size from rfl, this]
        simpa using hu
      have HTY : Hid (∀ (w5 : World) (bb : Nat) (cur : Array Value) (ty : TypeId), ty ≠ 74 → wr.heap[bb]? = some (.cells cur ty (0, 0)) → (wr.drew.alloc (.cells #[.int .i64 d.term, .int .i64 d.cmd.client, .int .i64 d.cmd.req, .int .i64 d.cmd.op.kind, .slice u4 l4 v4, .slice u5 l5 v5, .int .i64 d.cmd.op.n] 74 (0, 0))).grownBy w5 (Value.ownBlock (.slice a5 k c5)) → w5.heap[bb]? = some (.cells cur ty (0, 0))) := fun w5 bb cur ty hty hbb hgr => by
        have hlt := (Array.getElem?_eq_some_iff.1 hbb).1
        refine (hgr.block bb (by simp; omega) ?_).trans ((Below.heap_alloc wr.drew _ bb hlt).trans hbb)
        intro e
        rcases hrow.out.2 with ⟨e0, _⟩ | ⟨gg, cap, cur', e0, _, hgb, _⟩
        · rw [e0] at e
          cases e
        · rw [e0] at e
          simp only [Value.ownBlock, Option.some.injEq] at e
          subst e
          rw [hgb] at hbb
          cases hbb
          exact hty rfl
      have HLO : Hid (∀ (w5 : World), (wr.drew.alloc (.cells #[.int .i64 d.term, .int .i64 d.cmd.client, .int .i64 d.cmd.req, .int .i64 d.cmd.op.kind, .slice u4 l4 v4, .slice u5 l5 v5, .int .i64 d.cmd.op.n] 74 (0, 0))).grownBy w5 (Value.ownBlock (.slice a5 k c5)) → Below w.heap.size w w5 ∧ wr.heap.size < w5.heap.size) := fun w5 hgr => by
        have hb1 : Below w.heap.size w (wr.drew.alloc (.cells #[.int .i64 d.term, .int .i64 d.cmd.client, .int .i64 d.cmd.req, .int .i64 d.cmd.op.kind, .slice u4 l4 v4, .slice u5 l5 v5, .int .i64 d.cmd.op.n] 74 (0, 0))) := (below_drewN B2 1).alloc B2.size _
        refine ⟨hb1.grown hgr hb1.size (fun kk hkk => ?_), ?_⟩
        · have := (World.ownsRow.lt hrow.out kk hkk).1
          omega
        · have := hgr.size
          simp at this
          omega
      have HFN : Hid (∀ v' : Value, ∀ w5 : World, w5.ownsRow (w.heap.size + 1) 74 7 v' (k + 1) (flat7 (fun i j => C (p + i) j) k ++ [.int .i64 d.term, .int .i64 d.cmd.client, .int .i64 d.cmd.req, .int .i64 d.cmd.op.kind, .slice u4 l4 v4, .slice u5 l5 v5, .int .i64 d.cmd.op.n]) → w5.ownsRow (w.heap.size + 1) 74 7 v' (k + 1) (flat7 (fun i j => C (p + i) j) (k + 1))) := fun v' w5 h5 => by
        have e : flat7 (fun i j => C (p + i) j) (k + 1) = flat7 (fun i j => C (p + i) j) k ++ [.int .i64 d.term, .int .i64 d.cmd.client, .int .i64 d.cmd.req, .int .i64 d.cmd.op.kind, .slice u4 l4 v4, .slice u5 l5 v5, .int .i64 d.cmd.op.n] := by
          obtain ⟨e0, e1, e2, e3, e4, e5, e6⟩ := HCV.out
          simp only [flat7, e0, e1, e2, e3, e4, e5, e6]
        rw [e]
        exact h5
      go_wp2_with fail
      go_region_law (refine step_append_it rfl (.tmp 51) (.tmp 59) rfl (w.heap.size + 1) (.slice a5 k c5) k (flat7 (fun i j => C (p + i) j) k) rfl (HRW.out _) wr.heap.size [.int .i64 d.term, .int .i64 d.cmd.client, .int .i64 d.cmd.req, .int .i64 d.cmd.op.kind, .slice u4 l4 v4, .slice u5 l5 v5, .int .i64 d.cmd.op.n] rfl rfl HCL.out (by simp [Value.oneCell']) (by omega) (by simp; have := B2.size; omega) ?_; intro v7 w7 r7 g7; have r7' : Hid (w7.ownsRow (w.heap.size + 1) 74 7 v7 (k + 1) (flat7 (fun i j => C (p + i) j) (k + 1))) := HFN.out v7 w7 r7; have hsh7 : ∃ a7 c7, v7 = .slice a7 (k + 1) c7 := (by rcases r7.2 with ⟨_, h0⟩ | ⟨gg, cap, cur, e7, _⟩; exact absurd h0 (by omega); exact ⟨_, _, e7⟩); obtain ⟨a7, c7, rfl⟩ := hsh7; have QB := HTY.out w7 B _ 30 (by decide) Q2 g7; obtain ⟨z6, f6⟩ := at_block QB 6 _ rfl)
      all_goals
        have QG := HTY.out w7 g _ 34 (by decide) P2 g7
        have QR := HTY.out w7 w.heap.size _ 30 (by decide) R2 g7
        have QL := HLO.out w7 g7
        have HQ7 : Hid ((w7.setCell ⟨B, 6, none⟩ (.slice a7 (k + 1) c7)).ownsRow (w.heap.size + 1) 74 7 (.slice a7 (k + 1) c7) (k + 1) (flat7 (fun i j => C (p + i) j) (k + 1))) := World.ownsRow.kept (w := w7) r7'.out (set_grown w7 B 6 _) (by
          right
          intro e
          rcases r7'.out.2 with ⟨e0, _⟩ | ⟨gg, cap, cur', e0, _, hgb, _⟩
          · rw [e0] at e
            cases e
          · rw [e0] at e
            simp only [Value.ownBlock, Option.some.injEq] at e
            subst e
            rw [hgb] at QB
            cases QB)
        have HQB := set_block QB 6 (.slice a7 (k + 1) c7)
        have HQG := set_other B 6 (.slice a7 (k + 1) c7) (Ne.symm hBg) QG
        have HQR := set_other B 6 (.slice a7 (k + 1) c7) (show w.heap.size ≠ B by omega) QR
        have HQL : Below w.heap.size w (w7.setCell ⟨B, 6, none⟩ (.slice a7 (k + 1) c7)) := QL.1.setCell (by show w.heap.size ≤ B; omega) _
        have HQS : B < (w7.setCell ⟨B, 6, none⟩ (.slice a7 (k + 1) c7)).heap.size := (Array.getElem?_eq_some_iff.1 HQB).1
        have HALL : Hid _ := (⟨HQB, HQG, HQR, HQL, HQS⟩ : _ ∧ _ ∧ _ ∧ _ ∧ _)
        clear HQB HQG HQR HQL HQS QG QR QL QB z6 f6 r7
        go_wp2_with fail
        go_roundw
        case rel => exact ⟨k + 1, by omega, by have := HNN.out; omega, by have := HJ.out; congr 1; omega, _, HQ7, HALL⟩
        case measure => simp [intOf]; have := HJ.out; omega
    · have HLEN : Hid (((M.log.drop p).take 4).length = k) := by
        show _ = _
        have := HNN.out
        rw [List.length_take, List.length_drop]
        omega
      have HVI : Hid (∀ W, W.ownsRow (w.heap.size + 1) 74 7 (.slice a5 k c5) k (flat7 (fun i j => C (p + i) j) k) → Below w.heap.size w W → VItems W (.slice a5 k c5) ((M.log.drop p).take 4)) := fun W hW hBW => by
        refine ⟨fun i j => C (p + i) j, ?_, fun i d hd => ?_⟩
        · rw [HLEN.out]
          rcases hW.2 with ⟨e0, h0⟩ | ⟨gg, cap, cur, e0, _, hgb, hnc, hcm, hcs, htake⟩
          · cases e0
            exact ⟨none, 0, rfl, Nat.le_refl _, Nat.zero_le _, fun h => absurd h (by omega)⟩
          · cases e0
            refine ⟨_, _, rfl, hnc, hcm, fun _ => ⟨gg, 0, rfl, (Array.getElem?_eq_some_iff.1 hgb).1, fun i hi j hj => ?_⟩⟩
            rw [Nat.zero_add, hW.cellAt (i * 7 + j) (by omega), flat7_get _ _ i j hi hj]
        · have hi := (List.getElem?_eq_some_iff.1 hd).1
          rw [HLEN.out] at hi
          have hd2 : M.log[p + i]? = some d := by
            rw [List.getElem?_take_of_lt (by omega), List.getElem?_drop] at hd
            exact hd
          obtain ⟨e0, e1, e2, e3, e4, e5, e6⟩ := HC.out _ d hd2
          exact ⟨e0, e1, e2, e3, e4.ext (ext_below hBW), e5.ext (ext_below hBW), e6⟩
      obtain ⟨m0, _⟩ := at_block Q2 0 _ rfl
      obtain ⟨m1, _⟩ := at_block Q2 1 _ rfl
      obtain ⟨m2, _⟩ := at_block Q2 2 _ rfl
      obtain ⟨m3, _⟩ := at_block Q2 3 _ rfl
      obtain ⟨m4, _⟩ := at_block Q2 4 _ rfl
      obtain ⟨m5, _⟩ := at_block Q2 5 _ rfl
      obtain ⟨m7, _⟩ := at_block Q2 7 _ rfl
      obtain ⟨m8, _⟩ := at_block Q2 8 _ rfl
      obtain ⟨r0, z0⟩ := at_block R2 0 _ rfl
      obtain ⟨r1, z1⟩ := at_block R2 1 _ rfl
      obtain ⟨r2, z2⟩ := at_block R2 2 _ rfl
      obtain ⟨r3, z3⟩ := at_block R2 3 _ rfl
      obtain ⟨r4, z4⟩ := at_block R2 4 _ rfl
      obtain ⟨r5, z5⟩ := at_block R2 5 _ rfl
      obtain ⟨r6, z6⟩ := at_block R2 6 _ rfl
      obtain ⟨r7, z7⟩ := at_block R2 7 _ rfl
      obtain ⟨r8, z8⟩ := at_block R2 8 _ rfl
      have HK1 : Hid (∀ (W : World), W.ownsRow (w.heap.size + 1) 74 7 (.slice a5 k c5) k (flat7 (fun i j => C (p + i) j) k) → ∀ j u, (W.setCell ⟨w.heap.size, j, none⟩ u).ownsRow (w.heap.size + 1) 74 7 (.slice a5 k c5) k (flat7 (fun i j => C (p + i) j) k)) := fun W hW j u => World.ownsRow.kept (w := W) hW (set_grown W w.heap.size j u) (by
        right
        intro e
        have := (World.ownsRow.lt hW _ e).1
        omega)
      have hcond : (¬ ((p : Int) + k < nn)) ∨ ((p : Int) + k < nn ∧ ¬ ((k : Int) < 4)) := by omega
      rcases hcond with hc1 | ⟨hc1, hc2⟩
      all_goals
        go_wp2_with fail
        refine bodyPost_ret (v := .agg #[.int .i64 2, .int .i64 M.id, .int .i64 t, .int .i64 M.term, .int .i64 p, .int .i64 (termF M.log p), .slice a5 k c5, .int .i64 M.commit, .bool false]) (by simp [results, Try.results18, go_sem, r0, r1, r2, r3, r4, r5, r6, r7, r8]) rfl ?_
        have hy : w.heap.size ≤ w.heap.size := Nat.le_refl _
        have BF := ((((((((B2.setCell (p := ⟨w.heap.size, 0, none⟩) hy (.int .i64 2)).setCell (p := ⟨w.heap.size, 1, none⟩) hy (.int .i64 M.id)).setCell (p := ⟨w.heap.size, 2, none⟩) hy (.int .i64 t)).setCell (p := ⟨w.heap.size, 3, none⟩) hy (.int .i64 M.term)).setCell (p := ⟨w.heap.size, 4, none⟩) hy (.int .i64 p)).setCell (p := ⟨w.heap.size, 5, none⟩) hy (.int .i64 (termF M.log p))).setCell (p := ⟨w.heap.size, 6, none⟩) hy (.slice a5 k c5)).setCell (p := ⟨w.heap.size, 7, none⟩) hy (.int .i64 M.commit)).setCell (p := ⟨w.heap.size, 8, none⟩) hy (.bool false)
        exact ⟨_, rfl, HVI.out _ (HK1.out _ (HK1.out _ (HK1.out _ (HK1.out _ (HK1.out _ (HK1.out _ (HK1.out _ (HK1.out _ (HK1.out _ hrow.out _ _) _ _) _ _) _ _) _ _) _ _) _ _) _ _) _ _) BF, BF⟩

end Go.Proofs.Ytdcbajejgphlgaa

namespace Go.Proofs.Ytdcbajejgphlgaa
open Go.RowKit

/-- It leads, and the other one is another server. -/
def AdP (M : DNode) (s z : Int) : Prop := NodeP M s ∧ M.role = 2 ∧ 0 ≤ z ∧ z < s ∧ z ≠ M.id
def adY (M : DNode) (z : Int) : DMsg := ⟨2, M.id, z, M.term, M.next.getD z.toNat 0 - 1, termF M.log (M.next.getD z.toNat 0 - 1), (M.log.drop (M.next.getD z.toNat 0 - 1).toNat).take 4, M.commit, false⟩
def zeroM : DMsg := ⟨0, 0, 0, 0, 0, 0, [], 0, false⟩
def adD (M : DNode) (s z : Int) (h : Decidable (AdP M s z) := Classical.propDecidable (AdP M s z)) : DMsg := @ite _ (AdP M s z) h (adY M z) zeroM
theorem adD_yes {M : DNode} {s z : Int} (h : AdP M s z) : adD M s z = adY M z := by unfold adD; exact if_pos h
theorem adD_no {M : DNode} {s z : Int} (h : ¬ AdP M s z) : adD M s z = zeroM := by unfold adD; exact if_neg h
abbrev msgV (D : DMsg) (iv : Value) : Value := .agg #[.int .i64 D.kind, .int .i64 D.from_, .int .i64 D.dst, .int .i64 D.term, .int .i64 D.prev, .int .i64 D.prevTerm, iv, .int .i64 D.commit, .bool D.yes]

def AdPost (M : DNode) (s z : Int) (w : World) (e : Ending) (w' : World) : Prop :=
  ∃ a c F, e = .returned (.tuple #[msgV (adD M s z) (.slice a (adD M s z).items.length c), .bool (tB (AdP M s z))]) ∧ IG w.heap.size w' (.slice a (adD M s z).items.length c) (adD M s z).items F ∧ Below w.heap.size w w'

/-- Where it leads, what stands at the other's place of Next. -/
theorem ad_next {M : DNode} {s z : Int} (h : AdP M s z) : ∃ t p : Nat, z = t ∧ M.next[t]? = some ((p : Int) + 1) ∧ p ≤ M.log.length ∧ M.log.length ≤ 400 ∧ M.next.getD z.toNat 0 - 1 = (p : Int) := by
  obtain ⟨⟨h1, h2, h3, h4, h5⟩, hr, h0, hs, hne⟩ := h
  obtain ⟨_, _, _, _, hlog, _, _, _, _, hv, hn, hm⟩ := h1
  obtain ⟨t, rfl⟩ : ∃ t : Nat, z = t := ⟨z.toNat, by omega⟩
  have ht1 : t < M.next.length := by omega
  have ht2 : t < M.votes.length := by omega
  have ht3 : t < M.mat.length := by omega
  have hx := h4 t ht2 _ _ _ (List.getElem?_eq_getElem ht2) (List.getElem?_eq_getElem ht1) (List.getElem?_eq_getElem ht3)
  have hy := (hx.1 hr).1
  refine ⟨t, (M.next[t] - 1).toNat, rfl, ?_, by omega, hlog, ?_⟩
  · rw [List.getElem?_eq_getElem ht1]
    congr 1
    omega
  · have : M.next.getD (t : Int).toNat 0 = M.next[t] := by simp [List.getD, ht1]
    rw [this]
    omega

theorem ad_yes {M : DNode} {s : Int} {t p : Nat} {w w' : World} {a : Option Addr} {c : Nat} {IT : List DItem} {F : Nat → Nat → Value} (h : AdP M s t) (hp : M.next.getD (t : Int).toNat 0 - 1 = (p : Int)) (hIT : (M.log.drop p).take 4 = IT) (hi : IG w.heap.size w' (.slice a IT.length c) IT F) (hb : Below w.heap.size w w') : AdPost M s t w (.returned (.tuple #[.agg #[.int .i64 2, .int .i64 M.id, .int .i64 t, .int .i64 M.term, .int .i64 p, .int .i64 (termF M.log p), .slice a IT.length c, .int .i64 M.commit, .bool false], .bool true])) w' := by
  unfold AdPost
  rw [adD_yes h, tB_true h]
  unfold adY
  rw [hp, Int.toNat_natCast, hIT]
  exact ⟨a, c, F, rfl, hi, hb⟩
theorem ad_no {M : DNode} {s z : Int} {w w' : World} (h : ¬ AdP M s z) (hb : Below w.heap.size w w') : AdPost M s z w (.returned (.tuple #[.agg #[.int .i64 0, .int .i64 0, .int .i64 0, .int .i64 0, .int .i64 0, .int .i64 0, .slice none 0 0, .int .i64 0, .bool false], .bool false])) w' := by
  unfold AdPost
  rw [adD_no h, tB_false h]
  exact ⟨none, 0, fun _ _ => .bool false, rfl, IG.nil _ _ _, hb⟩

set_option maxRecDepth 20000 in
set_option maxHeartbeats 4000000 in
theorem iAddForV (v : Value) (M : DNode) (s z : Int) (w : World) (h : VNode w v M) (hL : ∀ (i : Nat) s, M.log[i]? = some s → s.cmd.op.key.length ≤ 2097152 ∧ s.cmd.op.val.length ≤ 2097152) :
    Calls Try.prog 7 #[v, .int .i64 s, .int .i64 z] w (AdPost M s z w) := by
  have hE : ∀ w : World, ∀ o, Ext w (w.alloc o) := fun w o => World.grownBy_alloc _ _ _
  have h0 : Hid (VNode w v M) := h
  have HL : Hid (∀ (i : Nat) s, M.log[i]? = some s → s.cmd.op.key.length ≤ 2097152 ∧ s.cmd.op.val.length ≤ 2097152) := hL
  obtain ⟨lv, bv, nv, mv, rfl, h1, h2, h3, h4⟩ := h
  have HV : Hid (VItems w lv M.log ∧ VL fB w bv M.votes ∧ VL fI w nv M.next ∧ VL fI w mv M.mat) := ⟨h1, h2, h3, h4⟩
  clear hL h1 h2 h3 h4
  obtain ⟨nb, hnb⟩ : ∃ nb, nb = tB (NodeP M s) := ⟨_, rfl⟩
  have HNB : Hid (nb = tB (NodeP M s)) := hnb
  clear hnb
  go_enter Try.func7, Try.ntmps7
  go_wp2_with fail
  refine (iNodeOkP _ M s _ (h0.out.ext ((hE _ _).tr (hE _ _)))).mono ?_
  rw [← HNB.out]
  rintro e w1 ⟨rfl, b1⟩
  have P1 := below_blk b1 (by simp; omega) (k2_0 w (.cells #[.int .i64 M.id, .int .i64 M.term, .int .i64 M.vote, lv, .int .i64 M.commit, .int .i64 M.role, .int .i64 M.lead, .int .i64 M.wait, bv, nv, mv] 34) (.cells #[.int .i64 0, .int .i64 0, .int .i64 0, .int .i64 0, .int .i64 0, .int .i64 0, .slice none 0 0, .int .i64 0, .bool false] 30 (0, 0)))
  have R1 := below_blk b1 (by simp) (k2_1 w (.cells #[.int .i64 M.id, .int .i64 M.term, .int .i64 M.vote, lv, .int .i64 M.commit, .int .i64 M.role, .int .i64 M.lead, .int .i64 M.wait, bv, nv, mv] 34) (.cells #[.int .i64 0, .int .i64 0, .int .i64 0, .int .i64 0, .int .i64 0, .int .i64 0, .slice none 0 0, .int .i64 0, .bool false] 30 (0, 0)))
  have B1 : Below w.heap.size w w1 := (((Below.refl _ w).alloc (Nat.le_refl _) _).alloc (by simp) _).trans (b1.mono (by simp; omega))
  have hs1 : w.heap.size + 1 < w1.heap.size := (Array.getElem?_eq_some_iff.1 R1).1
  obtain ⟨p0, _⟩ := at_block P1 0 _ rfl
  obtain ⟨p1, _⟩ := at_block P1 1 _ rfl
  obtain ⟨p2, _⟩ := at_block P1 2 _ rfl
  obtain ⟨p3, _⟩ := at_block P1 3 _ rfl
  obtain ⟨p4, _⟩ := at_block P1 4 _ rfl
  obtain ⟨p5, _⟩ := at_block P1 5 _ rfl
  obtain ⟨p6, _⟩ := at_block P1 6 _ rfl
  obtain ⟨p7, _⟩ := at_block P1 7 _ rfl
  obtain ⟨p8, _⟩ := at_block P1 8 _ rfl
  obtain ⟨p9, _⟩ := at_block P1 9 _ rfl
  obtain ⟨p10, _⟩ := at_block P1 10 _ rfl
  obtain ⟨r0, z0⟩ := at_block R1 0 _ rfl
  obtain ⟨r1, z1⟩ := at_block R1 1 _ rfl
  obtain ⟨r2, z2⟩ := at_block R1 2 _ rfl
  obtain ⟨r3, z3⟩ := at_block R1 3 _ rfl
  obtain ⟨r4, z4⟩ := at_block R1 4 _ rfl
  obtain ⟨r5, z5⟩ := at_block R1 5 _ rfl
  obtain ⟨r6, z6⟩ := at_block R1 6 _ rfl
  obtain ⟨r7, z7⟩ := at_block R1 7 _ rfl
  obtain ⟨r8, z8⟩ := at_block R1 8 _ rfl
  have hy : w.heap.size ≤ w.heap.size + 1 := by omega
  clear b1
  cases nb with
  | false =>
    have HNO : Hid (¬ AdP M s z) := fun hh => by
      have := HNB.out
      rw [tB_true hh.1] at this
      cases this
    go_wp2_with fail
    refine bodyPost_ret (v := .tuple #[.agg #[.int .i64 0, .int .i64 0, .int .i64 0, .int .i64 0, .int .i64 0, .int .i64 0, .slice none 0 0, .int .i64 0, .bool false], .bool false]) (by simp [results, Try.results7, go_sem, r0, r1, r2, r3, r4, r5, r6, r7, r8]) rfl ?_
    exact ad_no HNO.out ((((((((((B1.setCell hy _).setCell hy _).setCell hy _).setCell hy _).setCell hy _).setCell hy _).setCell hy _).setCell hy _).setCell hy _))
  | true =>
    have HOK : Hid (NodeP M s) := tB_iff.1 HNB.out.symm
    have hsb := HOK.out.1.1
    by_cases hrole : M.role = 2
    case neg =>
      have HNO : Hid (¬ AdP M s z) := fun hh => hrole hh.2.1
      have hrr : (M.role != 2) = true := by simpa using hrole
      go_wp2_with fail
      refine bodyPost_ret (v := .tuple #[.agg #[.int .i64 0, .int .i64 0, .int .i64 0, .int .i64 0, .int .i64 0, .int .i64 0, .slice none 0 0, .int .i64 0, .bool false], .bool false]) (by simp [results, Try.results7, go_sem, r0, r1, r2, r3, r4, r5, r6, r7, r8]) rfl ?_
      exact ad_no HNO.out ((((((((((B1.setCell hy _).setCell hy _).setCell hy _).setCell hy _).setCell hy _).setCell hy _).setCell hy _).setCell hy _).setCell hy _))
    have hrr : (M.role != 2) = false := by simpa using hrole
    by_cases hrange : 0 ≤ z ∧ z < s
    case neg =>
      have HNO : Hid (¬ AdP M s z) := fun hh => hrange ⟨hh.2.2.1, hh.2.2.2.1⟩
      have HSO : Hid (srvB z s = false) := by
        show _ = _
        cases hb : srvB z s with
        | false => rfl
        | true =>
          exfalso
          simp only [srvB, inB, Bool.and_eq_true, decide_eq_true_eq] at hb
          omega
      go_wp2_with (go_at_call 23; refine (serverOkV _ _ _).mono ?_; rintro e w2 ⟨rfl, rfl⟩; rw [HSO.out])
      refine bodyPost_ret (v := .tuple #[.agg #[.int .i64 0, .int .i64 0, .int .i64 0, .int .i64 0, .int .i64 0, .int .i64 0, .slice none 0 0, .int .i64 0, .bool false], .bool false]) (by simp [results, Try.results7, go_sem, r0, r1, r2, r3, r4, r5, r6, r7, r8]) rfl ?_
      exact ad_no HNO.out ((((((((((B1.setCell hy _).setCell hy _).setCell hy _).setCell hy _).setCell hy _).setCell hy _).setCell hy _).setCell hy _).setCell hy _))
    obtain ⟨hz0, hz1⟩ := hrange
    have HSO : Hid (srvB z s = true) := by
      show _ = _
      simp only [srvB, inB, Bool.and_eq_true, decide_eq_true_eq]
      omega
    by_cases hid : z = M.id
    · have HNO : Hid (¬ AdP M s z) := fun hh => hh.2.2.2.2 hid
      have hii : (z == M.id) = true := by simpa using hid
      clear hid
      go_wp2_with (go_at_call 23; refine (serverOkV _ _ _).mono ?_; rintro e w2 ⟨rfl, rfl⟩; rw [HSO.out])
      refine bodyPost_ret (v := .tuple #[.agg #[.int .i64 0, .int .i64 0, .int .i64 0, .int .i64 0, .int .i64 0, .int .i64 0, .slice none 0 0, .int .i64 0, .bool false], .bool false]) (by simp [results, Try.results7, go_sem, r0, r1, r2, r3, r4, r5, r6, r7, r8]) rfl ?_
      exact ad_no HNO.out ((((((((((B1.setCell hy _).setCell hy _).setCell hy _).setCell hy _).setCell hy _).setCell hy _).setCell hy _).setCell hy _).setCell hy _))
    · have HYES : Hid (AdP M s z) := ⟨HOK.out, hrole, hz0, hz1, hid⟩
      have hii : (z == M.id) = false := by simpa using hid
      obtain ⟨t, p, hzt, hnx, hpl, hll, hgd⟩ := ad_next HYES.out
      subst hzt
      have HNX : Hid (M.next[t]? = some ((p : Int) + 1) ∧ p ≤ M.log.length ∧ M.log.length ≤ 400 ∧ M.next.getD (t : Int).toNat 0 - 1 = (p : Int)) := ⟨hnx, hpl, hll, hgd⟩
      clear hnx hpl hll hgd hrole
      have X1 := ext_below B1
      go_wp2_with (go_at_call 23; refine (serverOkV _ _ _).mono ?_; rintro e w2 ⟨rfl, rfl⟩; rw [HSO.out])
      refine (serverOfV M _ _ _ _ _ (HV.out.1.ext X1) (HV.out.2.1.ext X1) (HV.out.2.2.1.ext X1) (HV.out.2.2.2.ext X1)).mono ?_
      rintro e w3 ⟨g3, rfl, hg3, S3, b3⟩
      have B3 : Below w.heap.size w w3 := B1.trans (b3.mono B1.size)
      have R3 := below_blk b3 hs1 R1
      have X3 := ext_below B3
      have hs3 : w.heap.size + 1 < w3.heap.size := (Array.getElem?_eq_some_iff.1 R3).1
      clear b3 r0 r1 r2 r3 r4 r5 r6 r7 r8 z0 z1 z2 z3 z4 z5 z6 z7 z8
      go_wp2_with fail
      refine (addForV g3 t p M _ _ _ _ _ w3 S3 (HV.out.1.ext X3) (HV.out.2.2.1.ext X3) HNX.out.1 HNX.out.2.1 HNX.out.2.2.1 HL.out).mono ?_
      rintro e w4 ⟨iv, F, rfl, g4, b4⟩
      obtain ⟨a4, c4, rfl⟩ := g4.shape
      have R4 := below_blk b4 hs3 R3
      have B4 : Below w.heap.size w w4 := B3.trans (b4.mono B3.size)
      obtain ⟨r0, z0⟩ := at_block R4 0 _ rfl
      obtain ⟨r1, z1⟩ := at_block R4 1 _ rfl
      obtain ⟨r2, z2⟩ := at_block R4 2 _ rfl
      obtain ⟨r3, z3⟩ := at_block R4 3 _ rfl
      obtain ⟨r4, z4⟩ := at_block R4 4 _ rfl
      obtain ⟨r5, z5⟩ := at_block R4 5 _ rfl
      obtain ⟨r6, z6⟩ := at_block R4 6 _ rfl
      obtain ⟨r7, z7⟩ := at_block R4 7 _ rfl
      obtain ⟨r8, z8⟩ := at_block R4 8 _ rfl
      have HG4 : Hid (IG (w.heap.size + 2) w4 (.slice a4 ((M.log.drop p).take 4).length c4) ((M.log.drop p).take 4) F) := g4.mono (by omega)
      clear g4 b4
      generalize hIT : (M.log.drop p).take 4 = IT at HG4 ⊢
      have HIT : Hid ((M.log.drop p).take 4 = IT) := hIT
      clear hIT
      go_wp2_with fail
      refine bodyPost_ret (v := .tuple #[.agg #[.int .i64 2, .int .i64 M.id, .int .i64 t, .int .i64 M.term, .int .i64 p, .int .i64 (termF M.log p), .slice a4 IT.length c4, .int .i64 M.commit, .bool false], .bool true]) (by simp [results, Try.results7, go_sem, r0, r1, r2, r3, r4, r5, r6, r7, r8]) rfl ?_
      have hx : w.heap.size + 1 < w.heap.size + 2 := by omega
      refine ad_yes HYES.out HNX.out.2.2.2 HIT.out ((((((((((HG4.out.set hx).set hx).set hx).set hx).set hx).set hx).set hx).set hx).set hx).mono (by omega)) (((((((((B4.setCell hy _).setCell hy _).setCell hy _).setCell hy _).setCell hy _).setCell hy _).setCell hy _).setCell hy _).setCell hy _)

end Go.Proofs.Ytdcbajejgphlgaa

namespace Go.Proofs.Ytdcbajejgphlgaa
open Go.RowKit

set_option maxRecDepth 20000 in
set_option maxHeartbeats 4000000 in
theorem sAddForV (v : Value) (M : DNode) (s z : Int) (w : World) (h : VNode w v M) (hL : ∀ (i : Nat) s, M.log[i]? = some s → s.cmd.op.key.length ≤ 2097152 ∧ s.cmd.op.val.length ≤ 2097152) :
    Calls Try.prog 5 #[v, .int .i64 s, .int .i64 z] w (AdPost M s z w) := by
  have hE : ∀ w : World, ∀ o, Ext w (w.alloc o) := fun w o => World.grownBy_alloc _ _ _
  have h0 : Hid (VNode w v M) := h
  have HL : Hid (∀ (i : Nat) s, M.log[i]? = some s → s.cmd.op.key.length ≤ 2097152 ∧ s.cmd.op.val.length ≤ 2097152) := hL
  obtain ⟨lv, bv, nv, mv, rfl, h1, h2, h3, h4⟩ := h
  have HV : Hid (VItems w lv M.log ∧ VL fB w bv M.votes ∧ VL fI w nv M.next ∧ VL fI w mv M.mat) := ⟨h1, h2, h3, h4⟩
  clear hL h1 h2 h3 h4
  obtain ⟨nb, hnb⟩ : ∃ nb, nb = tB (NodeP M s) := ⟨_, rfl⟩
  have HNB : Hid (nb = tB (NodeP M s)) := hnb
  clear hnb
  go_enter Try.func5, Try.ntmps5
  go_wp2_with fail
  refine (sNodeOkP M s _ _ (h0.out.ext ((hE _ _).tr (hE _ _)))).mono ?_
  rw [← HNB.out]
  rintro e w1 ⟨rfl, b1⟩
  have P1 := below_blk b1 (by simp; omega) (k2_0 w (.cells #[.int .i64 M.id, .int .i64 M.term, .int .i64 M.vote, lv, .int .i64 M.commit, .int .i64 M.role, .int .i64 M.lead, .int .i64 M.wait, bv, nv, mv] 34) (.cells #[.int .i64 0, .int .i64 0, .int .i64 0, .int .i64 0, .int .i64 0, .int .i64 0, .slice none 0 0, .int .i64 0, .bool false] 30 (0, 0)))
  have R1 := below_blk b1 (by simp) (k2_1 w (.cells #[.int .i64 M.id, .int .i64 M.term, .int .i64 M.vote, lv, .int .i64 M.commit, .int .i64 M.role, .int .i64 M.lead, .int .i64 M.wait, bv, nv, mv] 34) (.cells #[.int .i64 0, .int .i64 0, .int .i64 0, .int .i64 0, .int .i64 0, .int .i64 0, .slice none 0 0, .int .i64 0, .bool false] 30 (0, 0)))
  have B1 : Below w.heap.size w w1 := (((Below.refl _ w).alloc (Nat.le_refl _) _).alloc (by simp) _).trans (b1.mono (by simp; omega))
  have hs1 : w.heap.size + 1 < w1.heap.size := (Array.getElem?_eq_some_iff.1 R1).1
  obtain ⟨p0, _⟩ := at_block P1 0 _ rfl
  obtain ⟨p1, _⟩ := at_block P1 1 _ rfl
  obtain ⟨p2, _⟩ := at_block P1 2 _ rfl
  obtain ⟨p3, _⟩ := at_block P1 3 _ rfl
  obtain ⟨p4, _⟩ := at_block P1 4 _ rfl
  obtain ⟨p5, _⟩ := at_block P1 5 _ rfl
  obtain ⟨p6, _⟩ := at_block P1 6 _ rfl
  obtain ⟨p7, _⟩ := at_block P1 7 _ rfl
  obtain ⟨p8, _⟩ := at_block P1 8 _ rfl
  obtain ⟨p9, _⟩ := at_block P1 9 _ rfl
  obtain ⟨p10, _⟩ := at_block P1 10 _ rfl
  obtain ⟨r0, z0⟩ := at_block R1 0 _ rfl
  obtain ⟨r1, z1⟩ := at_block R1 1 _ rfl
  obtain ⟨r2, z2⟩ := at_block R1 2 _ rfl
  obtain ⟨r3, z3⟩ := at_block R1 3 _ rfl
  obtain ⟨r4, z4⟩ := at_block R1 4 _ rfl
  obtain ⟨r5, z5⟩ := at_block R1 5 _ rfl
  obtain ⟨r6, z6⟩ := at_block R1 6 _ rfl
  obtain ⟨r7, z7⟩ := at_block R1 7 _ rfl
  obtain ⟨r8, z8⟩ := at_block R1 8 _ rfl
  have hy : w.heap.size ≤ w.heap.size + 1 := by omega
  clear b1
  cases nb with
  | false =>
    have HNO : Hid (¬ AdP M s z) := fun hh => by
      have := HNB.out
      rw [tB_true hh.1] at this
      cases this
    go_wp2_with fail
    refine bodyPost_ret (v := .tuple #[.agg #[.int .i64 0, .int .i64 0, .int .i64 0, .int .i64 0, .int .i64 0, .int .i64 0, .slice none 0 0, .int .i64 0, .bool false], .bool false]) (by simp [results, Try.results5, go_sem, r0, r1, r2, r3, r4, r5, r6, r7, r8]) rfl ?_
    exact ad_no HNO.out ((((((((((B1.setCell hy _).setCell hy _).setCell hy _).setCell hy _).setCell hy _).setCell hy _).setCell hy _).setCell hy _).setCell hy _))
  | true =>
    have HOK : Hid (NodeP M s) := tB_iff.1 HNB.out.symm
    have hsb := HOK.out.1.1
    by_cases hrole : M.role = 2
    case neg =>
      have HNO : Hid (¬ AdP M s z) := fun hh => hrole hh.2.1
      have hrr : (M.role != 2) = true := by simpa using hrole
      go_wp2_with fail
      refine bodyPost_ret (v := .tuple #[.agg #[.int .i64 0, .int .i64 0, .int .i64 0, .int .i64 0, .int .i64 0, .int .i64 0, .slice none 0 0, .int .i64 0, .bool false], .bool false]) (by simp [results, Try.results5, go_sem, r0, r1, r2, r3, r4, r5, r6, r7, r8]) rfl ?_
      exact ad_no HNO.out ((((((((((B1.setCell hy _).setCell hy _).setCell hy _).setCell hy _).setCell hy _).setCell hy _).setCell hy _).setCell hy _).setCell hy _))
    have hrr : (M.role != 2) = false := by simpa using hrole
    by_cases hz0 : 0 ≤ z
    case neg =>
      have HNO : Hid (¬ AdP M s z) := fun hh => hz0 hh.2.2.1
      have hz0' : z < 0 := by omega
      clear hz0 hrole
      go_wp2_with fail
      refine bodyPost_ret (v := .tuple #[.agg #[.int .i64 0, .int .i64 0, .int .i64 0, .int .i64 0, .int .i64 0, .int .i64 0, .slice none 0 0, .int .i64 0, .bool false], .bool false]) (by simp [results, Try.results5, go_sem, r0, r1, r2, r3, r4, r5, r6, r7, r8]) rfl ?_
      exact ad_no HNO.out ((((((((((B1.setCell hy _).setCell hy _).setCell hy _).setCell hy _).setCell hy _).setCell hy _).setCell hy _).setCell hy _).setCell hy _))
    have hz0' : decide (z < 0) = false := decide_eq_false (by omega)
    have hz0n : ¬ (z < 0) := by omega
    by_cases hz1 : z < s
    case neg =>
      have HNO : Hid (¬ AdP M s z) := fun hh => hz1 hh.2.2.2.1
      have hz1' : s ≤ z := by omega
      clear hz1 hrole
      go_wp2_with fail
      refine bodyPost_ret (v := .tuple #[.agg #[.int .i64 0, .int .i64 0, .int .i64 0, .int .i64 0, .int .i64 0, .int .i64 0, .slice none 0 0, .int .i64 0, .bool false], .bool false]) (by simp [results, Try.results5, go_sem, r0, r1, r2, r3, r4, r5, r6, r7, r8]) rfl ?_
      exact ad_no HNO.out ((((((((((B1.setCell hy _).setCell hy _).setCell hy _).setCell hy _).setCell hy _).setCell hy _).setCell hy _).setCell hy _).setCell hy _))
    have hz1' : decide (s ≤ z) = false := decide_eq_false (by omega)
    have hz1n : ¬ (s ≤ z) := by omega
    by_cases hid : z = M.id
    · have HNO : Hid (¬ AdP M s z) := fun hh => hh.2.2.2.2 hid
      have hii : (z == M.id) = true := by simpa using hid
      clear hid hrole
      go_wp2_with fail
      refine bodyPost_ret (v := .tuple #[.agg #[.int .i64 0, .int .i64 0, .int .i64 0, .int .i64 0, .int .i64 0, .int .i64 0, .slice none 0 0, .int .i64 0, .bool false], .bool false]) (by simp [results, Try.results5, go_sem, r0, r1, r2, r3, r4, r5, r6, r7, r8]) rfl ?_
      exact ad_no HNO.out ((((((((((B1.setCell hy _).setCell hy _).setCell hy _).setCell hy _).setCell hy _).setCell hy _).setCell hy _).setCell hy _).setCell hy _))
    · have HYES : Hid (AdP M s z) := ⟨HOK.out, hrole, hz0, hz1, hid⟩
      have hii : (z == M.id) = false := by simpa using hid
      obtain ⟨t, p, hzt, hnx, hpl, hll, hgd⟩ := ad_next HYES.out
      subst hzt
      have HNX : Hid (M.next[t]? = some ((p : Int) + 1) ∧ p ≤ M.log.length ∧ M.log.length ≤ 400 ∧ M.next.getD (t : Int).toNat 0 - 1 = (p : Int)) := ⟨hnx, hpl, hll, hgd⟩
      clear hnx hpl hll hgd hrole
      have X1 := ext_below B1
      go_wp2_with fail
      refine (l4addV w.heap.size t p M _ _ _ _ w1 P1 (HV.out.1.ext X1) (HV.out.2.2.1.ext X1) HNX.out.1 HNX.out.2.1 HNX.out.2.2.1).mono ?_
      rintro e w3 ⟨iv, rfl, hiv, b3⟩
      obtain ⟨ia, ic, rfl⟩ := items_shape hiv
      have B3 : Below w.heap.size w w3 := B1.trans (b3.mono B1.size)
      have R3 := below_blk b3 hs1 R1
      have hs3 : w.heap.size + 1 < w3.heap.size := (Array.getElem?_eq_some_iff.1 R3).1
      clear b3 r0 r1 r2 r3 r4 r5 r6 r7 r8 z0 z1 z2 z3 z4 z5 z6 z7 z8 p0 p1 p2 p3 p4 p5 p6 p7 p8 p9 p10
      generalize hIT : (M.log.drop p).take 4 = IT at hiv ⊢
      have HIT : Hid ((M.log.drop p).take 4 = IT) := hIT
      have HLN : Hid (IT.length ≤ 1048576) := by show _ ≤ _; rw [← hIT, List.length_take]; omega
      have HLT : Hid (∀ (i : Nat) s, IT[i]? = some s → s.cmd.op.key.length ≤ 2097152 ∧ s.cmd.op.val.length ≤ 2097152) := by
        intro i s hs
        rw [← hIT] at hs
        have hm := List.mem_of_mem_take (List.mem_of_getElem? hs)
        obtain ⟨j, hj⟩ := List.getElem?_of_mem (List.mem_of_mem_drop hm)
        exact HL.out j s hj
      have HIV : Hid (∀ o, VItems (w3.alloc o) (.slice ia IT.length ic) IT) := fun o => hiv.ext (hE _ _)
      clear hIT hiv
      have HOM : Hid (∀ o, o = (.cells #[.int .i64 2, .int .i64 M.id, .int .i64 t, .int .i64 M.term, .int .i64 p, .int .i64 (termF M.log p), .slice ia IT.length ic, .int .i64 M.commit, .bool false] 30 (0, 0)) → Calls Try.prog 17 #[.slice (some ⟨w3.heap.size, 0, none⟩) 1 1] (w3.alloc o) (MsPost ⟨2, M.id, t, M.term, p, termF M.log p, IT, M.commit, false⟩ (w3.alloc o))) := fun o ho => by
        subst ho
        exact ownMsgsV w3.heap.size ⟨2, M.id, t, M.term, p, termF M.log p, IT, M.commit, false⟩ ia ic _ (heap_alloc_new w3 _) (HIV.out _) HLN.out HLT.out
      go_wp2_with fail
      refine (HOM.out _ rfl).mono ?_
      rintro e w4 ⟨g1, c1, a4, c4, F, rfl, hc1, hcl, g4, b4⟩
      have R4 := below_blk b4 (by simp; omega) ((Below.heap_alloc w3 _ _ hs3).trans R3)
      have B4 : Below w.heap.size w w4 := (B3.alloc B3.size _).trans (b4.mono (by have := B3.size; simp; omega))
      have y0 := hcl.out 0 _ rfl
      have y1 := hcl.out 1 _ rfl
      have y2 := hcl.out 2 _ rfl
      have y3 := hcl.out 3 _ rfl
      have y4 := hcl.out 4 _ rfl
      have y5 := hcl.out 5 _ rfl
      have y6 := hcl.out 6 _ rfl
      have y7 := hcl.out 7 _ rfl
      have y8 := hcl.out 8 _ rfl
      obtain ⟨r0, z0⟩ := at_block R4 0 _ rfl
      obtain ⟨r1, z1⟩ := at_block R4 1 _ rfl
      obtain ⟨r2, z2⟩ := at_block R4 2 _ rfl
      obtain ⟨r3, z3⟩ := at_block R4 3 _ rfl
      obtain ⟨r4, z4⟩ := at_block R4 4 _ rfl
      obtain ⟨r5, z5⟩ := at_block R4 5 _ rfl
      obtain ⟨r6, z6⟩ := at_block R4 6 _ rfl
      obtain ⟨r7, z7⟩ := at_block R4 7 _ rfl
      obtain ⟨r8, z8⟩ := at_block R4 8 _ rfl
      have HG4 : Hid (IG (w.heap.size + 2) w4 (.slice a4 IT.length c4) IT F) := g4.mono (by simp; omega)
      clear g4 b4 hcl
      go_wp2_with fail
      refine bodyPost_ret (v := .tuple #[.agg #[.int .i64 2, .int .i64 M.id, .int .i64 t, .int .i64 M.term, .int .i64 p, .int .i64 (termF M.log p), .slice a4 IT.length c4, .int .i64 M.commit, .bool false], .bool true]) (by simp [results, Try.results5, go_sem, r0, r1, r2, r3, r4, r5, r6, r7, r8]) rfl ?_
      have hx : w.heap.size + 1 < w.heap.size + 2 := by omega
      exact ad_yes HYES.out HNX.out.2.2.2 HIT.out ((((((((((HG4.out.set hx).set hx).set hx).set hx).set hx).set hx).set hx).set hx).set hx).mono (by omega)) (((((((((B4.setCell hy _).setCell hy _).setCell hy _).setCell hy _).setCell hy _).setCell hy _).setCell hy _).setCell hy _).setCell hy _)

end Go.Proofs.Ytdcbajejgphlgaa

namespace Go.Proofs.Ytdcbajejgphlgaa
open Go.RowKit

set_option maxHeartbeats 2000000 in
theorem markMs (lo : Nat) (D : DMsg) (a : Option Addr) (c : Nat) (F : Nat → Nat → Value) (w : World) (h : IG lo w (.slice a D.items.length c) D.items F) (hl : LogL D.items) (hls : lo ≤ w.heap.size) :
    Calls Try.prog 11 #[msgV D (.slice a D.items.length c), .int .i64 1] w fun e w' => e = .returned (.int .i64 (kI 1 D.items D.items.length)) ∧ LogM lo w' (.slice a D.items.length c) D.items ∧ Below lo w w' ∧ Oth2 w w' := by
  have hE : ∀ w : World, ∀ o, Ext w (w.alloc o) := fun w o => World.grownBy_alloc _ _ _
  have HM : Hid (∀ o, Calls Try.prog 29 #[.slice a D.items.length c, .int .i64 1] (w.alloc o) fun e w' => e = .returned (.int .i64 (kI 1 D.items D.items.length)) ∧ LogM lo w' (.slice a D.items.length c) D.items ∧ Below lo (w.alloc o) w' ∧ Oth2 (w.alloc o) w') := fun o => markLog lo _ D.items F (w.alloc o) (h.ext (hE _ _)) hl (by simp; omega)
  have HK : Hid (0 ≤ kI 1 D.items D.items.length ∧ kI 1 D.items D.items.length ≤ 50000001) := by
    have h1 := kI_le 1 D.items D.items.length (Nat.le_refl _)
    have h2 := hl.2.2
    exact ⟨by omega, by omega⟩
  generalize kI 1 D.items D.items.length = K at *
  have hk := HK.out
  go_enter Try.func11, Try.ntmps11
  go_wp2_with fail
  refine (HM.out _).mono ?_
  rintro e w1 ⟨rfl, m1, b1, o1⟩
  have HB : Hid (Below lo w w1) := ((Below.refl lo w).alloc hls _).trans b1
  have HO : Hid (Oth2 w w1) := fun b cur t h5 hI hc => o1 b cur t h5 hI ((Below.heap_alloc w _ b (Array.getElem?_eq_some_iff.1 hc).1).trans hc)
  have HM1 : Hid (LogM lo w1 (.slice a D.items.length c) D.items) := m1
  clear b1 o1 m1
  go_wp2_with fail
  go_ret
  exact ⟨rfl, HM1.out, HB.out, HO.out⟩

set_option maxHeartbeats 2000000 in
theorem heldMs (lo : Nat) (D : DMsg) (a : Option Addr) (c : Nat) (w : World) (h : LogM lo w (.slice a D.items.length c) D.items) (hl : LogL D.items) :
    Calls Try.prog 12 #[msgV D (.slice a D.items.length c), .int .i64 1] w fun e w' => e = .returned (.int .i64 (kI 1 D.items D.items.length)) ∧ Below w.heap.size w w' := by
  have hE : ∀ w : World, ∀ o, Ext w (w.alloc o) := fun w o => World.grownBy_alloc _ _ _
  have HM : Hid (∀ o, Calls Try.prog 32 #[.slice a D.items.length c, .int .i64 1] (w.alloc o) fun e w' => e = .returned (.int .i64 (kI 1 D.items D.items.length)) ∧ ∃ q, w' = (w.alloc o).drewN q) := fun o => heldLog lo _ D.items (w.alloc o) (h.ext (hE _ _)) hl
  have HK : Hid (0 ≤ kI 1 D.items D.items.length ∧ kI 1 D.items D.items.length ≤ 50000001) := by
    have h1 := kI_le 1 D.items D.items.length (Nat.le_refl _)
    have h2 := hl.2.2
    exact ⟨by omega, by omega⟩
  generalize kI 1 D.items D.items.length = K at *
  obtain ⟨hk0, hk1⟩ := HK.out
  have hk2 : ¬ (K < 0) := by omega
  go_enter Try.func12, Try.ntmps12
  go_wp2_with fail
  refine (HM.out _).mono ?_
  rintro e w1 ⟨rfl, q, rfl⟩
  go_wp2_with fail
  go_ret
  exact ⟨rfl, below_drewN ((Below.refl _ w).alloc (Nat.le_refl _) _) _⟩

theorem ad_mem {M : DNode} {s z : Int} {x : DItem} {i : Nat} (h : (adD M s z).items[i]? = some x) : ∃ j : Nat, M.log[j]? = some x := by
  by_cases hp : AdP M s z
  · rw [adD_yes hp] at h
    have hm := List.mem_of_mem_take (List.mem_of_getElem? h)
    exact List.getElem?_of_mem (List.mem_of_mem_drop hm)
  · rw [adD_no hp] at h
    simp [zeroM] at h
theorem ad_len (M : DNode) (s z : Int) : (adD M s z).items.length ≤ M.log.length := by
  by_cases hp : AdP M s z
  · rw [adD_yes hp]
    show ((M.log.drop _).take 4).length ≤ _
    rw [List.length_take, List.length_drop]
    omega
  · rw [adD_no hp]
    exact Nat.zero_le _
theorem ad_sum (M : DNode) (s z : Int) : sI (adD M s z).items ≤ sI M.log := by
  by_cases hp : AdP M s z
  · rw [adD_yes hp]
    show sI ((M.log.drop (M.next.getD z.toNat 0 - 1).toNat).take 4) ≤ _
    generalize (M.next.getD z.toNat 0 - 1).toNat = p
    have h1 := sum_take zI (M.log.drop p) 4
    have h2 : (M.log.map zI).sum = ((M.log.take p).map zI).sum + ((M.log.drop p).map zI).sum := by
      rw [← List.sum_append, ← List.map_append, List.take_append_drop]
    unfold sI
    omega
  · rw [adD_no hp]
    exact Nat.zero_le _
theorem ad_logL {M : DNode} (s z : Int) (h : LogL M.log) : LogL (adD M s z).items :=
  ⟨Nat.le_trans (ad_len M s z) h.1, fun i x hx => by
    obtain ⟨j, hj⟩ := ad_mem hx
    exact h.2.1 j x hj, by
    have := ad_len M s z
    have := ad_sum M s z
    have := h.2.2
    omega⟩

end Go.Proofs.Ytdcbajejgphlgaa

namespace Go.Proofs.Ytdcbajejgphlgaa
open Go.RowKit

/-- n marks from k on. -/
def mkL {α : Type} (m : Int → α) (k : Int) (n : Nat) : List α := (List.range n).map fun i : Nat => m (k + (i : Int))
theorem mkL_len {α : Type} (m : Int → α) (k : Int) (n : Nat) : (mkL m k n).length = n := by simp [mkL]
theorem mkL_get {α : Type} (m : Int → α) (k : Int) (n i : Nat) (h : i < n) : (mkL m k n)[i]? = some (m (k + i)) := by simp [mkL, h]
theorem mkL_set {α : Type} (m : Int → α) (f : α → Value) (k : Int) (xs : List α) (i : Nat) (h : i < xs.length) : ((mkL m k i ++ xs.drop i).map f).toArray.setIfInBounds i (f (m (k + i))) = ((mkL m k (i + 1) ++ xs.drop (i + 1)).map f).toArray := by
  rw [List.setIfInBounds_toArray, ← List.map_set]
  congr 2
  rw [List.set_append_right _ _ (by rw [mkL_len]; omega), mkL_len, Nat.sub_self, List.drop_eq_getElem_cons h, List.set_cons_zero]
  simp [mkL, List.range_succ]

set_option maxHeartbeats 2000000 in
theorem markL_I (g : Nat) (xs : List Int) (k : Int) (w : World) (h : OVL fI 3 w g xs) (hk0 : 0 ≤ k) (hk1 : k ≤ 1152921504606846976) (hn : xs.length ≤ 1048576) :
    Calls Try.prog 31 #[.slice (some ⟨g, 0, none⟩) xs.length xs.length, .int .i64 k] w fun e w' => e = .returned (.int .i64 (k + xs.length)) ∧ OVL fI 3 w' g (mkL (fun x : Int => x) k xs.length) ∧ w.grownBy w' (some g) := by
  obtain ⟨n, hnn⟩ : ∃ n, n = xs.length := ⟨_, rfl⟩
  rw [← hnn] at hn ⊢
  have HN : Hid (n = xs.length) := hnn
  clear hnn
  go_enter Try.func31, Try.ntmps31
  go_wp2
  go_loopw [1, 5] (fun kv i wr => ∃ i' : Nat, i' ≤ n ∧ i = .int .i64 i' ∧ kv = .int .i64 (k + i') ∧ wr.heap[g]? = some (.cells ((mkL (fun x : Int => x) k i' ++ xs.drop i').map fI).toArray 3 (0, 0)) ∧ w.grownBy wr (some g)) (fun _ i _ => n - (intOf i).toNat)
  case atStart => exact ⟨0, Nat.zero_le _, rfl, by simp, h, ⟨rfl, rfl, rfl, Nat.le_refl _, fun _ _ _ => rfl⟩⟩
  case round =>
    obtain ⟨i, hi, rfl, rfl, hb, hg⟩ := hrel
    by_cases hlt : i < n
    · have hl : ((mkL (fun x : Int => x) k i ++ xs.drop i).map fI).length = n := by simp [mkL_len]; have := HN.out; omega
      obtain ⟨c, hc⟩ : ∃ c, ((mkL (fun x : Int => x) k i ++ xs.drop i).map fI).toArray[i]? = some c := ⟨_, Array.getElem?_eq_getElem (by simp only [List.size_toArray]; omega)⟩
      obtain ⟨ck, cf⟩ := at_block hb i c hc
      have R := set_block hb i (.int .i64 (k + (i : Int)))
      have E := mkL_set (fun x : Int => x) fI k xs i (by have := HN.out; omega)
      have R2 : (wr.setCell ⟨g, i, none⟩ (.int .i64 (k + (i : Int)))).heap[g]? = some (.cells ((mkL (fun x : Int => x) k (i + 1) ++ xs.drop (i + 1)).map fI).toArray 3 (0, 0)) := by rw [← E]; exact R
      have HR : Hid _ := R2
      have HG : Hid (w.grownBy (wr.setCell ⟨g, i, none⟩ (.int .i64 (k + (i : Int)))) (some g)) := hg.trans (set_grown wr g i _)
      have hlt' : (i : Int) < (n : Int) := by omega
      clear R E R2 hb hg hc hl
      go_wp2
      go_roundw
      case rel => exact ⟨i + 1, by omega, by go_num, by go_num, HR.out, HG.out⟩
      case measure => simp [intOf]; omega
    · have hin : i = n := by omega
      subst hin
      go_wp2
      go_ret
      refine ⟨rfl, ?_, hg⟩
      rw [List.drop_of_length_le (by have := HN.out; omega), List.append_nil] at hb
      exact hb

set_option maxHeartbeats 1000000 in
theorem markNil_I (k : Int) (w : World) : Calls Try.prog 31 #[.slice none 0 0, .int .i64 k] w fun e w' => e = .returned (.int .i64 k) ∧ w' = w := by
  go_enter Try.func31, Try.ntmps31
  go_wp2
  go_loopw [1, 5] (fun kv i wr => i = .int .i64 0 ∧ kv = .int .i64 k ∧ wr = w) (fun _ _ _ => 0)
  case atStart => exact ⟨rfl, rfl, rfl⟩
  case round =>
    obtain ⟨rfl, rfl, rfl⟩ := hrel
    go_wp2
    go_ret
    exact ⟨rfl, rfl⟩
set_option maxHeartbeats 2000000 in
theorem markL_B (g : Nat) (xs : List Bool) (k : Int) (w : World) (h : OVL fB 4 w g xs) (hk0 : 0 ≤ k) (hk1 : k ≤ 1152921504606846976) (hn : xs.length ≤ 1048576) :
    Calls Try.prog 30 #[.slice (some ⟨g, 0, none⟩) xs.length xs.length, .int .i64 k] w fun e w' => e = .returned (.int .i64 (k + xs.length)) ∧ OVL fB 4 w' g (mkL (fun x : Int => x % 3 == 0) k xs.length) ∧ w.grownBy w' (some g) := by
  obtain ⟨n, hnn⟩ : ∃ n, n = xs.length := ⟨_, rfl⟩
  rw [← hnn] at hn ⊢
  have HN : Hid (n = xs.length) := hnn
  clear hnn
  go_enter Try.func30, Try.ntmps30
  go_wp2
  go_loopw [1, 5] (fun kv i wr => ∃ i' : Nat, i' ≤ n ∧ i = .int .i64 i' ∧ kv = .int .i64 (k + i') ∧ wr.heap[g]? = some (.cells ((mkL (fun x : Int => x % 3 == 0) k i' ++ xs.drop i').map fB).toArray 4 (0, 0)) ∧ w.grownBy wr (some g)) (fun _ i _ => n - (intOf i).toNat)
  case atStart => exact ⟨0, Nat.zero_le _, rfl, by simp, h, ⟨rfl, rfl, rfl, Nat.le_refl _, fun _ _ _ => rfl⟩⟩
  case round =>
    obtain ⟨i, hi, rfl, rfl, hb, hg⟩ := hrel
    by_cases hlt : i < n
    · have hl : ((mkL (fun x : Int => x % 3 == 0) k i ++ xs.drop i).map fB).length = n := by simp [mkL_len]; have := HN.out; omega
      obtain ⟨c, hc⟩ : ∃ c, ((mkL (fun x : Int => x % 3 == 0) k i ++ xs.drop i).map fB).toArray[i]? = some c := ⟨_, Array.getElem?_eq_getElem (by simp only [List.size_toArray]; omega)⟩
      obtain ⟨ck, cf⟩ := at_block hb i c hc
      have R := set_block hb i (.bool ((k + (i : Int)) % 3 == 0))
      have E := mkL_set (fun x : Int => x % 3 == 0) fB k xs i (by have := HN.out; omega)
      have R2 : (wr.setCell ⟨g, i, none⟩ (.bool ((k + (i : Int)) % 3 == 0))).heap[g]? = some (.cells ((mkL (fun x : Int => x % 3 == 0) k (i + 1) ++ xs.drop (i + 1)).map fB).toArray 4 (0, 0)) := by rw [← E]; exact R
      have HR : Hid _ := R2
      have HG : Hid (w.grownBy (wr.setCell ⟨g, i, none⟩ (.bool ((k + (i : Int)) % 3 == 0))) (some g)) := hg.trans (set_grown wr g i _)
      have hlt' : (i : Int) < (n : Int) := by omega
      clear R E R2 hb hg hc hl
      go_wp2
      go_roundw
      case rel => exact ⟨i + 1, by omega, by go_num, by go_num, HR.out, HG.out⟩
      case measure => simp [intOf]; omega
    · have hin : i = n := by omega
      subst hin
      go_wp2
      go_ret
      refine ⟨rfl, ?_, hg⟩
      rw [List.drop_of_length_le (by have := HN.out; omega), List.append_nil] at hb
      exact hb

set_option maxHeartbeats 1000000 in
theorem markNil_B (k : Int) (w : World) : Calls Try.prog 30 #[.slice none 0 0, .int .i64 k] w fun e w' => e = .returned (.int .i64 k) ∧ w' = w := by
  go_enter Try.func30, Try.ntmps30
  go_wp2
  go_loopw [1, 5] (fun kv i wr => i = .int .i64 0 ∧ kv = .int .i64 k ∧ wr = w) (fun _ _ _ => 0)
  case atStart => exact ⟨rfl, rfl, rfl⟩
  case round =>
    obtain ⟨rfl, rfl, rfl⟩ := hrel
    go_wp2
    go_ret
    exact ⟨rfl, rfl⟩
end Go.Proofs.Ytdcbajejgphlgaa

namespace Go.Proofs.Ytdcbajejgphlgaa
open Go.RowKit

/-- Of the blocks that lay there only some of those from lo up to hi have turned: rows of bytes (their sizes have not), and the block og. -/
structure Mk (lo hi : Nat) (og : Option Nat) (w w' : World) : Prop where
  os : w'.os = w.os
  tape : w'.tape = w.tape
  output : w'.output = w.output
  size : w.heap.size ≤ w'.heap.size
  out : ∀ k, k < w.heap.size → (k < lo ∨ hi ≤ k) → w'.heap[k]? = w.heap[k]?
  byt : ∀ (k : Nat) (cur : Array Value), w.heap[k]? = some (.cells cur 5 (0, 0)) → ∃ cur' : Array Value, w'.heap[k]? = some (.cells cur' 5 (0, 0)) ∧ cur'.size = cur.size
  oth : ∀ (k : Nat) (cur : Array Value) (t : TypeId), t ≠ 5 → some k ≠ og → w.heap[k]? = some (.cells cur t (0, 0)) → w'.heap[k]? = some (.cells cur t (0, 0))

theorem Mk.re (lo hi : Nat) (og : Option Nat) (w : World) : Mk lo hi og w w := ⟨rfl, rfl, rfl, Nat.le_refl _, fun _ _ _ => rfl, fun _ cur h => ⟨cur, h, rfl⟩, fun _ _ _ _ _ h => h⟩
theorem Mk.tr {lo hi : Nat} {og : Option Nat} {a b c : World} (h : Mk lo hi og a b) (k : Mk lo hi og b c) : Mk lo hi og a c :=
  ⟨k.os.trans h.os, k.tape.trans h.tape, k.output.trans h.output, Nat.le_trans h.size k.size, fun i hi' ho => (k.out i (Nat.lt_of_lt_of_le hi' h.size) ho).trans (h.out i hi' ho),
   fun i cur hc => by
     obtain ⟨c1, h1, s1⟩ := h.byt i cur hc
     obtain ⟨c2, h2, s2⟩ := k.byt i c1 h1
     exact ⟨c2, h2, s2.trans s1⟩,
   fun i cur t ht ho hc => k.oth i cur t ht ho (h.oth i cur t ht ho hc)⟩
theorem Mk.some {lo hi : Nat} {og : Option Nat} {a b : World} (h : Mk lo hi none a b) : Mk lo hi og a b :=
  ⟨h.os, h.tape, h.output, h.size, h.out, h.byt, fun i cur t ht _ hc => h.oth i cur t ht (by simp) hc⟩

theorem mk_set {lo hi x j : Nat} {og : Option Nat} {w : World} {cur : Array Value} {t : TypeId} (u : Value) (hx : w.heap[x]? = some (.cells cur t (0, 0))) (h1 : lo ≤ x) (h2 : x < hi) (ht : t = 5 ∨ some x = og) : Mk lo hi og w (w.setCell ⟨x, j, none⟩ u) := by
  have hg := set_grown w x j u
  refine ⟨hg.os, hg.tape, hg.output, hg.size, fun k hk ho => hg.block k hk (by intro e; cases e; omega), fun k c hc => ?_, fun k c t' ht' ho hc => ?_⟩
  · by_cases e : k = x
    · subst e
      rw [hx] at hc
      cases hc
      exact ⟨_, set_block hx j u, by simp⟩
    · exact ⟨c, set_other x j u e hc, rfl⟩
  · by_cases e : k = x
    · subst e
      rw [hx] at hc
      cases hc
      rcases ht with rfl | rfl
      · exact absurd rfl ht'
      · exact absurd rfl ho
    · exact set_other x j u e hc

/-- A slice of bytes that may be marked: it lies in a block from lo up to hi. -/
def WB (lo hi : Nat) (w : World) (v : Value) : Prop :=
  v = .slice none 0 0 ∨ ∃ (g n cap : Nat) (cur : Array Value), v = .slice (some ⟨g, 0, none⟩) n cap ∧ lo ≤ g ∧ g < hi ∧ n ≤ cap ∧ cur.size = cap ∧ w.heap[g]? = some (.cells cur 5 (0, 0)) ∧ n ≤ 1048576

theorem WB.mk {lo hi : Nat} {og : Option Nat} {w w' : World} {v : Value} (h : WB lo hi w v) (k : Mk lo hi og w w') : WB lo hi w' v := by
  rcases h with h | ⟨g, n, cap, cur, rfl, h1, h2, h3, h4, h5, h6⟩
  · exact .inl h
  · obtain ⟨c', e1, e2⟩ := k.byt g cur h5
    exact .inr ⟨g, n, cap, c', rfl, h1, h2, h3, e2.trans h4, e1, h6⟩
theorem WB.of {lo : Nat} {w : World} {v : Value} {xs : List Int} {base : Nat} (h : Ow w base v xs) (hb : lo ≤ base) (hl : xs.length ≤ 1048576) : WB lo w.heap.size w v := by
  rcases h.2 with ⟨rfl, _⟩ | ⟨g, cap, cur, rfl, h1, h2, h3, h4, h5, _⟩
  · exact .inl rfl
  · exact .inr ⟨g, _, cap, cur, rfl, by omega, (Array.getElem?_eq_some_iff.1 h2).1, h3, by omega, h2, hl⟩
theorem WB.grown {lo hi : Nat} {w w' : World} {v : Value} (h : WB lo hi w v) (k : Ext w w') : WB lo hi w' v := by
  rcases h with h | ⟨g, n, cap, cur, rfl, h1, h2, h3, h4, h5, h6⟩
  · exact .inl h
  · exact .inr ⟨g, n, cap, cur, rfl, h1, h2, h3, h4, (k.block g (Array.getElem?_eq_some_iff.1 h5).1 (by simp)).trans h5, h6⟩

set_option maxHeartbeats 1000000 in
theorem markW (lo hi : Nat) (og : Option Nat) (v : Value) (k : Int) (w : World) (h : WB lo hi w v) (hk0 : 0 ≤ k) (hk : k ≤ 1152921504606846976) :
    Calls Try.prog 49 #[v, .int .i64 k] w fun e w' => ∃ n : Nat, n ≤ 1048576 ∧ e = .returned (.int .i64 (k + n)) ∧ Mk lo hi og w w' := by
  rcases h with rfl | ⟨g, n, cap, cur, rfl, h1, h2, h3, h4, h5, h6⟩
  · go_enter Try.func49, Try.ntmps49
    go_wp2
    refine wp_loop_rounds 1 ?_
    rw [rounds_succ]
    go_wp2
    go_ret
    exact ⟨0, by omega, by simp, Mk.re _ _ _ _⟩
  · have H5 : Hid (w.heap[g]? = some (.cells cur 5 (0, 0))) := h5
    have H4 : Hid (cur.size = cap) := h4
    clear h4 h5
    go_enter Try.func49, Try.ntmps49
    go_wp2
    go_loopw [1, 5] (fun q i wr => ∃ j : Nat, j ≤ n ∧ i = .int .i64 j ∧ q = .int .i64 (k + j) ∧ Mk lo hi og w wr) (fun _ i _ => n - (intOf i).toNat)
    case atStart => exact ⟨0, Nat.zero_le _, rfl, by go_num, Mk.re _ _ _ _⟩
    case round =>
      obtain ⟨j, hj, rfl, rfl, hm⟩ := hrel
      by_cases hlt : j < n
      · obtain ⟨c', e1, e2⟩ := hm.byt g cur H5.out
        obtain ⟨uu, huu⟩ : ∃ uu, c'[j]? = some uu := ⟨_, Array.getElem?_eq_getElem (by have := H4.out; omega)⟩
        obtain ⟨hu, hf⟩ := at_block e1 j uu huu
        have HM : Hid (∀ u, Mk lo hi og w (wr.setCell ⟨g, j, none⟩ u)) := fun u => hm.tr (mk_set u e1 h1 h2 (.inl rfl))
        clear e1 e2 hm huu
        go_wp2
        go_roundw
        case rel => exact ⟨j + 1, by omega, by go_num, by go_num, HM.out _⟩
        case measure => simp [intOf]; omega
      · have hjn : j = n := by omega
        subst hjn
        go_wp2
        go_ret
        exact ⟨j, h6, rfl, hm⟩

/-- An array of n elements of k cells in the block g; of its cells those of the texts (tx) are known. -/
def Arr (w : World) (g : Nat) (t : TypeId) (k n : Nat) (tx : Nat → Prop) (F : Nat → Nat → Value) : Prop :=
  ∃ cur : Array Value, w.heap[g]? = some (.cells cur t (0, 0)) ∧ cur.size = n * k ∧ ∀ i, i < n → ∀ j, j < k → tx j → cur[i * k + j]? = some (F i j)
theorem Arr.of {w : World} {g : Nat} {t : TypeId} {k n : Nat} {tx : Nat → Prop} {F : Nat → Nat → Value} (h : Blk w g t k n n F) : Arr w g t k n tx F := by
  obtain ⟨cur, h1, h2, h3⟩ := h
  exact ⟨cur, h1, h2, fun i hi j hj _ => h3 i hi j hj⟩
theorem Arr.mk {lo hi : Nat} {og : Option Nat} {w w' : World} {g : Nat} {t : TypeId} {k n : Nat} {tx : Nat → Prop} {F : Nat → Nat → Value} (h : Arr w g t k n tx F) (m : Mk lo hi og w w') (ht : t ≠ 5) (hg : some g ≠ og) : Arr w' g t k n tx F := by
  obtain ⟨cur, h1, h2, h3⟩ := h
  exact ⟨cur, m.oth g cur t ht hg h1, h2, h3⟩
theorem Arr.ext {w w' : World} {g : Nat} {t : TypeId} {k n : Nat} {tx : Nat → Prop} {F : Nat → Nat → Value} (h : Arr w g t k n tx F) (m : Ext w w') : Arr w' g t k n tx F := by
  obtain ⟨cur, h1, h2, h3⟩ := h
  exact ⟨cur, (m.block g (Array.getElem?_eq_some_iff.1 h1).1 (by simp)).trans h1, h2, h3⟩
theorem Arr.cell {w : World} {g : Nat} {t : TypeId} {k n : Nat} {tx : Nat → Prop} {F : Nat → Nat → Value} (h : Arr w g t k n tx F) (i : Nat) (hi : i < n) (j : Nat) (hj : j < k) (ht : tx j) : w.cell? ⟨g, i * k + j, none⟩ = some (F i j) := by
  obtain ⟨cur, h1, h2, h3⟩ := h
  rw [cell_of_row w g _ cur t (0, 0) h1]
  exact h3 i hi j hj ht
theorem Arr.at {w : World} {g : Nat} {t : TypeId} {k n : Nat} {tx : Nat → Prop} {F : Nat → Nat → Value} (h : Arr w g t k n tx F) (x : Nat) (hx : x < n * k) : (∃ u, w.cell? ⟨g, x, none⟩ = some u) ∧ w.frozen? ⟨g, x, none⟩ = false := by
  obtain ⟨cur, h1, h2, _⟩ := h
  have := at_block h1 x cur[x] (Array.getElem?_eq_getElem (by omega))
  exact ⟨⟨_, this.1⟩, this.2⟩
theorem Arr.set {w : World} {g : Nat} {t : TypeId} {k n : Nat} {tx : Nat → Prop} {F : Nat → Nat → Value} (h : Arr w g t k n tx F) (i j : Nat) (hj : j < k) (ht : ¬ tx j) (u : Value) : Arr (w.setCell ⟨g, i * k + j, none⟩ u) g t k n tx F := by
  obtain ⟨cur, h1, h2, h3⟩ := h
  refine ⟨_, set_block h1 _ u, by simp [h2], fun i' hi' j' hj' ht' => ?_⟩
  rw [Array.getElem?_setIfInBounds, if_neg]
  · exact h3 i' hi' j' hj' ht'
  · intro e
    have e1 : (j + i * k) % k = (j' + i' * k) % k := by rw [Nat.add_comm j, Nat.add_comm j', e]
    rw [Nat.add_mul_mod_self_right, Nat.add_mul_mod_self_right, Nat.mod_eq_of_lt hj, Nat.mod_eq_of_lt hj'] at e1
    exact ht (e1 ▸ ht')
theorem Arr.mkset {lo hi : Nat} {w : World} {g : Nat} {t : TypeId} {k n : Nat} {tx : Nat → Prop} {F : Nat → Nat → Value} (h : Arr w g t k n tx F) (h1 : lo ≤ g) (h2 : g < hi) (x : Nat) (u : Value) : Mk lo hi (Option.some g) w (w.setCell ⟨g, x, none⟩ u) := by
  obtain ⟨cur, hc, _, _⟩ := h
  exact mk_set u hc h1 h2 (.inr rfl)

end Go.Proofs.Ytdcbajejgphlgaa

namespace Go.Proofs.Ytdcbajejgphlgaa
open Go.RowKit

def txI : Nat → Prop := fun j => j = 4 ∨ j = 5

set_option maxHeartbeats 4000000 in
theorem markIM (lo hi g n : Nat) (F : Nat → Nat → Value) (k : Int) (w : World) (h : Arr w g 74 7 n txI F) (hw : ∀ i, i < n → WB lo hi w (F i 4) ∧ WB lo hi w (F i 5)) (h1 : lo ≤ g) (h2 : g < hi) (hn : n ≤ 1048576) (hk0 : 0 ≤ k) (hk : k ≤ 70368744177664) :
    Calls Try.prog 29 #[.slice (some ⟨g, 0, none⟩) n n, .int .i64 k] w fun e w' => ∃ m : Nat, m ≤ n * 2097157 ∧ e = .returned (.int .i64 (k + m)) ∧ Mk lo hi (some g) w w' := by
  have HW : Hid (∀ i, i < n → WB lo hi w (F i 4) ∧ WB lo hi w (F i 5)) := hw
  have HA : Hid (Arr w g 74 7 n txI F) := h
  have h5 : (74 : TypeId) ≠ 5 := by decide
  have H5 : Hid ((74 : TypeId) ≠ 5) := h5
  clear hw h h5
  go_enter Try.func29, Try.ntmps29
  go_wp2
  go_loopw [1, 5] (fun q i wr => ∃ j m : Nat, j ≤ n ∧ m ≤ j * 2097157 ∧ i = .int .i64 j ∧ q = .int .i64 (k + m) ∧ Mk lo hi (some g) w wr ∧ Hid (Arr wr g 74 7 n txI F)) (fun _ i _ => n - (intOf i).toNat)
  case atStart => exact ⟨0, 0, Nat.zero_le _, by omega, rfl, by go_num, Mk.re _ _ _ _, HA.out⟩
  case round =>
    obtain ⟨j, m, hj, hmj, rfl, rfl, hm, ha⟩ := hrel
    by_cases hlt : j < n
    · have hlt' : (j : Int) < (n : Int) := by omega
      have HM0 : Hid (Mk lo hi (some g) w wr) := hm
      clear hm
      obtain ⟨⟨u0, a0⟩, f0⟩ := Arr.at ha.out (j * 7 + 0) (by omega)
      rw [Nat.add_zero] at a0 f0
      obtain ⟨⟨u1, a1⟩, f1⟩ := Arr.at ha.out (j * 7 + 1) (by omega)
      obtain ⟨⟨u2, a2⟩, f2⟩ := Arr.at ha.out (j * 7 + 2) (by omega)
      obtain ⟨⟨u3, a3⟩, f3⟩ := Arr.at ha.out (j * 7 + 3) (by omega)
      have HZ : Hid (∀ V0 V1 V2 V3 : Value, Mk lo hi (some g) w ((((wr.setCell ⟨g, j * 7, none⟩ V0).setCell ⟨g, j * 7 + 1, none⟩ V1).setCell ⟨g, j * 7 + 2, none⟩ V2).setCell ⟨g, j * 7 + 3, none⟩ V3) ∧ Arr ((((wr.setCell ⟨g, j * 7, none⟩ V0).setCell ⟨g, j * 7 + 1, none⟩ V1).setCell ⟨g, j * 7 + 2, none⟩ V2).setCell ⟨g, j * 7 + 3, none⟩ V3) g 74 7 n txI F) := fun V0 V1 V2 V3 => ⟨((((((((HM0.out).tr (Arr.mkset (ha.out) h1 h2 (j * 7 + 0) V0))).tr (Arr.mkset (((ha.out).set j 0 (by omega) (by unfold txI; omega) V0)) h1 h2 (j * 7 + 1) V1))).tr (Arr.mkset (((((ha.out).set j 0 (by omega) (by unfold txI; omega) V0)).set j 1 (by omega) (by unfold txI; omega) V1)) h1 h2 (j * 7 + 2) V2))).tr (Arr.mkset (((((((ha.out).set j 0 (by omega) (by unfold txI; omega) V0)).set j 1 (by omega) (by unfold txI; omega) V1)).set j 2 (by omega) (by unfold txI; omega) V2)) h1 h2 (j * 7 + 3) V3)), ((((((((ha.out).set j 0 (by omega) (by unfold txI; omega) V0)).set j 1 (by omega) (by unfold txI; omega) V1)).set j 2 (by omega) (by unfold txI; omega) V2)).set j 3 (by omega) (by unfold txI; omega) V3)⟩
      have d4 := Arr.cell ha.out j hlt 4 (by omega) (by unfold txI; omega)
      have d5 := Arr.cell ha.out j hlt 5 (by omega) (by unfold txI; omega)
      clear ha
      go_wp2_with fail
      refine (markW lo hi none _ _ _ ((HW.out j hlt).1.mk (HZ.out _ _ _ _).1) (by omega) (by omega)).mono ?_
      rintro e w1 ⟨n1, hn1, rfl, M1⟩
      have HM1 : Hid (Mk lo hi (some g) w w1) := (HZ.out _ _ _ _).1.tr M1.some
      have HA1 : Hid (Arr w1 g 74 7 n txI F) := (HZ.out _ _ _ _).2.mk M1 H5.out (by simp)
      clear M1 d4 d5 HM0 HZ a0 a1 a2 a3 f0 f1 f2 f3
      have d5 := Arr.cell HA1.out j hlt 5 (by omega) (by unfold txI; omega)
      go_wp2_with fail
      refine (markW lo hi none _ _ w1 ((HW.out j hlt).2.mk HM1.out) (by omega) (by omega)).mono ?_
      rintro e w2 ⟨n2, hn2, rfl, M2⟩
      have HM2 : Hid (Mk lo hi (some g) w w2) := HM1.out.tr M2.some
      have HA2 : Hid (Arr w2 g 74 7 n txI F) := HA1.out.mk M2 H5.out (by simp)
      clear M2 d5 HM1 HA1
      obtain ⟨⟨u6, a6⟩, f6⟩ := Arr.at HA2.out (j * 7 + 6) (by omega)
      have HZ : Hid (∀ V : Value, Mk lo hi (some g) w (w2.setCell ⟨g, j * 7 + 6, none⟩ V) ∧ Arr (w2.setCell ⟨g, j * 7 + 6, none⟩ V) g 74 7 n txI F) := fun V => ⟨HM2.out.tr (Arr.mkset HA2.out h1 h2 (j * 7 + 6) V), HA2.out.set j 6 (by omega) (by unfold txI; omega) V⟩
      clear HM2 HA2
      go_wp2
      go_roundw
      case rel => exact ⟨j + 1, m + 4 + n1 + n2 + 1, by omega, by omega, by go_num, by go_num, (HZ.out _).1, (HZ.out _).2⟩
      case measure => simp [intOf]; omega
    · have hjn : j = n := by omega
      subst hjn
      clear ha
      go_wp2
      go_ret
      exact ⟨m, hmj, rfl, hm⟩

end Go.Proofs.Ytdcbajejgphlgaa

namespace Go.Proofs.Ytdcbajejgphlgaa
open Go.RowKit

/-- Only blocks from lo up to hi have turned. -/
structure Mid (lo hi : Nat) (w w' : World) : Prop where
  os : w'.os = w.os
  tape : w'.tape = w.tape
  output : w'.output = w.output
  size : w.heap.size ≤ w'.heap.size
  out : ∀ k, k < w.heap.size → (k < lo ∨ hi ≤ k) → w'.heap[k]? = w.heap[k]?
theorem Mk.mid {lo hi : Nat} {og : Option Nat} {w w' : World} (h : Mk lo hi og w w') : Mid lo hi w w' := ⟨h.os, h.tape, h.output, h.size, h.out⟩
theorem Mid.tr {lo hi : Nat} {a b c : World} (h : Mid lo hi a b) (k : Mid lo hi b c) : Mid lo hi a c :=
  ⟨k.os.trans h.os, k.tape.trans h.tape, k.output.trans h.output, Nat.le_trans h.size k.size, fun i hi' ho => (k.out i (Nat.lt_of_lt_of_le hi' h.size) ho).trans (h.out i hi' ho)⟩
theorem Mid.ext {lo hi : Nat} {a b : World} (h : Ext a b) : Mid lo hi a b := ⟨h.os, h.tape, h.output, h.size, fun i hi' _ => h.block i hi' (by simp)⟩
theorem Mid.one {lo hi g : Nat} {a b : World} (h : a.grownBy b (some g)) (h1 : lo ≤ g) (h2 : g < hi) : Mid lo hi a b := ⟨h.os, h.tape, h.output, h.size, fun i hi' ho => h.block i hi' (by simp; omega)⟩
theorem Mid.below {lo hi B : Nat} {w0 w w' : World} (hb : Below B w0 w) (hs : B ≤ w.heap.size) (hl : B ≤ lo) (h : Mid lo hi w w') : Below B w0 w' :=
  ⟨h.os.trans hb.os, h.tape.trans hb.tape, h.output.trans hb.output, Nat.le_trans hb.size h.size, fun k hk => (h.out k (by omega) (.inl (by omega))).trans (hb.block k hk)⟩
theorem Mid.obj {lo hi k : Nat} {w w' : World} {o : Obj} (h : Mid lo hi w w') (hk : w.heap[k]? = some o) (ho : k < lo ∨ hi ≤ k) : w'.heap[k]? = some o := (h.out k (Array.getElem?_eq_some_iff.1 hk).1 ho).trans hk

end Go.Proofs.Ytdcbajejgphlgaa

namespace Go.Proofs.Ytdcbajejgphlgaa
open Go.RowKit

/-- v is a server that a call made: its lists lie in blocks of their own, from lo on. -/
def ONode (lo : Nat) (w : World) (v : Value) (M : DNode) : Prop := ∃ g0 g1 g2 g3, v = .agg #[.int .i64 M.id, .int .i64 M.term, .int .i64 M.vote, .slice (some ⟨g0, 0, none⟩) M.log.length M.log.length, .int .i64 M.commit, .int .i64 M.role, .int .i64 M.lead, .int .i64 M.wait, .slice (some ⟨g1, 0, none⟩) M.votes.length M.votes.length, .slice (some ⟨g2, 0, none⟩) M.next.length M.next.length, .slice (some ⟨g3, 0, none⟩) M.mat.length M.mat.length] ∧ lo ≤ g0 ∧ g0 < g1 ∧ g1 < g2 ∧ g2 < g3 ∧ OI w g0 M.log ∧ OVL fB 4 w g1 M.votes ∧ OVL fI 3 w g2 M.next ∧ OVL fI 3 w g3 M.mat
theorem oi_lt {w : World} {g : Nat} {ss : List DItem} (h : OI w g ss) : g < w.heap.size := by
  obtain ⟨F, hF, _⟩ := h
  exact blk_lt hF
theorem ovl_lt {α : Type} {f : α → Value} {t : TypeId} {w : World} {g : Nat} {xs : List α} (h : OVL f t w g xs) : g < w.heap.size := (Array.getElem?_eq_some_iff.1 h).1
theorem ONode.ext {lo : Nat} {w w' : World} {v : Value} {M : DNode} (h : ONode lo w v M) (e : Ext w w') : ONode lo w' v M := by
  obtain ⟨g0, g1, g2, g3, hv, h0, h1, h2, h3, o0, o1, o2, o3⟩ := h
  exact ⟨g0, g1, g2, g3, hv, h0, h1, h2, h3, o0.ext e, o1.ext e, o2.ext e, o3.ext e⟩
theorem ONode.v {lo : Nat} {w : World} {v : Value} {M : DNode} (h : ONode lo w v M) (hl : LenN M 1048576) (hr : ∀ (i : Nat) (s : DItem), M.log[i]? = some s → (∀ x ∈ s.cmd.op.key, 0 ≤ x ∧ x ≤ 255) ∧ (∀ x ∈ s.cmd.op.val, 0 ≤ x ∧ x ≤ 255)) : VNode w v M := by
  obtain ⟨g0, g1, g2, g3, rfl, h0, h1, h2, h3, o0, o1, o2, o3⟩ := h
  exact ⟨_, _, _, _, rfl, o0.v hl.1 hr, o1.v hl.2.2.1, o2.v hl.2.2.2.1, o3.v hl.2.2.2.2⟩

set_option maxHeartbeats 4000000 in
theorem toNO (v : Value) (M : DNode) (w : World) (h : VNode w v M) (hl : LenN M 1048576) :
    Calls Try.prog 6 #[v] w fun e w' => ∃ v', e = .returned v' ∧ ONode w.heap.size w' v' M ∧ Below w.heap.size w w' := by
  obtain ⟨lv, bv, nv, mv, rfl, hi, hb, hn, hm⟩ := h
  have hE : ∀ w : World, ∀ o, Ext w (w.alloc o) := fun w o => World.grownBy_alloc _ _ _
  go_enter Try.func6, Try.ntmps6
  go_wp2_with fail
  refine (toS_I _ M.log _ (hi.ext (((hE _ _).tr (hE _ _)).tr (hE _ _))) hl.1 hl.2.1).mono ?_
  rintro e w1 ⟨F, rfl, hF, hO, b1⟩
  have hs1 : w.heap.size + 3 ≤ w1.heap.size := by have := b1.size; simp at this; omega
  have PA := below_blk b1 (by simp; omega) (h3_0 w _ _ _)
  have RA := below_blk b1 (by simp) (h3_1 w _ _ _)
  have TA := below_blk b1 (by simp) (h3_2 w _ _ _)
  have BA : Below w.heap.size w w1 := ((((Below.refl _ w).alloc (Nat.le_refl _) _).alloc (by simp) _).alloc (by simp; omega) _).trans (b1.mono (by simp; omega))
  have oI : OI w1 (w.heap.size + 1 + 1 + 1) M.log := by
    have e3 : (((w.alloc (.cells #[.int .i64 M.id, .int .i64 M.term, .int .i64 M.vote, lv, .int .i64 M.commit, .int .i64 M.role, .int .i64 M.lead, .int .i64 M.wait, bv, nv, mv] 26 (0, 0))).alloc (.cells #[.int .i64 0, .int .i64 0, .int .i64 0, .slice none 0 0, .int .i64 0, .int .i64 0, .int .i64 0, .int .i64 0, .slice none 0 0, .slice none 0 0, .slice none 0 0] 34 (0, 0))).alloc (.cells #[.int .i64 M.id, .int .i64 M.term, .int .i64 M.vote, .slice none 0 0, .int .i64 0, .int .i64 0, .int .i64 0, .int .i64 0, .slice none 0 0, .slice none 0 0, .slice none 0 0] 34 (0, 0))).heap.size = w.heap.size + 1 + 1 + 1 := by simp
    rw [e3] at hF hO
    exact ⟨F, hF, hO⟩
  clear b1 hF hO
  obtain ⟨q3, h3⟩ := at_block TA 3 _ rfl
  obtain ⟨q4, h4⟩ := at_block TA 4 _ rfl
  obtain ⟨q5, h5⟩ := at_block TA 5 _ rfl
  obtain ⟨q6, h6⟩ := at_block TA 6 _ rfl
  obtain ⟨q7, h7⟩ := at_block TA 7 _ rfl
  have pp4 := (at_block PA 4 _ rfl).1
  have pp5 := (at_block PA 5 _ rfl).1
  have pp6 := (at_block PA 6 _ rfl).1
  have pp7 := (at_block PA 7 _ rfl).1
  have pp8 := (at_block PA 8 _ rfl).1
  go_wp2_with fail
  have TB0 : (((((w1.setCell ⟨w.heap.size + 1 + 1, 3, none⟩ (.slice (some ⟨w.heap.size + 1 + 1 + 1, 0, none⟩) M.log.length M.log.length)).setCell ⟨w.heap.size + 1 + 1, 4, none⟩ (.int .i64 M.commit)).setCell ⟨w.heap.size + 1 + 1, 5, none⟩ (.int .i64 M.role)).setCell ⟨w.heap.size + 1 + 1, 6, none⟩ (.int .i64 M.lead)).setCell ⟨w.heap.size + 1 + 1, 7, none⟩ (.int .i64 M.wait)).heap[w.heap.size + 1 + 1]? = some (.cells #[.int .i64 M.id, .int .i64 M.term, .int .i64 M.vote, .slice (some ⟨w.heap.size + 1 + 1 + 1, 0, none⟩) M.log.length M.log.length, .int .i64 M.commit, .int .i64 M.role, .int .i64 M.lead, .int .i64 M.wait, .slice none 0 0, .slice none 0 0, .slice none 0 0] 34 (0, 0)) := (set_block (set_block (set_block (set_block (set_block TA 3 (.slice (some ⟨w.heap.size + 1 + 1 + 1, 0, none⟩) M.log.length M.log.length)) 4 (.int .i64 M.commit)) 5 (.int .i64 M.role)) 6 (.int .i64 M.lead)) 7 (.int .i64 M.wait))
  have PB0 := (set_other (w.heap.size + 1 + 1) 7 (.int .i64 M.wait) (by omega) (set_other (w.heap.size + 1 + 1) 6 (.int .i64 M.lead) (by omega) (set_other (w.heap.size + 1 + 1) 5 (.int .i64 M.role) (by omega) (set_other (w.heap.size + 1 + 1) 4 (.int .i64 M.commit) (by omega) (set_other (w.heap.size + 1 + 1) 3 (.slice (some ⟨w.heap.size + 1 + 1 + 1, 0, none⟩) M.log.length M.log.length) (by omega) PA)))))
  have RB0 := (set_other (w.heap.size + 1 + 1) 7 (.int .i64 M.wait) (by omega) (set_other (w.heap.size + 1 + 1) 6 (.int .i64 M.lead) (by omega) (set_other (w.heap.size + 1 + 1) 5 (.int .i64 M.role) (by omega) (set_other (w.heap.size + 1 + 1) 4 (.int .i64 M.commit) (by omega) (set_other (w.heap.size + 1 + 1) 3 (.slice (some ⟨w.heap.size + 1 + 1 + 1, 0, none⟩) M.log.length M.log.length) (by omega) RA)))))
  have BB0 : Below w.heap.size w (((((w1.setCell ⟨w.heap.size + 1 + 1, 3, none⟩ (.slice (some ⟨w.heap.size + 1 + 1 + 1, 0, none⟩) M.log.length M.log.length)).setCell ⟨w.heap.size + 1 + 1, 4, none⟩ (.int .i64 M.commit)).setCell ⟨w.heap.size + 1 + 1, 5, none⟩ (.int .i64 M.role)).setCell ⟨w.heap.size + 1 + 1, 6, none⟩ (.int .i64 M.lead)).setCell ⟨w.heap.size + 1 + 1, 7, none⟩ (.int .i64 M.wait)) := (((((BA.setCell (by simp; omega) _).setCell (by simp; omega) _).setCell (by simp; omega) _).setCell (by simp; omega) _).setCell (by simp; omega) _)
  have zB : w.heap.size + 3 ≤ (((((w1.setCell ⟨w.heap.size + 1 + 1, 3, none⟩ (.slice (some ⟨w.heap.size + 1 + 1 + 1, 0, none⟩) M.log.length M.log.length)).setCell ⟨w.heap.size + 1 + 1, 4, none⟩ (.int .i64 M.commit)).setCell ⟨w.heap.size + 1 + 1, 5, none⟩ (.int .i64 M.role)).setCell ⟨w.heap.size + 1 + 1, 6, none⟩ (.int .i64 M.lead)).setCell ⟨w.heap.size + 1 + 1, 7, none⟩ (.int .i64 M.wait)).heap.size := by simp; omega
  have oI0 := (((((oI.set (x := w.heap.size + 1 + 1) (j := 3) (u := .slice (some ⟨w.heap.size + 1 + 1 + 1, 0, none⟩) M.log.length M.log.length) (by omega)).set (x := w.heap.size + 1 + 1) (j := 4) (u := .int .i64 M.commit) (by omega)).set (x := w.heap.size + 1 + 1) (j := 5) (u := .int .i64 M.role) (by omega)).set (x := w.heap.size + 1 + 1) (j := 6) (u := .int .i64 M.lead) (by omega)).set (x := w.heap.size + 1 + 1) (j := 7) (u := .int .i64 M.wait) (by omega))
  have kA : w.heap.size + 1 + 1 + 1 < (((((w1.setCell ⟨w.heap.size + 1 + 1, 3, none⟩ (.slice (some ⟨w.heap.size + 1 + 1 + 1, 0, none⟩) M.log.length M.log.length)).setCell ⟨w.heap.size + 1 + 1, 4, none⟩ (.int .i64 M.commit)).setCell ⟨w.heap.size + 1 + 1, 5, none⟩ (.int .i64 M.role)).setCell ⟨w.heap.size + 1 + 1, 6, none⟩ (.int .i64 M.lead)).setCell ⟨w.heap.size + 1 + 1, 7, none⟩ (.int .i64 M.wait)).heap.size := by have := oi_lt oI; simp; omega
  generalize (((((w1.setCell ⟨w.heap.size + 1 + 1, 3, none⟩ (.slice (some ⟨w.heap.size + 1 + 1 + 1, 0, none⟩) M.log.length M.log.length)).setCell ⟨w.heap.size + 1 + 1, 4, none⟩ (.int .i64 M.commit)).setCell ⟨w.heap.size + 1 + 1, 5, none⟩ (.int .i64 M.role)).setCell ⟨w.heap.size + 1 + 1, 6, none⟩ (.int .i64 M.lead)).setCell ⟨w.heap.size + 1 + 1, 7, none⟩ (.int .i64 M.wait)) = WB at TB0 PB0 RB0 BB0 zB oI0 kA ⊢
  clear q3 h3 q4 h4 q5 h5 q6 h6 q7 h7 pp4 pp5 pp6 pp7 pp8 PA RA TA BA oI
  refine (toL_B _ M.votes WB (hb.ext (ext_below BB0)) hl.2.2.1).mono ?_
  rintro e w2 ⟨rfl, oB, bB⟩
  have PB := below_blk bB (by omega) PB0
  have RB := below_blk bB (by omega) RB0
  have TB := below_blk bB (by omega) TB0
  have BB := BB0.trans (bB.mono BB0.size)
  have yB := bB.size
  have oI := oI0.ext (ext_below bB)
  generalize WB.heap.size = gB at zB yB oB kA ⊢
  clear bB PB0 RB0 TB0 BB0 oI0
  obtain ⟨q8, h8⟩ := at_block TB 8 _ rfl
  have pp9 := (at_block PB 9 _ rfl).1
  go_wp2_with fail
  have TC0 : (w2.setCell ⟨w.heap.size + 1 + 1, 8, none⟩ (.slice (some ⟨gB, 0, none⟩) M.votes.length M.votes.length)).heap[w.heap.size + 1 + 1]? = some (.cells #[.int .i64 M.id, .int .i64 M.term, .int .i64 M.vote, .slice (some ⟨w.heap.size + 1 + 1 + 1, 0, none⟩) M.log.length M.log.length, .int .i64 M.commit, .int .i64 M.role, .int .i64 M.lead, .int .i64 M.wait, .slice (some ⟨gB, 0, none⟩) M.votes.length M.votes.length, .slice none 0 0, .slice none 0 0] 34 (0, 0)) := (set_block TB 8 (.slice (some ⟨gB, 0, none⟩) M.votes.length M.votes.length))
  have PC0 := (set_other (w.heap.size + 1 + 1) 8 (.slice (some ⟨gB, 0, none⟩) M.votes.length M.votes.length) (by omega) PB)
  have RC0 := (set_other (w.heap.size + 1 + 1) 8 (.slice (some ⟨gB, 0, none⟩) M.votes.length M.votes.length) (by omega) RB)
  have BC0 : Below w.heap.size w (w2.setCell ⟨w.heap.size + 1 + 1, 8, none⟩ (.slice (some ⟨gB, 0, none⟩) M.votes.length M.votes.length)) := (BB.setCell (by simp; omega) _)
  have zC : w.heap.size + 3 ≤ (w2.setCell ⟨w.heap.size + 1 + 1, 8, none⟩ (.slice (some ⟨gB, 0, none⟩) M.votes.length M.votes.length)).heap.size := by simp; omega
  have oI0 := (oI.set (x := w.heap.size + 1 + 1) (j := 8) (u := .slice (some ⟨gB, 0, none⟩) M.votes.length M.votes.length) (by omega))
  have oB0 := (oB.set (x := w.heap.size + 1 + 1) (j := 8) (u := .slice (some ⟨gB, 0, none⟩) M.votes.length M.votes.length) (by omega))
  have kB : gB < (w2.setCell ⟨w.heap.size + 1 + 1, 8, none⟩ (.slice (some ⟨gB, 0, none⟩) M.votes.length M.votes.length)).heap.size := by have := ovl_lt oB; simp; omega
  generalize (w2.setCell ⟨w.heap.size + 1 + 1, 8, none⟩ (.slice (some ⟨gB, 0, none⟩) M.votes.length M.votes.length)) = WC at TC0 PC0 RC0 BC0 zC oI0 oB0 kB ⊢
  clear q8 h8 pp9 PB RB TB BB oI oB
  refine (toL_I _ M.next WC (hn.ext (ext_below BC0)) hl.2.2.2.1).mono ?_
  rintro e w3 ⟨rfl, oC, bC⟩
  have PC := below_blk bC (by omega) PC0
  have RC := below_blk bC (by omega) RC0
  have TC := below_blk bC (by omega) TC0
  have BC := BC0.trans (bC.mono BC0.size)
  have yC := bC.size
  have oI := oI0.ext (ext_below bC)
  have oB := oB0.ext (ext_below bC)
  generalize WC.heap.size = gC at zC yC oC kB ⊢
  clear bC PC0 RC0 TC0 BC0 oI0 oB0
  obtain ⟨q9, h9⟩ := at_block TC 9 _ rfl
  have pp10 := (at_block PC 10 _ rfl).1
  go_wp2_with fail
  have TD0 : (w3.setCell ⟨w.heap.size + 1 + 1, 9, none⟩ (.slice (some ⟨gC, 0, none⟩) M.next.length M.next.length)).heap[w.heap.size + 1 + 1]? = some (.cells #[.int .i64 M.id, .int .i64 M.term, .int .i64 M.vote, .slice (some ⟨w.heap.size + 1 + 1 + 1, 0, none⟩) M.log.length M.log.length, .int .i64 M.commit, .int .i64 M.role, .int .i64 M.lead, .int .i64 M.wait, .slice (some ⟨gB, 0, none⟩) M.votes.length M.votes.length, .slice (some ⟨gC, 0, none⟩) M.next.length M.next.length, .slice none 0 0] 34 (0, 0)) := (set_block TC 9 (.slice (some ⟨gC, 0, none⟩) M.next.length M.next.length))
  have PD0 := (set_other (w.heap.size + 1 + 1) 9 (.slice (some ⟨gC, 0, none⟩) M.next.length M.next.length) (by omega) PC)
  have RD0 := (set_other (w.heap.size + 1 + 1) 9 (.slice (some ⟨gC, 0, none⟩) M.next.length M.next.length) (by omega) RC)
  have BD0 : Below w.heap.size w (w3.setCell ⟨w.heap.size + 1 + 1, 9, none⟩ (.slice (some ⟨gC, 0, none⟩) M.next.length M.next.length)) := (BC.setCell (by simp; omega) _)
  have zD : w.heap.size + 3 ≤ (w3.setCell ⟨w.heap.size + 1 + 1, 9, none⟩ (.slice (some ⟨gC, 0, none⟩) M.next.length M.next.length)).heap.size := by simp; omega
  have oI0 := (oI.set (x := w.heap.size + 1 + 1) (j := 9) (u := .slice (some ⟨gC, 0, none⟩) M.next.length M.next.length) (by omega))
  have oB0 := (oB.set (x := w.heap.size + 1 + 1) (j := 9) (u := .slice (some ⟨gC, 0, none⟩) M.next.length M.next.length) (by omega))
  have oC0 := (oC.set (x := w.heap.size + 1 + 1) (j := 9) (u := .slice (some ⟨gC, 0, none⟩) M.next.length M.next.length) (by omega))
  have kC : gC < (w3.setCell ⟨w.heap.size + 1 + 1, 9, none⟩ (.slice (some ⟨gC, 0, none⟩) M.next.length M.next.length)).heap.size := by have := ovl_lt oC; simp; omega
  generalize (w3.setCell ⟨w.heap.size + 1 + 1, 9, none⟩ (.slice (some ⟨gC, 0, none⟩) M.next.length M.next.length)) = WD at TD0 PD0 RD0 BD0 zD oI0 oB0 oC0 kC ⊢
  clear q9 h9 pp10 PC RC TC BC oI oB oC
  refine (toL_I _ M.mat WD (hm.ext (ext_below BD0)) hl.2.2.2.2).mono ?_
  rintro e w4 ⟨rfl, oD, bD⟩
  have PD := below_blk bD (by omega) PD0
  have RD := below_blk bD (by omega) RD0
  have TD := below_blk bD (by omega) TD0
  have BD := BD0.trans (bD.mono BD0.size)
  have yD := bD.size
  have oI := oI0.ext (ext_below bD)
  have oB := oB0.ext (ext_below bD)
  have oC := oC0.ext (ext_below bD)
  generalize WD.heap.size = gD at zD yD oD kC ⊢
  clear bD PD0 RD0 TD0 BD0 oI0 oB0 oC0
  obtain ⟨q0, h0⟩ := at_block TD 0 _ rfl
  obtain ⟨q1, h1⟩ := at_block TD 1 _ rfl
  obtain ⟨q2, h2⟩ := at_block TD 2 _ rfl
  obtain ⟨q3, h3⟩ := at_block TD 3 _ rfl
  obtain ⟨q4, h4⟩ := at_block TD 4 _ rfl
  obtain ⟨q5, h5⟩ := at_block TD 5 _ rfl
  obtain ⟨q6, h6⟩ := at_block TD 6 _ rfl
  obtain ⟨q7, h7⟩ := at_block TD 7 _ rfl
  obtain ⟨q8, h8⟩ := at_block TD 8 _ rfl
  obtain ⟨q9, h9⟩ := at_block TD 9 _ rfl
  obtain ⟨q10, h10⟩ := at_block TD 10 _ rfl
  obtain ⟨r0, y0⟩ := at_block RD 0 _ rfl
  obtain ⟨r1, y1⟩ := at_block RD 1 _ rfl
  obtain ⟨r2, y2⟩ := at_block RD 2 _ rfl
  obtain ⟨r3, y3⟩ := at_block RD 3 _ rfl
  obtain ⟨r4, y4⟩ := at_block RD 4 _ rfl
  obtain ⟨r5, y5⟩ := at_block RD 5 _ rfl
  obtain ⟨r6, y6⟩ := at_block RD 6 _ rfl
  obtain ⟨r7, y7⟩ := at_block RD 7 _ rfl
  obtain ⟨r8, y8⟩ := at_block RD 8 _ rfl
  obtain ⟨r9, y9⟩ := at_block RD 9 _ rfl
  obtain ⟨r10, y10⟩ := at_block RD 10 _ rfl
  go_wp2
  refine bodyPost_ret (v := .agg #[.int .i64 M.id, .int .i64 M.term, .int .i64 M.vote, .slice (some ⟨w.heap.size + 1 + 1 + 1, 0, none⟩) M.log.length M.log.length, .int .i64 M.commit, .int .i64 M.role, .int .i64 M.lead, .int .i64 M.wait, .slice (some ⟨gB, 0, none⟩) M.votes.length M.votes.length, .slice (some ⟨gC, 0, none⟩) M.next.length M.next.length, .slice (some ⟨gD, 0, none⟩) M.mat.length M.mat.length]) (by simp [results, Try.results6, go_sem, r0, r1, r2, r3, r4, r5, r6, r7, r8, r9, r10]) rfl ?_
  refine ⟨_, rfl, ⟨_, _, _, _, rfl, by omega, kA, kB, kC, ?_, ?_, ?_, ?_⟩, ?_⟩
  · repeat (refine OI.set ?_ (by omega))
    exact oI
  · repeat (refine OVL.set ?_ (by omega))
    exact oB
  · repeat (refine OVL.set ?_ (by omega))
    exact oC
  · repeat (refine OVL.set ?_ (by omega))
    exact oD
  · repeat (refine below_set ?_ (by omega))
    exact BD

end Go.Proofs.Ytdcbajejgphlgaa

namespace Go.Proofs.Ytdcbajejgphlgaa
open Go.RowKit

theorem ovl_oth {α : Type} {f : α → Value} {t : TypeId} {w w' : World} {g x : Nat} {xs : List α} (h : OVL f t w g xs) (hg : w.grownBy w' (some x)) (hx : g ≠ x) : OVL f t w' g xs := (hg.block g (Array.getElem?_eq_some_iff.1 h).1 (by simp; omega)).trans h
theorem obj_oth {w w' : World} {g x : Nat} {o : Obj} (h : w.heap[g]? = some o) (hg : w.grownBy w' (some x)) (hx : g ≠ x) : w'.heap[g]? = some o := (hg.block g (Array.getElem?_eq_some_iff.1 h).1 (by simp; omega)).trans h

/-- A server's memory, as far as its marks need it: from lo up to hi. -/
def ShpN (lo hi : Nat) (w : World) (v : Value) (M : DNode) : Prop := ∃ g0 g1 g2 g3 F, v = .agg #[.int .i64 M.id, .int .i64 M.term, .int .i64 M.vote, .slice (some ⟨g0, 0, none⟩) M.log.length M.log.length, .int .i64 M.commit, .int .i64 M.role, .int .i64 M.lead, .int .i64 M.wait, .slice (some ⟨g1, 0, none⟩) M.votes.length M.votes.length, .slice (some ⟨g2, 0, none⟩) M.next.length M.next.length, .slice (some ⟨g3, 0, none⟩) M.mat.length M.mat.length] ∧ lo ≤ g0 ∧ g0 < g1 ∧ g1 < g2 ∧ g2 < g3 ∧ g3 < hi ∧ (Arr w g0 74 7 M.log.length txI F ∧ ∀ i, i < M.log.length → WB lo hi w (F i 4) ∧ WB lo hi w (F i 5)) ∧ OVL fB 4 w g1 M.votes ∧ OVL fI 3 w g2 M.next ∧ OVL fI 3 w g3 M.mat
theorem ShpN.ext {lo hi : Nat} {w w' : World} {v : Value} {M : DNode} (h : ShpN lo hi w v M) (e : Ext w w') : ShpN lo hi w' v M := by
  obtain ⟨g0, g1, g2, g3, F, hv, h0, h1, h2, h3, h4, ⟨a1, a2⟩, o1, o2, o3⟩ := h
  exact ⟨g0, g1, g2, g3, F, hv, h0, h1, h2, h3, h4, ⟨a1.ext e, fun i hi => ⟨(a2 i hi).1.grown e, (a2 i hi).2.grown e⟩⟩, o1.ext e, o2.ext e, o3.ext e⟩
theorem shpN_of {lo : Nat} {w : World} {v : Value} {M : DNode} (h : ONode lo w v M) (hl : LenN M 1048576) : ShpN lo w.heap.size w v M := by
  obtain ⟨g0, g1, g2, g3, hv, h0, h1, h2, h3, o0, o1, o2, o3⟩ := h
  obtain ⟨F, hF, hO⟩ := o0
  refine ⟨g0, g1, g2, g3, F, hv, h0, h1, h2, h3, ovl_lt o3, ⟨Arr.of hF, fun i hi => ?_⟩, o1, o2, o3⟩
  obtain ⟨r, hr⟩ : ∃ r, M.log[i]? = some r := ⟨_, List.getElem?_eq_getElem hi⟩
  obtain ⟨_, _, _, _, p4, p5, _⟩ := hO i r hr
  exact ⟨WB.of p4 (by omega) (hl.2.1 i r hr).1, WB.of p5 (by omega) (hl.2.1 i r hr).2⟩

set_option maxHeartbeats 4000000 in
theorem markNM (lo hi : Nat) (v : Value) (M : DNode) (w : World) (h : ShpN lo hi w v M) (hh : hi ≤ w.heap.size) (hl : LenN M 1048576) :
    Calls Try.prog 10 #[v, .int .i64 1] w fun e w' => ∃ k : Nat, e = .returned (.int .i64 k) ∧ Mid lo hi w w' := by
  have hE : ∀ w : World, ∀ o, Ext w (w.alloc o) := fun w o => World.grownBy_alloc _ _ _
  obtain ⟨g0, g1, g2, g3, F, rfl, h0, h1, h2, h3, l3, hA, o1, o2, o3⟩ := h
  have HO1 : Hid (OVL fB 4 w g1 M.votes) := o1
  have HO2 : Hid (OVL fI 3 w g2 M.next) := o2
  have HO3 : Hid (OVL fI 3 w g3 M.mat) := o3
  have hl1 : M.log.length ≤ 1048576 := hl.1
  have hl2 : M.votes.length ≤ 1048576 := hl.2.2.1
  have hl3 : M.next.length ≤ 1048576 := hl.2.2.2.1
  have hl4 : M.mat.length ≤ 1048576 := hl.2.2.2.2
  have HA : Hid (Arr w g0 74 7 M.log.length txI F ∧ ∀ i, i < M.log.length → WB lo hi w (F i 4) ∧ WB lo hi w (F i 5)) := hA
  clear hA o1 o2 o3 hl
  go_enter Try.func10, Try.ntmps10
  go_wp2_with fail
  have hbx := heap_alloc_new w (.cells #[.int .i64 M.id, .int .i64 M.term, .int .i64 M.vote, .slice (some ⟨g0, 0, none⟩) M.log.length M.log.length, .int .i64 M.commit, .int .i64 M.role, .int .i64 M.lead, .int .i64 M.wait, .slice (some ⟨g1, 0, none⟩) M.votes.length M.votes.length, .slice (some ⟨g2, 0, none⟩) M.next.length M.next.length, .slice (some ⟨g3, 0, none⟩) M.mat.length M.mat.length] 34 (0, 0))
  refine (markIM lo hi g0 M.log.length F 1 _ (HA.out.1.ext (hE _ _)) (fun i hi => ⟨(HA.out.2 i hi).1.grown (hE _ _), (HA.out.2 i hi).2.grown (hE _ _)⟩) h0 (by omega) hl1 (by omega) (by omega)).mono ?_
  rintro e w1 ⟨m1, hm1, rfl, M1⟩
  have D1 : Mid lo hi w w1 := (Mid.ext (hE _ _)).tr M1.mid
  have P1 := M1.mid.obj hbx (.inr hh)
  obtain ⟨c8, _⟩ := at_block P1 8 _ rfl
  have N1 : OVL fB 4 w1 g1 M.votes := M1.oth g1 _ 4 (by decide) (by simp; omega) (HO1.out.ext (hE _ _))
  have N2 : OVL fI 3 w1 g2 M.next := M1.oth g2 _ 3 (by decide) (by simp; omega) (HO2.out.ext (hE _ _))
  have N3 : OVL fI 3 w1 g3 M.mat := M1.oth g3 _ 3 (by decide) (by simp; omega) (HO3.out.ext (hE _ _))
  clear M1
  have hk1 : (0 : Int) ≤ 1 + (m1 : Int) := by omega
  have hk1' : (1 : Int) + (m1 : Int) ≤ 3000000000000 := by omega
  go_wp2_with fail
  refine (markL_B g1 M.votes (1 + m1) w1 N1 hk1 (by omega) hl2).mono ?_
  rintro e w2 ⟨rfl, _, G2⟩
  have D2 := D1.tr (Mid.one G2 (by omega) (by omega))
  have P2 := obj_oth P1 G2 (by omega)
  obtain ⟨c9, _⟩ := at_block P2 9 _ rfl
  have N2' := ovl_oth N2 G2 (by omega)
  have N3' := ovl_oth N3 G2 (by omega)
  clear c8 P1 N1 N2 N3 D1 G2
  go_wp2_with fail
  refine (markL_I g2 M.next (1 + m1 + M.votes.length) w2 N2' (by omega) (by omega) hl3).mono ?_
  rintro e w3 ⟨rfl, _, G3⟩
  have D3 := D2.tr (Mid.one G3 (by omega) (by omega))
  have P3 := obj_oth P2 G3 (by omega)
  obtain ⟨c10, _⟩ := at_block P3 10 _ rfl
  have N3'' := ovl_oth N3' G3 (by omega)
  clear c9 P2 N2' N3' D2 G3
  go_wp2_with fail
  refine (markL_I g3 M.mat (1 + m1 + M.votes.length + M.next.length) w3 N3'' (by omega) (by omega) hl4).mono ?_
  rintro e w4 ⟨rfl, _, G4⟩
  have D4 := D3.tr (Mid.one G4 (by omega) (by omega))
  clear c10 P3 N3'' D3 G4
  go_wp2
  go_ret
  exact ⟨1 + m1 + M.votes.length + M.next.length + M.mat.length, by simp <;> rfl, D4⟩

end Go.Proofs.Ytdcbajejgphlgaa

namespace Go.Proofs.Ytdcbajejgphlgaa
open Go.ChangeShapes Go.WideShapes Go.ChangeAt Go.RowKit Go.Joins

section
variable {H : Type} {enc : TypeId × Value → H} {W : World} {fuel : Nat} {v : Value} {y : DataW H × List MemPlace}

theorem rv_of_trod (h : DataW.trod enc Try.prog W 0 (fun _ => true) true fuel 61 [v] = some y) : ∃ xs, RV W v xs ∧ ∀ x ∈ xs, 0 ≤ x ∧ x ≤ 255 := by
  rcases open_ints Try.underlying61 Try.underlying5 (by kernel_rfl) h with ⟨hcs, _⟩ | ⟨x, len, cap, zs, hcs, _, hl, hm, hz, _, hcell, hwz⟩
  · simp only [List.cons.injEq, and_true] at hcs
    subst hcs
    exact ⟨[], ⟨none, 0, rfl, Rd.nil _ _, Nat.le_refl _, Nat.zero_le _⟩, fun x hx => by cases hx⟩
  · simp only [List.cons.injEq, and_true] at hcs
    subst hcs
    have hz' : zs.length = cap := by simpa using hz
    have hln : (zs.take len).length = len := by simp; omega
    have hrng : ∀ n ∈ zs.take len, 0 ≤ n ∧ n ≤ 255 := fun n hn => by
      have := hwz n (List.mem_of_mem_take hn)
      simp [Lit.wf, IntKind.min, IntKind.max, IntKind.signed, IntKind.bits] at this
      omega
    refine ⟨zs.take len, ⟨some x, cap, by rw [hln], ⟨rfl, fun i hi => ?_, hrng⟩, by omega, hm⟩, hrng⟩
    rw [hln] at hi
    obtain ⟨b, off, spot⟩ := x
    have hspot : spot = none := by simpa [Addr.add] using World.cell?_spot (hcell 0 (by omega))
    subst hspot
    have hc := hcell i (by omega)
    refine ⟨b, off, rfl, ?_⟩
    rw [Addr.add_lit] at hc
    rw [hc]
    simp [List.getD, hi]

theorem int_of_trod (h : DataW.trod enc Try.prog W 0 (fun _ => true) true fuel 3 [v] = some y) : ∃ q : Int, v = .int .i64 q ∧ -9223372036854775808 ≤ q ∧ q ≤ 9223372036854775807 := by
  obtain ⟨q, e0, rfl, wa⟩ := DataW.trod_int Try.underlying3 h
  simp only [List.cons.injEq, and_true] at e0
  subst e0
  simp [Lit.wf, IntKind.min, IntKind.max, IntKind.signed, IntKind.bits] at wa
  exact ⟨q, rfl, by omega, by omega⟩
end

theorem array6 {cs : Array Value} (h : cs.size = 6) : ∃ a b c d e f, cs = #[a, b, c, d, e, f] := by
  obtain ⟨l⟩ := cs
  match l, h with
  | [a, b, c, d, e, f], _ => exact ⟨a, b, c, d, e, f, rfl⟩

end Go.Proofs.Ytdcbajejgphlgaa

namespace Go.Proofs.Ytdcbajejgphlgaa
open Go.ChangeShapes Go.WideShapes Go.ChangeAt Go.RowKit Go.Joins

def intOp (d : DOp) : Prop := (-9223372036854775808 ≤ d.kind ∧ d.kind ≤ 9223372036854775807) ∧ (-9223372036854775808 ≤ d.n ∧ d.n ≤ 9223372036854775807)

set_option maxRecDepth 100000 in
theorem open_Op {H : Type} {enc : TypeId × Value → H} {W : World} {r : Reach} {b0 : Nat} {v : Value} {d : DataW H} {p : List MemPlace}
    (hv : Value.okWide Try.prog W r b0 63 v) (h : DataW.Trod enc Try.prog W 0 (fun _ => true) true 63 v d p) : ∃ D, VOp W v D ∧ rngOp D ∧ intOp D := by
  obtain ⟨c0, c1, c2, c3, y0, y1, y2, y3, n, rfl, rfl, rfl, h0, h1, h2, h3⟩ := open_agg4 Try.underlying63 (by kernel_rfl) (by kernel_rfl) hv h
  obtain ⟨k, rfl, k1, k2⟩ := int_of_trod h0
  obtain ⟨ky, rk, hk⟩ := rv_of_trod h1
  obtain ⟨vl, rv, hvl⟩ := rv_of_trod h2
  obtain ⟨q, rfl, q1, q2⟩ := int_of_trod h3
  exact ⟨⟨k, ky, vl, q⟩, ⟨c1, c2, rfl, rk, rv⟩, ⟨hk, hvl⟩, ⟨k1, k2⟩, ⟨q1, q2⟩⟩

set_option maxRecDepth 100000 in
theorem open_Cmd {H : Type} {enc : TypeId × Value → H} {W : World} {r : Reach} {b0 : Nat} {v : Value} {d : DataW H} {p : List MemPlace}
    (hv : Value.okWide Try.prog W r b0 65 v) (h : DataW.Trod enc Try.prog W 0 (fun _ => true) true 65 v d p) : ∃ D, VCmd W v D ∧ rngOp D.op ∧ intOp D.op ∧ (-9223372036854775808 ≤ D.client ∧ D.client ≤ 9223372036854775807) ∧ (-9223372036854775808 ≤ D.req ∧ D.req ≤ 9223372036854775807) := by
  obtain ⟨cs, rfl, hsz⟩ := okWide_struct Try.underlying65 hv
  have h6 : Try.prog.cellsOf 65 = 6 := by kernel_rfl
  obtain ⟨c0, c1, c2, c3, c4, c5, rfl⟩ := array6 (hsz.trans h6)
  obtain ⟨fuel, hf⟩ := h
  obtain ⟨xs, n, _, _, _, hxl, hx⟩ := DataW.trod_struct Try.underlying65 hf
  match xs, hxl with
  | [y0, y1, y2], _ =>
    have h0 : DataW.trod enc Try.prog W 0 (fun _ => true) true n 3 [c0] = some y0 := hx 0 _ rfl
    have h1 : DataW.trod enc Try.prog W 0 (fun _ => true) true n 3 [c1] = some y1 := hx 1 _ rfl
    have h2 : DataW.trod enc Try.prog W 0 (fun _ => true) true n 63 [c2, c3, c4, c5] = some y2 := hx 2 _ rfl
    obtain ⟨zs, m, _, _, _, hzl, hz⟩ := DataW.trod_struct Try.underlying63 h2
    match zs, hzl with
    | [z0, z1, z2, z3], _ =>
      have g0 : DataW.trod enc Try.prog W 0 (fun _ => true) true m 3 [c2] = some z0 := hz 0 _ rfl
      have g1 : DataW.trod enc Try.prog W 0 (fun _ => true) true m 61 [c3] = some z1 := hz 1 _ rfl
      have g2 : DataW.trod enc Try.prog W 0 (fun _ => true) true m 61 [c4] = some z2 := hz 2 _ rfl
      have g3 : DataW.trod enc Try.prog W 0 (fun _ => true) true m 3 [c5] = some z3 := hz 3 _ rfl
      obtain ⟨cl, rfl, a1, a2⟩ := int_of_trod h0
      obtain ⟨rq, rfl, b1, b2⟩ := int_of_trod h1
      obtain ⟨k, rfl, k1, k2⟩ := int_of_trod g0
      obtain ⟨ky, rk, hk⟩ := rv_of_trod g1
      obtain ⟨vl, rv, hvl⟩ := rv_of_trod g2
      obtain ⟨q, rfl, q1, q2⟩ := int_of_trod g3
      exact ⟨⟨cl, rq, ⟨k, ky, vl, q⟩⟩, ⟨c3, c4, rfl, rk, rv⟩, ⟨hk, hvl⟩, ⟨⟨k1, k2⟩, ⟨q1, q2⟩⟩, ⟨a1, a2⟩, ⟨b1, b2⟩⟩

end Go.Proofs.Ytdcbajejgphlgaa

namespace Go.Proofs.Ytdcbajejgphlgaa
open Go.ChangeShapes Go.WideShapes Go.ChangeAt Go.RowKit Go.Joins

theorem array7 {cs : Array Value} (h : cs.size = 7) : ∃ a b c d e f g, cs = #[a, b, c, d, e, f, g] := by
  obtain ⟨l⟩ := cs
  match l, h with
  | [a, b, c, d, e, f, g], _ => exact ⟨a, b, c, d, e, f, g, rfl⟩

/-- What an item's numbers are bounded by. -/
def intItem (d : DItem) : Prop := intOp d.cmd.op ∧ (-9223372036854775808 ≤ d.cmd.client ∧ d.cmd.client ≤ 9223372036854775807) ∧ (-9223372036854775808 ≤ d.cmd.req ∧ d.cmd.req ≤ 9223372036854775807) ∧ (-9223372036854775808 ≤ d.term ∧ d.term ≤ 9223372036854775807)

section
variable {H : Type} {enc : TypeId × Value → H} {W : World} {fuel : Nat} {y : DataW H × List MemPlace}

set_option maxRecDepth 100000 in
/-- Seven cells that were trodden as an item read as one. -/
theorem item_of_trod {c0 c1 c2 c3 c4 c5 c6 : Value} (hf : DataW.trod enc Try.prog W 0 (fun _ => true) true fuel 67 [c0, c1, c2, c3, c4, c5, c6] = some y) : ∃ D, VItem W (.agg #[c0, c1, c2, c3, c4, c5, c6]) D ∧ rngOp D.cmd.op ∧ intItem D := by
  obtain ⟨xs, n, _, _, _, hxl, hx⟩ := DataW.trod_struct Try.underlying67 hf
  match xs, hxl with
  | [y0, y1], _ =>
    have h0 : DataW.trod enc Try.prog W 0 (fun _ => true) true n 3 [c0] = some y0 := hx 0 _ rfl
    have hC : DataW.trod enc Try.prog W 0 (fun _ => true) true n 65 [c1, c2, c3, c4, c5, c6] = some y1 := hx 1 _ rfl
    obtain ⟨us, n', _, _, _, hul, hu⟩ := DataW.trod_struct Try.underlying65 hC
    match us, hul with
    | [u0, u1, u2], _ =>
      have e0 : DataW.trod enc Try.prog W 0 (fun _ => true) true n' 3 [c1] = some u0 := hu 0 _ rfl
      have e1 : DataW.trod enc Try.prog W 0 (fun _ => true) true n' 3 [c2] = some u1 := hu 1 _ rfl
      have e2 : DataW.trod enc Try.prog W 0 (fun _ => true) true n' 63 [c3, c4, c5, c6] = some u2 := hu 2 _ rfl
      obtain ⟨zs, m, _, _, _, hzl, hz⟩ := DataW.trod_struct Try.underlying63 e2
      match zs, hzl with
      | [z0, z1, z2, z3], _ =>
        have g0 : DataW.trod enc Try.prog W 0 (fun _ => true) true m 3 [c3] = some z0 := hz 0 _ rfl
        have g1 : DataW.trod enc Try.prog W 0 (fun _ => true) true m 61 [c4] = some z1 := hz 1 _ rfl
        have g2 : DataW.trod enc Try.prog W 0 (fun _ => true) true m 61 [c5] = some z2 := hz 2 _ rfl
        have g3 : DataW.trod enc Try.prog W 0 (fun _ => true) true m 3 [c6] = some z3 := hz 3 _ rfl
        obtain ⟨tm, rfl, t1, t2⟩ := int_of_trod h0
        obtain ⟨cl, rfl, a1, a2⟩ := int_of_trod e0
        obtain ⟨rq, rfl, b1, b2⟩ := int_of_trod e1
        obtain ⟨k, rfl, k1, k2⟩ := int_of_trod g0
        obtain ⟨ky, rk, hk⟩ := rv_of_trod g1
        obtain ⟨vl, rv, hvl⟩ := rv_of_trod g2
        obtain ⟨q, rfl, q1, q2⟩ := int_of_trod g3
        exact ⟨⟨tm, ⟨cl, rq, ⟨k, ky, vl, q⟩⟩⟩, ⟨c4, c5, rfl, rk, rv⟩, ⟨hk, hvl⟩, ⟨⟨⟨k1, k2⟩, ⟨q1, q2⟩⟩, ⟨a1, a2⟩, ⟨b1, b2⟩, ⟨t1, t2⟩⟩⟩
end

set_option maxRecDepth 100000 in
theorem open_Item {H : Type} {enc : TypeId × Value → H} {W : World} {r : Reach} {b0 : Nat} {v : Value} {d : DataW H} {p : List MemPlace}
    (hv : Value.okWide Try.prog W r b0 67 v) (h : DataW.Trod enc Try.prog W 0 (fun _ => true) true 67 v d p) : ∃ D, VItem W v D ∧ rngOp D.cmd.op ∧ intItem D := by
  obtain ⟨cs, rfl, hsz⟩ := okWide_struct Try.underlying67 hv
  have h7 : Try.prog.cellsOf 67 = 7 := by kernel_rfl
  obtain ⟨c0, c1, c2, c3, c4, c5, c6, rfl⟩ := array7 (hsz.trans h7)
  obtain ⟨fuel, hf⟩ := h
  exact item_of_trod hf

end Go.Proofs.Ytdcbajejgphlgaa

namespace Go.Proofs.Ytdcbajejgphlgaa
open Go.ChangeShapes Go.WideShapes Go.ChangeAt Go.RowKit Go.Joins

theorem list_of {α : Type} {p : Nat → α → Prop} : ∀ n : Nat, (∀ i, i < n → ∃ x, p i x) → ∃ rs : List α, rs.length = n ∧ ∀ (i : Nat) (r : α), rs[i]? = some r → p i r
  | 0, _ => ⟨[], rfl, fun i r h => by simp at h⟩
  | n + 1, h => by
    obtain ⟨rs, hl, hr⟩ := list_of n (fun i hi => h i (by omega))
    obtain ⟨x, hx⟩ := h n (by omega)
    refine ⟨rs ++ [x], by simp [hl], fun i r hi => ?_⟩
    by_cases e : i < n
    · rw [List.getElem?_append_left (by omega)] at hi
      exact hr i r hi
    · rw [List.getElem?_append_right (by omega)] at hi
      have e2 : i - rs.length = 0 := by
        have := (List.getElem?_eq_some_iff.1 hi).1
        simp at this
        omega
      rw [e2] at hi
      simp at hi
      obtain rfl : i = n := by omega
      rw [← hi]
      exact hx

section
variable {H : Type} {enc : TypeId × Value → H} {W : World} {fuel : Nat} {v : Value} {y : DataW H × List MemPlace}

set_option maxRecDepth 100000 in
/-- A slice of whatever structs: its cells, element by element. -/
theorem sl_of_trod {t e : TypeId} {k : Nat} (ht : Try.prog.underlying t = some (.slice e)) (hc : Try.prog.cellsOf e = k) (hk : 0 < k)
    (h : DataW.trod enc Try.prog W 0 (fun _ => true) true fuel t [v] = some y) :
    ∃ (n : Nat) (C : Nat → Nat → Value), SL W k v n C ∧ ∃ (m : Nat) (D : Nat → DataW H × List MemPlace), ∀ i, i < n → DataW.trod enc Try.prog W 0 (fun _ => true) true m e ((List.range k).map (C i)) = some (D i) := by
  rcases Go.Deep.open_slice ht h with ⟨hcs, _⟩ | ⟨a, len, cap, m, n, D, Pl, hcs, _, hl, hm, hmm, _, hx⟩
  · simp only [List.cons.injEq, and_true] at hcs
    subst hcs
    exact ⟨0, fun _ _ => .int .i64 0, ⟨none, 0, rfl, Nat.le_refl _, Nat.zero_le _, fun h => absurd h (by omega)⟩, 0, fun _ => y, fun i hi => absurd hi (by omega)⟩
  · simp only [List.cons.injEq, and_true] at hcs
    subst hcs
    rw [hc] at hx
    have hmm' : m = cap := by rw [hmm]; simp
    subst hmm'
    have hex : ∀ i, i < len → ∃ cs' : List Value, W.cells? 0 (a.add (i * k)) k = some cs' ∧ DataW.trod enc Try.prog W 0 (fun _ => true) true n e cs' = some (D i, Pl i) := fun i hi => hx i (by omega)
    obtain ⟨cs, hcsl, hcs⟩ := list_of len hex
    have hget : ∀ i, i < len → ∃ c, cs[i]? = some c := fun i hi => ⟨_, List.getElem?_eq_getElem (by omega)⟩
    refine ⟨len, fun i j => ((cs.getD i []).getD j (.int .i64 0)), ⟨some a, m, rfl, hl, hm, fun hpos => ?_⟩, n, fun i => (D i, Pl i), fun i hi => ?_⟩
    · obtain ⟨c, hcc⟩ := hget 0 hpos
      obtain ⟨h1, _⟩ := hcs 0 c hcc
      obtain ⟨_, hln, hce⟩ := World.cells?_some h1
      obtain ⟨b, off, spot⟩ := a
      have hc0 := hce 0 hk
      have hsome : W.cell? ((Addr.add ⟨b, off, spot⟩ (0 * k)).add 0) = some (c[0]'(by omega)) := by rw [hc0, List.getElem?_eq_getElem (by omega)]
      have hspot : spot = none := by simpa [Addr.add] using World.cell?_spot hsome
      subst hspot
      have hbl := World.block_lt_of_cell? W _ hsome
      rw [Addr.add_lit, Addr.add_lit] at hbl
      refine ⟨b, off, rfl, hbl, fun i hi j hj => ?_⟩
      obtain ⟨c', hcc'⟩ := hget i hi
      obtain ⟨h1', _⟩ := hcs i c' hcc'
      obtain ⟨_, hln', hce'⟩ := World.cells?_some h1'
      have := hce' j hj
      rw [Addr.add_lit, Addr.add_lit] at this
      rw [this, List.getElem?_eq_getElem (by omega)]
      simp [List.getD, hcc', List.getElem?_eq_getElem (show j < c'.length by omega)]
    · obtain ⟨c', hcc'⟩ := hget i hi
      obtain ⟨h1', h2'⟩ := hcs i c' hcc'
      obtain ⟨_, hln', _⟩ := World.cells?_some h1'
      have hce : (List.range k).map (fun j => ((cs.getD i []).getD j (.int .i64 0))) = c' := by
        apply List.ext_getElem?
        intro j
        by_cases hj : j < k
        · simp [List.getD, hcc', hj, List.getElem?_eq_getElem (show j < c'.length by omega)]
        · simp [hj, hln']
      rw [hce]
      exact h2'

theorem bool_of_trod (h : DataW.trod enc Try.prog W 0 (fun _ => true) true fuel 4 [v] = some y) : ∃ b, v = .bool b := by
  obtain ⟨b, e0, _⟩ := DataW.trod_bool Try.underlying4 h
  simp only [List.cons.injEq, and_true] at e0
  exact ⟨b, e0⟩
end

end Go.Proofs.Ytdcbajejgphlgaa

namespace Go.Proofs.Ytdcbajejgphlgaa
open Go.ChangeShapes Go.WideShapes Go.ChangeAt Go.RowKit Go.Joins

section
variable {H : Type} {enc : TypeId × Value → H} {W : World} {fuel : Nat} {v : Value} {y : DataW H × List MemPlace}

set_option maxRecDepth 100000 in
theorem items_of_trod (h : DataW.trod enc Try.prog W 0 (fun _ => true) true fuel 22 [v] = some y) : ∃ rs, VItems W v rs := by
  obtain ⟨n, C, hS, m, D, hD⟩ := sl_of_trod (k := 7) Try.underlying22 (by kernel_rfl) (by omega) h
  obtain ⟨rs, hl, hr⟩ := list_of (p := fun i (d : DItem) => C i 0 = .int .i64 d.term ∧ C i 1 = .int .i64 d.cmd.client ∧ C i 2 = .int .i64 d.cmd.req ∧ C i 3 = .int .i64 d.cmd.op.kind ∧ RV W (C i 4) d.cmd.op.key ∧ RV W (C i 5) d.cmd.op.val ∧ C i 6 = .int .i64 d.cmd.op.n) n (fun i hi => by
    have hf : DataW.trod enc Try.prog W 0 (fun _ => true) true m 67 [C i 0, C i 1, C i 2, C i 3, C i 4, C i 5, C i 6] = some (D i) := hD i hi
    obtain ⟨d, ⟨kv, vv, e, rk, rv⟩, _, _⟩ := item_of_trod hf
    simp only [Value.agg.injEq, Array.mk.injEq, List.cons.injEq, and_true] at e
    obtain ⟨e0, e1, e2, e3, e4, e5, e6⟩ := e
    exact ⟨d, e0, e1, e2, e3, by rw [e4]; exact rk, by rw [e5]; exact rv, e6⟩)
  exact ⟨rs, C, by rw [hl]; exact hS, hr⟩
end

end Go.Proofs.Ytdcbajejgphlgaa

namespace Go.Proofs.Ytdcbajejgphlgaa
open Go.ChangeShapes Go.WideShapes Go.ChangeAt Go.RowKit Go.Joins

theorem array11 {cs : Array Value} (h : cs.size = 11) : ∃ c0 c1 c2 c3 c4 c5 c6 c7 c8 c9 c10, cs = #[c0, c1, c2, c3, c4, c5, c6, c7, c8, c9, c10] := by
  obtain ⟨l⟩ := cs
  match l, h with
  | [c0, c1, c2, c3, c4, c5, c6, c7, c8, c9, c10], _ => exact ⟨c0, c1, c2, c3, c4, c5, c6, c7, c8, c9, c10, rfl⟩

theorem vl_of_SL {α : Type} {f : α → Value} {w : World} {v : Value} {xs : List α} {C : Nat → Nat → Value} (h : SL w 1 v xs.length C) (hC : ∀ (i : Nat) (x : α), xs[i]? = some x → C i 0 = f x) : VL f w v xs := by
  obtain ⟨a, cap, hv, h1, h2, h3⟩ := h
  refine ⟨a, cap, hv, h1, h2, fun hn => ?_⟩
  obtain ⟨b, o, ha, hb, hc⟩ := h3 hn
  refine ⟨b, o, ha, hb, fun i x hx => ?_⟩
  have := hc i (List.getElem?_eq_some_iff.1 hx).1 0 (by omega)
  rw [Nat.mul_one, Nat.add_zero] at this
  rw [this, hC i x hx]

section
variable {H : Type} {enc : TypeId × Value → H} {W : World} {fuel : Nat} {v : Value} {y : DataW H × List MemPlace}

set_option maxRecDepth 100000 in
theorem ints_of_trod (h : DataW.trod enc Try.prog W 0 (fun _ => true) true fuel 24 [v] = some y) : ∃ xs, VL fI W v xs := by
  obtain ⟨n, C, hS, m, D, hD⟩ := sl_of_trod (k := 1) Try.underlying24 (by kernel_rfl) (by omega) h
  obtain ⟨rs, hl, hr⟩ := list_of (p := fun i (d : Int) => C i 0 = fI d) n (fun i hi => by
    have hf : DataW.trod enc Try.prog W 0 (fun _ => true) true m 3 [C i 0] = some (D i) := hD i hi
    obtain ⟨q, e, _, _⟩ := int_of_trod hf
    exact ⟨q, e⟩)
  exact ⟨rs, vl_of_SL (by rw [hl]; exact hS) hr⟩
set_option maxRecDepth 100000 in
theorem bools_of_trod (h : DataW.trod enc Try.prog W 0 (fun _ => true) true fuel 23 [v] = some y) : ∃ xs, VL fB W v xs := by
  obtain ⟨n, C, hS, m, D, hD⟩ := sl_of_trod (k := 1) Try.underlying23 (by kernel_rfl) (by omega) h
  obtain ⟨rs, hl, hr⟩ := list_of (p := fun i (d : Bool) => C i 0 = fB d) n (fun i hi => by
    have hf : DataW.trod enc Try.prog W 0 (fun _ => true) true m 4 [C i 0] = some (D i) := hD i hi
    obtain ⟨q, e⟩ := bool_of_trod hf
    exact ⟨q, e⟩)
  exact ⟨rs, vl_of_SL (by rw [hl]; exact hS) hr⟩
end

set_option maxRecDepth 100000 in
theorem open_Node {H : Type} {enc : TypeId × Value → H} {W : World} {r : Reach} {b0 : Nat} {v : Value} {d : DataW H} {p : List MemPlace}
    (hv : Value.okWide Try.prog W r b0 26 v) (h : DataW.Trod enc Try.prog W 0 (fun _ => true) true 26 v d p) : ∃ M, VNode W v M ∧ True ∧ (-9223372036854775808 ≤ M.term ∧ M.term ≤ 9223372036854775807) := by
  obtain ⟨cs, rfl, hsz⟩ := okWide_struct Try.underlying26 hv
  have h99 : Try.prog.cellsOf 26 = 11 := by kernel_rfl
  obtain ⟨c0, c1, c2, c3, c4, c5, c6, c7, c8, c9, c10, rfl⟩ := array11 (hsz.trans h99)
  obtain ⟨fuel, hf⟩ := h
  obtain ⟨xs, n, _, _, _, hxl, hx⟩ := DataW.trod_struct Try.underlying26 hf
  match xs, hxl with
  | [y0, y1, y2, y3, y4, y5, y6, y7, y8, y9, y10], _ =>
    have h0 : DataW.trod enc Try.prog W 0 (fun _ => true) true n 3 [c0] = some y0 := hx 0 _ rfl
    have h1 : DataW.trod enc Try.prog W 0 (fun _ => true) true n 3 [c1] = some y1 := hx 1 _ rfl
    have h2 : DataW.trod enc Try.prog W 0 (fun _ => true) true n 3 [c2] = some y2 := hx 2 _ rfl
    have h3 : DataW.trod enc Try.prog W 0 (fun _ => true) true n 22 [c3] = some y3 := hx 3 _ rfl
    have h4 : DataW.trod enc Try.prog W 0 (fun _ => true) true n 3 [c4] = some y4 := hx 4 _ rfl
    have h5 : DataW.trod enc Try.prog W 0 (fun _ => true) true n 3 [c5] = some y5 := hx 5 _ rfl
    have h6 : DataW.trod enc Try.prog W 0 (fun _ => true) true n 3 [c6] = some y6 := hx 6 _ rfl
    have h7 : DataW.trod enc Try.prog W 0 (fun _ => true) true n 3 [c7] = some y7 := hx 7 _ rfl
    have h8 : DataW.trod enc Try.prog W 0 (fun _ => true) true n 23 [c8] = some y8 := hx 8 _ rfl
    have h9 : DataW.trod enc Try.prog W 0 (fun _ => true) true n 24 [c9] = some y9 := hx 9 _ rfl
    have h10 : DataW.trod enc Try.prog W 0 (fun _ => true) true n 24 [c10] = some y10 := hx 10 _ rfl
    obtain ⟨q0, rfl, _, _⟩ := int_of_trod h0
    obtain ⟨q1, rfl, a1, z1⟩ := int_of_trod h1
    obtain ⟨q2, rfl, _, _⟩ := int_of_trod h2
    obtain ⟨q4, rfl, _, _⟩ := int_of_trod h4
    obtain ⟨q5, rfl, _, _⟩ := int_of_trod h5
    obtain ⟨q6, rfl, _, _⟩ := int_of_trod h6
    obtain ⟨q7, rfl, _, _⟩ := int_of_trod h7
    obtain ⟨q3, v3⟩ := items_of_trod h3
    obtain ⟨q8, v8⟩ := bools_of_trod h8
    obtain ⟨q9, v9⟩ := ints_of_trod h9
    obtain ⟨q10, v10⟩ := ints_of_trod h10
    exact ⟨⟨q0, q1, q2, q3, q4, q5, q6, q7, q8, q9, q10⟩, ⟨c3, c8, c9, c10, rfl, v3, v8, v9, v10⟩, trivial, a1, z1⟩

end Go.Proofs.Ytdcbajejgphlgaa

namespace Go.Proofs.Ytdcbajejgphlgaa
open Go.RowKit

theorem keptN {w w' : World} {g : Nat} {a0 a1 a2 a3 a4 a5 a6 a7 a8 a9 a10 : Value} (h : w.cell? ⟨g, 0, none⟩ = some a0 ∧ w.cell? ⟨g, 1, none⟩ = some a1 ∧ w.cell? ⟨g, 2, none⟩ = some a2 ∧ w.cell? ⟨g, 3, none⟩ = some a3 ∧ w.cell? ⟨g, 4, none⟩ = some a4 ∧ w.cell? ⟨g, 5, none⟩ = some a5 ∧ w.cell? ⟨g, 6, none⟩ = some a6 ∧ w.cell? ⟨g, 7, none⟩ = some a7 ∧ w.cell? ⟨g, 8, none⟩ = some a8 ∧ w.cell? ⟨g, 9, none⟩ = some a9 ∧ w.cell? ⟨g, 10, none⟩ = some a10) (hb : Below w.heap.size w w') :
    w'.cell? ⟨g, 0, none⟩ = some a0 ∧ w'.cell? ⟨g, 1, none⟩ = some a1 ∧ w'.cell? ⟨g, 2, none⟩ = some a2 ∧ w'.cell? ⟨g, 3, none⟩ = some a3 ∧ w'.cell? ⟨g, 4, none⟩ = some a4 ∧ w'.cell? ⟨g, 5, none⟩ = some a5 ∧ w'.cell? ⟨g, 6, none⟩ = some a6 ∧ w'.cell? ⟨g, 7, none⟩ = some a7 ∧ w'.cell? ⟨g, 8, none⟩ = some a8 ∧ w'.cell? ⟨g, 9, none⟩ = some a9 ∧ w'.cell? ⟨g, 10, none⟩ = some a10 := by
  have hg : g < w.heap.size := World.block_lt_of_cell? w _ h.1
  obtain ⟨h0, h1, h2, h3, h4, h5, h6, h7, h8, h9, h10⟩ := h
  exact ⟨(hb.cell (p := ⟨g, 0, none⟩) hg).trans h0, (hb.cell (p := ⟨g, 1, none⟩) hg).trans h1, (hb.cell (p := ⟨g, 2, none⟩) hg).trans h2, (hb.cell (p := ⟨g, 3, none⟩) hg).trans h3, (hb.cell (p := ⟨g, 4, none⟩) hg).trans h4, (hb.cell (p := ⟨g, 5, none⟩) hg).trans h5, (hb.cell (p := ⟨g, 6, none⟩) hg).trans h6, (hb.cell (p := ⟨g, 7, none⟩) hg).trans h7, (hb.cell (p := ⟨g, 8, none⟩) hg).trans h8, (hb.cell (p := ⟨g, 9, none⟩) hg).trans h9, (hb.cell (p := ⟨g, 10, none⟩) hg).trans h10⟩
theorem keptN2 {w w' : World} {g g' : Nat} {a0 a1 a2 a3 a4 a5 a6 a7 a8 a9 a10 b0 b1 b2 b3 b4 b5 b6 b7 b8 b9 b10 : Value} (h : (w.cell? ⟨g, 0, none⟩ = some a0 ∧ w.cell? ⟨g, 1, none⟩ = some a1 ∧ w.cell? ⟨g, 2, none⟩ = some a2 ∧ w.cell? ⟨g, 3, none⟩ = some a3 ∧ w.cell? ⟨g, 4, none⟩ = some a4 ∧ w.cell? ⟨g, 5, none⟩ = some a5 ∧ w.cell? ⟨g, 6, none⟩ = some a6 ∧ w.cell? ⟨g, 7, none⟩ = some a7 ∧ w.cell? ⟨g, 8, none⟩ = some a8 ∧ w.cell? ⟨g, 9, none⟩ = some a9 ∧ w.cell? ⟨g, 10, none⟩ = some a10) ∧ (w.cell? ⟨g', 0, none⟩ = some b0 ∧ w.cell? ⟨g', 1, none⟩ = some b1 ∧ w.cell? ⟨g', 2, none⟩ = some b2 ∧ w.cell? ⟨g', 3, none⟩ = some b3 ∧ w.cell? ⟨g', 4, none⟩ = some b4 ∧ w.cell? ⟨g', 5, none⟩ = some b5 ∧ w.cell? ⟨g', 6, none⟩ = some b6 ∧ w.cell? ⟨g', 7, none⟩ = some b7 ∧ w.cell? ⟨g', 8, none⟩ = some b8 ∧ w.cell? ⟨g', 9, none⟩ = some b9 ∧ w.cell? ⟨g', 10, none⟩ = some b10)) (hb : Below w.heap.size w w') :
    (w'.cell? ⟨g, 0, none⟩ = some a0 ∧ w'.cell? ⟨g, 1, none⟩ = some a1 ∧ w'.cell? ⟨g, 2, none⟩ = some a2 ∧ w'.cell? ⟨g, 3, none⟩ = some a3 ∧ w'.cell? ⟨g, 4, none⟩ = some a4 ∧ w'.cell? ⟨g, 5, none⟩ = some a5 ∧ w'.cell? ⟨g, 6, none⟩ = some a6 ∧ w'.cell? ⟨g, 7, none⟩ = some a7 ∧ w'.cell? ⟨g, 8, none⟩ = some a8 ∧ w'.cell? ⟨g, 9, none⟩ = some a9 ∧ w'.cell? ⟨g, 10, none⟩ = some a10) ∧ (w'.cell? ⟨g', 0, none⟩ = some b0 ∧ w'.cell? ⟨g', 1, none⟩ = some b1 ∧ w'.cell? ⟨g', 2, none⟩ = some b2 ∧ w'.cell? ⟨g', 3, none⟩ = some b3 ∧ w'.cell? ⟨g', 4, none⟩ = some b4 ∧ w'.cell? ⟨g', 5, none⟩ = some b5 ∧ w'.cell? ⟨g', 6, none⟩ = some b6 ∧ w'.cell? ⟨g', 7, none⟩ = some b7 ∧ w'.cell? ⟨g', 8, none⟩ = some b8 ∧ w'.cell? ⟨g', 9, none⟩ = some b9 ∧ w'.cell? ⟨g', 10, none⟩ = some b10) :=
  ⟨keptN h.1 hb, keptN h.2 hb⟩
theorem vm_of {lo : Nat} {w : World} {D : DMsg} {a : Option Addr} {c : Nat} {F : Nat → Nat → Value} (h : IG lo w (.slice a D.items.length c) D.items F) (hr : ∀ (i : Nat) (s : DItem), D.items[i]? = some s → (∀ x ∈ s.cmd.op.key, 0 ≤ x ∧ x ≤ 255) ∧ (∀ x ∈ s.cmd.op.val, 0 ≤ x ∧ x ≤ 255)) : VMsg w (msgV D (.slice a D.items.length c)) D := ⟨_, rfl, h.v hr⟩

set_option maxRecDepth 100000 in
set_option maxHeartbeats 8000000 in
theorem law_AddFor (v : Value) (M : DNode) (s z : Int) (w : World) (h : VNode w v M) (_h1 : True) (_h2 : -9223372036854775808 ≤ M.term ∧ M.term ≤ 9223372036854775807) (_h3 : -9223372036854775808 ≤ s) (_h4 : s ≤ 9223372036854775807) (_h5 : -9223372036854775808 ≤ z) (_h6 : z ≤ 9223372036854775807) :
    Calls Try.prog 3 #[v, .int .i64 s, .int .i64 z] w fun e w' => e = .returned (.bool true) ∧ Below w.heap.size w w' := by
  have hE : ∀ w : World, ∀ o, Ext w (w.alloc o) := fun w o => World.grownBy_alloc _ _ _
  have hB : ∀ w : World, ∀ o, Below w.heap.size w (w.alloc o) := fun w o => (Below.refl _ w).alloc (Nat.le_refl _) _
  have h0 : Hid (VNode w v M) := h
  have hrng : Hid (∀ (i : Nat) (s : DItem), M.log[i]? = some s → (∀ x ∈ s.cmd.op.key, 0 ≤ x ∧ x ≤ 255) ∧ (∀ x ∈ s.cmd.op.val, 0 ≤ x ∧ x ≤ 255)) := by
    obtain ⟨_, _, _, _, _, ⟨C, _, hC⟩, _⟩ := h
    intro i s hs
    obtain ⟨_, _, _, _, r4, r5, _⟩ := hC i s hs
    exact ⟨rv_rng r4, rv_rng r5⟩
  obtain ⟨lv, bv, nv, mv, rfl, _, _, _, _⟩ := h
  clear _h1 _h2 _h3 _h4 _h5 _h6
  obtain ⟨D, hD⟩ : ∃ D, D = adD M s z := ⟨_, rfl⟩
  have HD : Hid (adD M s z = D) := hD.symm
  obtain ⟨ok, hok⟩ : ∃ ok, ok = tB (AdP M s z) := ⟨_, rfl⟩
  have HOK : Hid (tB (AdP M s z) = ok) := hok.symm
  have HRD : Hid (∀ (i : Nat) (s : DItem), D.items[i]? = some s → (∀ x ∈ s.cmd.op.key, 0 ≤ x ∧ x ≤ 255) ∧ (∀ x ∈ s.cmd.op.val, 0 ≤ x ∧ x ≤ 255)) := fun i x hx => by
    rw [hD] at hx
    obtain ⟨j, hj⟩ := ad_mem hx
    exact hrng.out j x hj
  clear hD hok
  have HPO : Hid (∀ W e W', AdPost M s z W e W' → ∃ a c F, e = .returned (.tuple #[msgV D (.slice a D.items.length c), .bool ok]) ∧ IG W.heap.size W' (.slice a D.items.length c) D.items F ∧ Below W.heap.size W W') := fun W e W' hh => by
    unfold AdPost at hh
    rw [HD.out, HOK.out] at hh
    exact hh
  go_enter Try.func3, Try.ntmps3
  go_wp2_with fail
  refine (szN _ M 1048576 _ (h0.out.ext (hE _ _)) (by omega) (by omega)).mono ?_
  rintro e w1 ⟨r, rfl, hrr, b1⟩
  have B1 := (hB w _).trans (b1.mono (by simp))
  have P1 := below_blk b1 (by simp) (heap_alloc_new w (.cells #[.int .i64 M.id, .int .i64 M.term, .int .i64 M.vote, lv, .int .i64 M.commit, .int .i64 M.role, .int .i64 M.lead, .int .i64 M.wait, bv, nv, mv] 26 (0, 0)))
  rcases hrr with ⟨h1, rfl⟩ | ⟨h1, h2⟩
  · go_wp2_with fail
    go_ret
    exact ⟨rfl, B1⟩
  · have hzz : zN M ≤ 1048576 := by omega
    have HL : Hid (LenN M 1048576) := lenN_of hzz
    have HLL : Hid (LogL D.items) := by
      have hq : LogL M.log := by
        refine ⟨HL.out.1, fun i x hx => ⟨Nat.le_trans (HL.out.2.1 i x hx).1 (by omega), Nat.le_trans (HL.out.2.1 i x hx).2 (by omega)⟩, ?_⟩
        unfold zN at hzz
        omega
      have := ad_logL s z hq
      rw [HD.out] at this
      exact this
    have HLM : Hid (LenM D 2097152 ∧ D.items.length ≤ 1048576) := ⟨⟨Nat.le_trans HLL.out.1 (by omega), HLL.out.2.1⟩, HLL.out.1⟩
    have HLX : Hid (∀ (i : Nat) s, M.log[i]? = some s → s.cmd.op.key.length ≤ 2097152 ∧ s.cmd.op.val.length ≤ 2097152) := fun i x hx => ⟨Nat.le_trans (HL.out.2.1 i x hx).1 (by omega), Nat.le_trans (HL.out.2.1 i x hx).2 (by omega)⟩
    have hr0 : 0 ≤ r := by omega
    have hz1 : w.heap.size < w1.heap.size := (Array.getElem?_eq_some_iff.1 P1).1
    clear h1 h2 b1 hzz
    obtain ⟨p0, _⟩ := at_block P1 0 _ rfl
    obtain ⟨p1, _⟩ := at_block P1 1 _ rfl
    obtain ⟨p2, _⟩ := at_block P1 2 _ rfl
    obtain ⟨p3, _⟩ := at_block P1 3 _ rfl
    obtain ⟨p4, _⟩ := at_block P1 4 _ rfl
    obtain ⟨p5, _⟩ := at_block P1 5 _ rfl
    obtain ⟨p6, _⟩ := at_block P1 6 _ rfl
    obtain ⟨p7, _⟩ := at_block P1 7 _ rfl
    obtain ⟨p8, _⟩ := at_block P1 8 _ rfl
    obtain ⟨p9, _⟩ := at_block P1 9 _ rfl
    obtain ⟨p10, _⟩ := at_block P1 10 _ rfl
    go_wp2_with fail
    refine (toN _ M w1 (h0.out.ext (ext_below B1)) HL.out).mono ?_
    rintro e w2 ⟨v2, rfl, o2, b2⟩
    have B2 := B1.trans (b2.mono B1.size)
    go_wp2_with fail
    refine (sAddForV _ M s z w2 o2 HLX.out).mono ?_
    rintro e w3 h3
    obtain ⟨ra, rb, rF, rfl, R3, b3⟩ := HPO.out _ _ _ h3
    have B3 := B2.trans (b3.mono B2.size)
    have hz3 : w.heap.size < w3.heap.size := by have := b2.size; have := b3.size; omega
    have P3 := below_blk b3 (by have := b2.size; omega) (below_blk b2 hz1 P1)
    have HV3 : Hid (VMsg w3 (msgV D (.slice ra D.items.length rb)) D) := vm_of R3 HRD.out
    clear h3 R3 p0 p1 p2 p3 p4 p5 p6 p7 p8 p9 p10 o2 b2 b3 P1 B1 B2
    have P3' : (w3.alloc (.cells #[.int .i64 D.kind, .int .i64 D.from_, .int .i64 D.dst, .int .i64 D.term, .int .i64 D.prev, .int .i64 D.prevTerm, .slice ra D.items.length rb, .int .i64 D.commit, .bool D.yes] 30 (0, 0))).heap[w.heap.size]? = some (.cells #[.int .i64 M.id, .int .i64 M.term, .int .i64 M.vote, lv, .int .i64 M.commit, .int .i64 M.role, .int .i64 M.lead, .int .i64 M.wait, bv, nv, mv] 26 (0, 0)) := (Below.heap_alloc w3 _ _ hz3).trans P3
    have A3 := heap_alloc_new w3 (.cells #[.int .i64 D.kind, .int .i64 D.from_, .int .i64 D.dst, .int .i64 D.term, .int .i64 D.prev, .int .i64 D.prevTerm, .slice ra D.items.length rb, .int .i64 D.commit, .bool D.yes] 30 (0, 0))
    have B3' := B3.alloc (by omega) (.cells #[.int .i64 D.kind, .int .i64 D.from_, .int .i64 D.dst, .int .i64 D.term, .int .i64 D.prev, .int .i64 D.prevTerm, .slice ra D.items.length rb, .int .i64 D.commit, .bool D.yes] 30 (0, 0))
    have zU : (w3.alloc (.cells #[.int .i64 D.kind, .int .i64 D.from_, .int .i64 D.dst, .int .i64 D.term, .int .i64 D.prev, .int .i64 D.prevTerm, .slice ra D.items.length rb, .int .i64 D.commit, .bool D.yes] 30 (0, 0))).heap.size = w3.heap.size + 1 := by simp
    have HV3' : Hid (VMsg (w3.alloc (.cells #[.int .i64 D.kind, .int .i64 D.from_, .int .i64 D.dst, .int .i64 D.term, .int .i64 D.prev, .int .i64 D.prevTerm, .slice ra D.items.length rb, .int .i64 D.commit, .bool D.yes] 30 (0, 0))) (msgV D (.slice ra D.items.length rb)) D) := HV3.out.ext (hE _ _)
    obtain ⟨p0, _⟩ := at_block P3' 0 _ rfl
    obtain ⟨p1, _⟩ := at_block P3' 1 _ rfl
    obtain ⟨p2, _⟩ := at_block P3' 2 _ rfl
    obtain ⟨p3, _⟩ := at_block P3' 3 _ rfl
    obtain ⟨p4, _⟩ := at_block P3' 4 _ rfl
    obtain ⟨p5, _⟩ := at_block P3' 5 _ rfl
    obtain ⟨p6, _⟩ := at_block P3' 6 _ rfl
    obtain ⟨p7, _⟩ := at_block P3' 7 _ rfl
    obtain ⟨p8, _⟩ := at_block P3' 8 _ rfl
    obtain ⟨p9, _⟩ := at_block P3' 9 _ rfl
    obtain ⟨p10, _⟩ := at_block P3' 10 _ rfl
    go_wp2_with fail
    generalize w3.alloc (.cells #[.int .i64 D.kind, .int .i64 D.from_, .int .i64 D.dst, .int .i64 D.term, .int .i64 D.prev, .int .i64 D.prevTerm, .slice ra D.items.length rb, .int .i64 D.commit, .bool D.yes] 30 (0, 0)) = U at P3' A3 B3' zU HV3' p0 p1 p2 p3 p4 p5 p6 p7 p8 p9 p10 ⊢
    clear P3 B3 HV3
    refine (toNO _ M U (h0.out.ext (ext_below B3')) HL.out).mono ?_
    rintro e w4 ⟨v4, rfl, o4, b4⟩
    have B4 := B3'.trans (b4.mono (by omega))
    have hz4 := b4.size
    have HS4 : Hid (ShpN U.heap.size w4.heap.size w4 v4 M) := shpN_of o4 HL.out
    have HV4 : Hid (VNode w4 v4 M) := o4.v HL.out hrng.out
    obtain ⟨g0, g1, g2, g3, rfl, _⟩ := o4
    have CU4 : Below U.heap.size U w4 := b4
    clear p0 p1 p2 p3 p4 p5 p6 p7 p8 p9 p10 b4
    go_wp2_with fail
    refine (iAddForV _ M s z _ (HV4.out.ext (hE _ _)) HLX.out).mono ?_
    rintro e w5 h5
    obtain ⟨ta, tb, tF, rfl, R5, b5⟩ := HPO.out _ _ _ h5
    have T5 := below_blk b5 (by simp) (heap_alloc_new w4 (.cells #[.int .i64 M.id, .int .i64 M.term, .int .i64 M.vote, .slice (some ⟨g0, 0, none⟩) M.log.length M.log.length, .int .i64 M.commit, .int .i64 M.role, .int .i64 M.lead, .int .i64 M.wait, .slice (some ⟨g1, 0, none⟩) M.votes.length M.votes.length, .slice (some ⟨g2, 0, none⟩) M.next.length M.next.length, .slice (some ⟨g3, 0, none⟩) M.mat.length M.mat.length] 34 (0, 0)))
    have X5 : Ext w4 w5 := (hE w4 (.cells #[.int .i64 M.id, .int .i64 M.term, .int .i64 M.vote, .slice (some ⟨g0, 0, none⟩) M.log.length M.log.length, .int .i64 M.commit, .int .i64 M.role, .int .i64 M.lead, .int .i64 M.wait, .slice (some ⟨g1, 0, none⟩) M.votes.length M.votes.length, .slice (some ⟨g2, 0, none⟩) M.next.length M.next.length, .slice (some ⟨g3, 0, none⟩) M.mat.length M.mat.length] 34 (0, 0))).tr (ext_below b5)
    have CU5 : Below U.heap.size U w5 := (CU4.alloc (by omega) (.cells #[.int .i64 M.id, .int .i64 M.term, .int .i64 M.vote, .slice (some ⟨g0, 0, none⟩) M.log.length M.log.length, .int .i64 M.commit, .int .i64 M.role, .int .i64 M.lead, .int .i64 M.wait, .slice (some ⟨g1, 0, none⟩) M.votes.length M.votes.length, .slice (some ⟨g2, 0, none⟩) M.next.length M.next.length, .slice (some ⟨g3, 0, none⟩) M.mat.length M.mat.length] 34 (0, 0))).trans (b5.mono (by simp; omega))
    have B5 : Below w.heap.size w w5 := (B4.alloc (by omega) (.cells #[.int .i64 M.id, .int .i64 M.term, .int .i64 M.vote, .slice (some ⟨g0, 0, none⟩) M.log.length M.log.length, .int .i64 M.commit, .int .i64 M.role, .int .i64 M.lead, .int .i64 M.wait, .slice (some ⟨g1, 0, none⟩) M.votes.length M.votes.length, .slice (some ⟨g2, 0, none⟩) M.next.length M.next.length, .slice (some ⟨g3, 0, none⟩) M.mat.length M.mat.length] 34 (0, 0))).trans (b5.mono (by simp; omega))
    have hz5 : w4.heap.size < w5.heap.size := (Array.getElem?_eq_some_iff.1 T5).1
    have HR5 : Hid (IG (w4.heap.size + 1) w5 (.slice ta D.items.length tb) D.items tF) := R5.mono (by simp)
    have HV5 : Hid (VMsg w5 (msgV D (.slice ta D.items.length tb)) D) := vm_of HR5.out HRD.out
    have HS5 : Hid (ShpN U.heap.size w4.heap.size w5 (.agg #[.int .i64 M.id, .int .i64 M.term, .int .i64 M.vote, .slice (some ⟨g0, 0, none⟩) M.log.length M.log.length, .int .i64 M.commit, .int .i64 M.role, .int .i64 M.lead, .int .i64 M.wait, .slice (some ⟨g1, 0, none⟩) M.votes.length M.votes.length, .slice (some ⟨g2, 0, none⟩) M.next.length M.next.length, .slice (some ⟨g3, 0, none⟩) M.mat.length M.mat.length]) M ∧ VNode w5 (.agg #[.int .i64 M.id, .int .i64 M.term, .int .i64 M.vote, .slice (some ⟨g0, 0, none⟩) M.log.length M.log.length, .int .i64 M.commit, .int .i64 M.role, .int .i64 M.lead, .int .i64 M.wait, .slice (some ⟨g1, 0, none⟩) M.votes.length M.votes.length, .slice (some ⟨g2, 0, none⟩) M.next.length M.next.length, .slice (some ⟨g3, 0, none⟩) M.mat.length M.mat.length]) M) := ⟨HS4.out.ext X5, HV4.out.ext X5⟩
    clear h5 b5 R5 CU4 HS4 HV4 B4 X5
    have G5 := heap_alloc_new w5 (.cells #[.int .i64 D.kind, .int .i64 D.from_, .int .i64 D.dst, .int .i64 D.term, .int .i64 D.prev, .int .i64 D.prevTerm, .slice ta D.items.length tb, .int .i64 D.commit, .bool D.yes] 30 (0, 0))
    have T5' : (w5.alloc (.cells #[.int .i64 D.kind, .int .i64 D.from_, .int .i64 D.dst, .int .i64 D.term, .int .i64 D.prev, .int .i64 D.prevTerm, .slice ta D.items.length tb, .int .i64 D.commit, .bool D.yes] 30 (0, 0))).heap[w4.heap.size]? = some (.cells #[.int .i64 M.id, .int .i64 M.term, .int .i64 M.vote, .slice (some ⟨g0, 0, none⟩) M.log.length M.log.length, .int .i64 M.commit, .int .i64 M.role, .int .i64 M.lead, .int .i64 M.wait, .slice (some ⟨g1, 0, none⟩) M.votes.length M.votes.length, .slice (some ⟨g2, 0, none⟩) M.next.length M.next.length, .slice (some ⟨g3, 0, none⟩) M.mat.length M.mat.length] 34 (0, 0)) := (Below.heap_alloc w5 _ _ hz5).trans T5
    have CU5' := CU5.alloc (by omega) (.cells #[.int .i64 D.kind, .int .i64 D.from_, .int .i64 D.dst, .int .i64 D.term, .int .i64 D.prev, .int .i64 D.prevTerm, .slice ta D.items.length tb, .int .i64 D.commit, .bool D.yes] 30 (0, 0))
    have B5' := B5.alloc B5.size (.cells #[.int .i64 D.kind, .int .i64 D.from_, .int .i64 D.dst, .int .i64 D.term, .int .i64 D.prev, .int .i64 D.prevTerm, .slice ta D.items.length tb, .int .i64 D.commit, .bool D.yes] 30 (0, 0))
    have zV : (w5.alloc (.cells #[.int .i64 D.kind, .int .i64 D.from_, .int .i64 D.dst, .int .i64 D.term, .int .i64 D.prev, .int .i64 D.prevTerm, .slice ta D.items.length tb, .int .i64 D.commit, .bool D.yes] 30 (0, 0))).heap.size = w5.heap.size + 1 := by simp
    have HR5' : Hid (IG (w4.heap.size + 1) (w5.alloc (.cells #[.int .i64 D.kind, .int .i64 D.from_, .int .i64 D.dst, .int .i64 D.term, .int .i64 D.prev, .int .i64 D.prevTerm, .slice ta D.items.length tb, .int .i64 D.commit, .bool D.yes] 30 (0, 0))) (.slice ta D.items.length tb) D.items tF) := HR5.out.ext (hE _ _)
    have HV5' : Hid (VMsg (w5.alloc (.cells #[.int .i64 D.kind, .int .i64 D.from_, .int .i64 D.dst, .int .i64 D.term, .int .i64 D.prev, .int .i64 D.prevTerm, .slice ta D.items.length tb, .int .i64 D.commit, .bool D.yes] 30 (0, 0))) (msgV D (.slice ta D.items.length tb)) D) := HV5.out.ext (hE _ _)
    have HS5' : Hid (ShpN U.heap.size w4.heap.size (w5.alloc (.cells #[.int .i64 D.kind, .int .i64 D.from_, .int .i64 D.dst, .int .i64 D.term, .int .i64 D.prev, .int .i64 D.prevTerm, .slice ta D.items.length tb, .int .i64 D.commit, .bool D.yes] 30 (0, 0))) (.agg #[.int .i64 M.id, .int .i64 M.term, .int .i64 M.vote, .slice (some ⟨g0, 0, none⟩) M.log.length M.log.length, .int .i64 M.commit, .int .i64 M.role, .int .i64 M.lead, .int .i64 M.wait, .slice (some ⟨g1, 0, none⟩) M.votes.length M.votes.length, .slice (some ⟨g2, 0, none⟩) M.next.length M.next.length, .slice (some ⟨g3, 0, none⟩) M.mat.length M.mat.length]) M ∧ VNode (w5.alloc (.cells #[.int .i64 D.kind, .int .i64 D.from_, .int .i64 D.dst, .int .i64 D.term, .int .i64 D.prev, .int .i64 D.prevTerm, .slice ta D.items.length tb, .int .i64 D.commit, .bool D.yes] 30 (0, 0))) (.agg #[.int .i64 M.id, .int .i64 M.term, .int .i64 M.vote, .slice (some ⟨g0, 0, none⟩) M.log.length M.log.length, .int .i64 M.commit, .int .i64 M.role, .int .i64 M.lead, .int .i64 M.wait, .slice (some ⟨g1, 0, none⟩) M.votes.length M.votes.length, .slice (some ⟨g2, 0, none⟩) M.next.length M.next.length, .slice (some ⟨g3, 0, none⟩) M.mat.length M.mat.length]) M) := ⟨HS5.out.1.ext (hE _ _), HS5.out.2.ext (hE _ _)⟩
    have AA5 : (w5.alloc (.cells #[.int .i64 D.kind, .int .i64 D.from_, .int .i64 D.dst, .int .i64 D.term, .int .i64 D.prev, .int .i64 D.prevTerm, .slice ta D.items.length tb, .int .i64 D.commit, .bool D.yes] 30 (0, 0))).heap[w3.heap.size]? = some (.cells #[.int .i64 D.kind, .int .i64 D.from_, .int .i64 D.dst, .int .i64 D.term, .int .i64 D.prev, .int .i64 D.prevTerm, .slice ra D.items.length rb, .int .i64 D.commit, .bool D.yes] 30 (0, 0)) := below_blk CU5' (by omega) A3
    obtain ⟨p0, _⟩ := at_block AA5 0 _ rfl
    obtain ⟨p1, _⟩ := at_block AA5 1 _ rfl
    obtain ⟨p2, _⟩ := at_block AA5 2 _ rfl
    obtain ⟨p3, _⟩ := at_block AA5 3 _ rfl
    obtain ⟨p4, _⟩ := at_block AA5 4 _ rfl
    obtain ⟨p5, _⟩ := at_block AA5 5 _ rfl
    obtain ⟨p6, _⟩ := at_block AA5 6 _ rfl
    obtain ⟨p7, _⟩ := at_block AA5 7 _ rfl
    obtain ⟨p8, _⟩ := at_block AA5 8 _ rfl
    go_wp2_with fail
    generalize w5.alloc (.cells #[.int .i64 D.kind, .int .i64 D.from_, .int .i64 D.dst, .int .i64 D.term, .int .i64 D.prev, .int .i64 D.prevTerm, .slice ta D.items.length tb, .int .i64 D.commit, .bool D.yes] 30 (0, 0)) = V at G5 T5' CU5' B5' zV HR5' HV5' HS5' AA5 p0 p1 p2 p3 p4 p5 p6 p7 p8 ⊢
    clear T5 CU5 B5 HR5 HV5 HS5 AA5 p0 p1 p2 p3 p4 p5 p6 p7 p8
    refine (eqM _ _ D V HV5'.out (HV3'.out.ext (ext_below CU5')) HLM.out.1 HLM.out.2).mono ?_
    rintro e W6 ⟨rfl, b6⟩
    have hW6 : Ext V W6 := ext_below b6
    have CU6 : Below U.heap.size U W6 := CU5'.trans (b6.mono (by omega))
    have B6 : Below w.heap.size w W6 := B5'.trans (b6.mono B5'.size)
    have P6 : W6.heap[w.heap.size]? = some (.cells #[.int .i64 M.id, .int .i64 M.term, .int .i64 M.vote, lv, .int .i64 M.commit, .int .i64 M.role, .int .i64 M.lead, .int .i64 M.wait, bv, nv, mv] 26 (0, 0)) := below_blk CU6 (by omega) P3'
    have T6 : W6.heap[w4.heap.size]? = some (.cells #[.int .i64 M.id, .int .i64 M.term, .int .i64 M.vote, .slice (some ⟨g0, 0, none⟩) M.log.length M.log.length, .int .i64 M.commit, .int .i64 M.role, .int .i64 M.lead, .int .i64 M.wait, .slice (some ⟨g1, 0, none⟩) M.votes.length M.votes.length, .slice (some ⟨g2, 0, none⟩) M.next.length M.next.length, .slice (some ⟨g3, 0, none⟩) M.mat.length M.mat.length] 34 (0, 0)) := below_blk b6 (by omega) T5'
    have G6 : W6.heap[w5.heap.size]? = some (.cells #[.int .i64 D.kind, .int .i64 D.from_, .int .i64 D.dst, .int .i64 D.term, .int .i64 D.prev, .int .i64 D.prevTerm, .slice ta D.items.length tb, .int .i64 D.commit, .bool D.yes] 30 (0, 0)) := below_blk b6 (by omega) G5
    have z6 : w5.heap.size < W6.heap.size := by have := b6.size; omega
    have HR6 : Hid (IG (w4.heap.size + 1) W6 (.slice ta D.items.length tb) D.items tF) := HR5'.out.ext hW6
    have HS6 : Hid (ShpN U.heap.size w4.heap.size W6 (.agg #[.int .i64 M.id, .int .i64 M.term, .int .i64 M.vote, .slice (some ⟨g0, 0, none⟩) M.log.length M.log.length, .int .i64 M.commit, .int .i64 M.role, .int .i64 M.lead, .int .i64 M.wait, .slice (some ⟨g1, 0, none⟩) M.votes.length M.votes.length, .slice (some ⟨g2, 0, none⟩) M.next.length M.next.length, .slice (some ⟨g3, 0, none⟩) M.mat.length M.mat.length]) M ∧ VNode W6 (.agg #[.int .i64 M.id, .int .i64 M.term, .int .i64 M.vote, .slice (some ⟨g0, 0, none⟩) M.log.length M.log.length, .int .i64 M.commit, .int .i64 M.role, .int .i64 M.lead, .int .i64 M.wait, .slice (some ⟨g1, 0, none⟩) M.votes.length M.votes.length, .slice (some ⟨g2, 0, none⟩) M.next.length M.next.length, .slice (some ⟨g3, 0, none⟩) M.mat.length M.mat.length]) M) := ⟨HS5'.out.1.ext hW6, HS5'.out.2.ext hW6⟩
    clear b6 hW6 G5 T5' CU5' B5' HR5' HV5' HS5'
    obtain ⟨q0, _⟩ := at_block P6 0 _ rfl
    obtain ⟨q1, _⟩ := at_block P6 1 _ rfl
    obtain ⟨q2, _⟩ := at_block P6 2 _ rfl
    obtain ⟨q3, _⟩ := at_block P6 3 _ rfl
    obtain ⟨q4, _⟩ := at_block P6 4 _ rfl
    obtain ⟨q5, _⟩ := at_block P6 5 _ rfl
    obtain ⟨q6, _⟩ := at_block P6 6 _ rfl
    obtain ⟨q7, _⟩ := at_block P6 7 _ rfl
    obtain ⟨q8, _⟩ := at_block P6 8 _ rfl
    obtain ⟨q9, _⟩ := at_block P6 9 _ rfl
    obtain ⟨q10, _⟩ := at_block P6 10 _ rfl
    obtain ⟨t0, _⟩ := at_block T6 0 _ rfl
    obtain ⟨t1, _⟩ := at_block T6 1 _ rfl
    obtain ⟨t2, _⟩ := at_block T6 2 _ rfl
    obtain ⟨t3, _⟩ := at_block T6 3 _ rfl
    obtain ⟨t4, _⟩ := at_block T6 4 _ rfl
    obtain ⟨t5, _⟩ := at_block T6 5 _ rfl
    obtain ⟨t6, _⟩ := at_block T6 6 _ rfl
    obtain ⟨t7, _⟩ := at_block T6 7 _ rfl
    obtain ⟨t8, _⟩ := at_block T6 8 _ rfl
    obtain ⟨t9, _⟩ := at_block T6 9 _ rfl
    obtain ⟨t10, _⟩ := at_block T6 10 _ rfl
    have S6 : (W6.cell? ⟨w4.heap.size, 0, none⟩ = some (.int .i64 M.id) ∧ W6.cell? ⟨w4.heap.size, 1, none⟩ = some (.int .i64 M.term) ∧ W6.cell? ⟨w4.heap.size, 2, none⟩ = some (.int .i64 M.vote) ∧ W6.cell? ⟨w4.heap.size, 3, none⟩ = some (.slice (some ⟨g0, 0, none⟩) M.log.length M.log.length) ∧ W6.cell? ⟨w4.heap.size, 4, none⟩ = some (.int .i64 M.commit) ∧ W6.cell? ⟨w4.heap.size, 5, none⟩ = some (.int .i64 M.role) ∧ W6.cell? ⟨w4.heap.size, 6, none⟩ = some (.int .i64 M.lead) ∧ W6.cell? ⟨w4.heap.size, 7, none⟩ = some (.int .i64 M.wait) ∧ W6.cell? ⟨w4.heap.size, 8, none⟩ = some (.slice (some ⟨g1, 0, none⟩) M.votes.length M.votes.length) ∧ W6.cell? ⟨w4.heap.size, 9, none⟩ = some (.slice (some ⟨g2, 0, none⟩) M.next.length M.next.length) ∧ W6.cell? ⟨w4.heap.size, 10, none⟩ = some (.slice (some ⟨g3, 0, none⟩) M.mat.length M.mat.length)) ∧ (W6.cell? ⟨w.heap.size, 0, none⟩ = some (.int .i64 M.id) ∧ W6.cell? ⟨w.heap.size, 1, none⟩ = some (.int .i64 M.term) ∧ W6.cell? ⟨w.heap.size, 2, none⟩ = some (.int .i64 M.vote) ∧ W6.cell? ⟨w.heap.size, 3, none⟩ = some lv ∧ W6.cell? ⟨w.heap.size, 4, none⟩ = some (.int .i64 M.commit) ∧ W6.cell? ⟨w.heap.size, 5, none⟩ = some (.int .i64 M.role) ∧ W6.cell? ⟨w.heap.size, 6, none⟩ = some (.int .i64 M.lead) ∧ W6.cell? ⟨w.heap.size, 7, none⟩ = some (.int .i64 M.wait) ∧ W6.cell? ⟨w.heap.size, 8, none⟩ = some bv ∧ W6.cell? ⟨w.heap.size, 9, none⟩ = some nv ∧ W6.cell? ⟨w.heap.size, 10, none⟩ = some mv) := ⟨⟨t0, t1, t2, t3, t4, t5, t6, t7, t8, t9, t10⟩, ⟨q0, q1, q2, q3, q4, q5, q6, q7, q8, q9, q10⟩⟩
    have HC6 : Hid _ := S6
    have X6 : Ext W6 W6.drew := ext_drewN W6 1
    clear S6
    go_wp2_with fail
    go_region_held3 (fun w' => w'.cell? ⟨w4.heap.size, 0, none⟩ = some (.int .i64 M.id) ∧ w'.cell? ⟨w4.heap.size, 1, none⟩ = some (.int .i64 M.term) ∧ w'.cell? ⟨w4.heap.size, 2, none⟩ = some (.int .i64 M.vote) ∧ w'.cell? ⟨w4.heap.size, 3, none⟩ = some (.slice (some ⟨g0, 0, none⟩) M.log.length M.log.length) ∧ w'.cell? ⟨w4.heap.size, 4, none⟩ = some (.int .i64 M.commit) ∧ w'.cell? ⟨w4.heap.size, 5, none⟩ = some (.int .i64 M.role) ∧ w'.cell? ⟨w4.heap.size, 6, none⟩ = some (.int .i64 M.lead) ∧ w'.cell? ⟨w4.heap.size, 7, none⟩ = some (.int .i64 M.wait) ∧ w'.cell? ⟨w4.heap.size, 8, none⟩ = some (.slice (some ⟨g1, 0, none⟩) M.votes.length M.votes.length) ∧ w'.cell? ⟨w4.heap.size, 9, none⟩ = some (.slice (some ⟨g2, 0, none⟩) M.next.length M.next.length) ∧ w'.cell? ⟨w4.heap.size, 10, none⟩ = some (.slice (some ⟨g3, 0, none⟩) M.mat.length M.mat.length) ∧ w'.cell? ⟨w.heap.size, 0, none⟩ = some (.int .i64 M.id) ∧ w'.cell? ⟨w.heap.size, 1, none⟩ = some (.int .i64 M.term) ∧ w'.cell? ⟨w.heap.size, 2, none⟩ = some (.int .i64 M.vote) ∧ w'.cell? ⟨w.heap.size, 3, none⟩ = some lv ∧ w'.cell? ⟨w.heap.size, 4, none⟩ = some (.int .i64 M.commit) ∧ w'.cell? ⟨w.heap.size, 5, none⟩ = some (.int .i64 M.role) ∧ w'.cell? ⟨w.heap.size, 6, none⟩ = some (.int .i64 M.lead) ∧ w'.cell? ⟨w.heap.size, 7, none⟩ = some (.int .i64 M.wait) ∧ w'.cell? ⟨w.heap.size, 8, none⟩ = some bv ∧ w'.cell? ⟨w.heap.size, 9, none⟩ = some nv ∧ w'.cell? ⟨w.heap.size, 10, none⟩ = some mv) (simp [*])
      (first | (go_at_call 6; refine (toN _ M _ ?_ HL.out).mono ?_; exact (h0.out.ext (ext_below B6)).ext X6; rintro e w7 ⟨v7, rfl, o7, b7⟩; obtain ⟨⟨a0, a1, a2, a3, a4, a5, a6, a7, a8, a9, a10⟩, ⟨c0, c1, c2, c3, c4, c5, c6, c7, c8, c9, c10⟩⟩ := keptN2 (w := W6.drew) HC6.out b7) | (go_at_call 9; refine (eqN _ _ M _ ?_ ?_ HL.out).mono ?_; exact (HS6.out.2.ext X6).ext (ext_below b7); exact o7; rintro e w8 ⟨rfl, b8⟩; obtain ⟨⟨a0', a1', a2', a3', a4', a5', a6', a7', a8', a9', a10'⟩, ⟨c0', c1', c2', c3', c4', c5', c6', c7', c8', c9', c10'⟩⟩ := keptN2 ⟨⟨a0, a1, a2, a3, a4, a5, a6, a7, a8, a9, a10⟩, ⟨c0, c1, c2, c3, c4, c5, c6, c7, c8, c9, c10⟩⟩ b8))
    have zs7 : W6.heap.size ≤ w7.heap.size := b7.size
    have zs8 := b8.size
    have X8 : Ext W6 w8 := (X6.tr (ext_below b7)).tr (ext_below b8)
    have T8 : w8.heap[w4.heap.size]? = some (.cells #[.int .i64 M.id, .int .i64 M.term, .int .i64 M.vote, .slice (some ⟨g0, 0, none⟩) M.log.length M.log.length, .int .i64 M.commit, .int .i64 M.role, .int .i64 M.lead, .int .i64 M.wait, .slice (some ⟨g1, 0, none⟩) M.votes.length M.votes.length, .slice (some ⟨g2, 0, none⟩) M.next.length M.next.length, .slice (some ⟨g3, 0, none⟩) M.mat.length M.mat.length] 34 (0, 0)) := (X8.block w4.heap.size (by omega) (by simp)).trans T6
    have G8 : w8.heap[w5.heap.size]? = some (.cells #[.int .i64 D.kind, .int .i64 D.from_, .int .i64 D.dst, .int .i64 D.term, .int .i64 D.prev, .int .i64 D.prevTerm, .slice ta D.items.length tb, .int .i64 D.commit, .bool D.yes] 30 (0, 0)) := (X8.block w5.heap.size (by omega) (by simp)).trans G6
    have CU8 : Below U.heap.size U w8 := ((below_drewN CU6 1).trans (b7.mono (show U.heap.size ≤ W6.heap.size by omega))).trans (b8.mono (by omega))
    have B8 : Below w.heap.size w w8 := ((below_drewN B6 1).trans (b7.mono B6.size)).trans (b8.mono (Nat.le_trans B6.size b7.size))
    have z8 : w5.heap.size < w8.heap.size := by omega
    have HR8 : Hid (IG (w4.heap.size + 1) w8 (.slice ta D.items.length tb) D.items tF) := HR6.out.ext X8
    have HS8 : Hid (ShpN U.heap.size w4.heap.size w8 (.agg #[.int .i64 M.id, .int .i64 M.term, .int .i64 M.vote, .slice (some ⟨g0, 0, none⟩) M.log.length M.log.length, .int .i64 M.commit, .int .i64 M.role, .int .i64 M.lead, .int .i64 M.wait, .slice (some ⟨g1, 0, none⟩) M.votes.length M.votes.length, .slice (some ⟨g2, 0, none⟩) M.next.length M.next.length, .slice (some ⟨g3, 0, none⟩) M.mat.length M.mat.length]) M) := HS6.out.1.ext X8
    clear b7 b8 X6 X8 P6 T6 G6 HC6 HR6 HS6 B6 CU6 o7 a0 a1 a2 a3 a4 a5 a6 a7 a8 a9 a10 a0' a1' a2' a3' a4' a5' a6' a7' a8' a9' a10' c0 c1 c2 c3 c4 c5 c6 c7 c8 c9 c10 c0' c1' c2' c3' c4' c5' c6' c7' c8' c9' c10' q0 q1 q2 q3 q4 q5 q6 q7 q8 q9 q10 t0 t1 t2 t3 t4 t5 t6 t7 t8 t9 t10
    obtain ⟨t0, _⟩ := at_block T8 0 _ rfl
    obtain ⟨t1, _⟩ := at_block T8 1 _ rfl
    obtain ⟨t2, _⟩ := at_block T8 2 _ rfl
    obtain ⟨t3, _⟩ := at_block T8 3 _ rfl
    obtain ⟨t4, _⟩ := at_block T8 4 _ rfl
    obtain ⟨t5, _⟩ := at_block T8 5 _ rfl
    obtain ⟨t6, _⟩ := at_block T8 6 _ rfl
    obtain ⟨t7, _⟩ := at_block T8 7 _ rfl
    obtain ⟨t8, _⟩ := at_block T8 8 _ rfl
    obtain ⟨t9, _⟩ := at_block T8 9 _ rfl
    obtain ⟨t10, _⟩ := at_block T8 10 _ rfl
    go_wp2_with fail
    refine (markNM U.heap.size w4.heap.size _ M w8 HS8.out (by omega) HL.out).mono ?_
    rintro e w9 ⟨k9, rfl, D9⟩
    have z9 : w5.heap.size < w9.heap.size := by have := D9.size; omega
    have CU9 : Below U.heap.size U w9 := Mid.below CU8 (by omega) (Nat.le_refl _) D9
    have B9 : Below w.heap.size w w9 := Mid.below B8 B8.size (by omega) D9
    have G9 : w9.heap[w5.heap.size]? = some (.cells #[.int .i64 D.kind, .int .i64 D.from_, .int .i64 D.dst, .int .i64 D.term, .int .i64 D.prev, .int .i64 D.prevTerm, .slice ta D.items.length tb, .int .i64 D.commit, .bool D.yes] 30 (0, 0)) := D9.obj G8 (.inr (by omega))
    have HR9 : Hid (IG (w4.heap.size + 1) w9 (.slice ta D.items.length tb) D.items tF) := HR8.out.same (fun b hb hl => D9.out b hl (.inr (by omega)))
    have HV9 : Hid (VMsg w9 (msgV D (.slice ta D.items.length tb)) D) := vm_of HR9.out HRD.out
    have hk9 : (0 : Int) ≤ (k9 : Int) := by omega
    clear T8 G8 D9 B8 CU8 HR8 HS8 z8 t0 t1 t2 t3 t4 t5 t6 t7 t8 t9 t10
    have A9 : w9.heap[w3.heap.size]? = some (.cells #[.int .i64 D.kind, .int .i64 D.from_, .int .i64 D.dst, .int .i64 D.term, .int .i64 D.prev, .int .i64 D.prevTerm, .slice ra D.items.length rb, .int .i64 D.commit, .bool D.yes] 30 (0, 0)) := below_blk CU9 (by omega) A3
    obtain ⟨p0, _⟩ := at_block A9 0 _ rfl
    obtain ⟨p1, _⟩ := at_block A9 1 _ rfl
    obtain ⟨p2, _⟩ := at_block A9 2 _ rfl
    obtain ⟨p3, _⟩ := at_block A9 3 _ rfl
    obtain ⟨p4, _⟩ := at_block A9 4 _ rfl
    obtain ⟨p5, _⟩ := at_block A9 5 _ rfl
    obtain ⟨p6, _⟩ := at_block A9 6 _ rfl
    obtain ⟨p7, _⟩ := at_block A9 7 _ rfl
    obtain ⟨p8, _⟩ := at_block A9 8 _ rfl
    obtain ⟨q0, _⟩ := at_block G9 0 _ rfl
    obtain ⟨q1, _⟩ := at_block G9 1 _ rfl
    obtain ⟨q2, _⟩ := at_block G9 2 _ rfl
    obtain ⟨q3, _⟩ := at_block G9 3 _ rfl
    obtain ⟨q4, _⟩ := at_block G9 4 _ rfl
    obtain ⟨q5, _⟩ := at_block G9 5 _ rfl
    obtain ⟨q6, _⟩ := at_block G9 6 _ rfl
    obtain ⟨q7, _⟩ := at_block G9 7 _ rfl
    obtain ⟨q8, _⟩ := at_block G9 8 _ rfl
    go_wp2_with fail
    refine (eqM _ _ D w9 HV9.out (HV3'.out.ext (ext_below CU9)) HLM.out.1 HLM.out.2).mono ?_
    rintro e w10 ⟨rfl, b10⟩
    have s10 := b10.size
    have CU10 : Below U.heap.size U w10 := CU9.trans (b10.mono (by omega))
    have B10 : Below w.heap.size w w10 := B9.trans (b10.mono B9.size)
    have G10 : w10.heap[w5.heap.size]? = some (.cells #[.int .i64 D.kind, .int .i64 D.from_, .int .i64 D.dst, .int .i64 D.term, .int .i64 D.prev, .int .i64 D.prevTerm, .slice ta D.items.length tb, .int .i64 D.commit, .bool D.yes] 30 (0, 0)) := below_blk b10 (by omega) G9
    have HR10 : Hid (IG (w4.heap.size + 1) w10 (.slice ta D.items.length tb) D.items tF) := HR9.out.ext (ext_below b10)
    clear b10 CU9 B9 G9 HR9 HV9 A9 p0 p1 p2 p3 p4 p5 p6 p7 p8 q0 q1 q2 q3 q4 q5 q6 q7 q8
    obtain ⟨q0, _⟩ := at_block G10 0 _ rfl
    obtain ⟨q1, _⟩ := at_block G10 1 _ rfl
    obtain ⟨q2, _⟩ := at_block G10 2 _ rfl
    obtain ⟨q3, _⟩ := at_block G10 3 _ rfl
    obtain ⟨q4, _⟩ := at_block G10 4 _ rfl
    obtain ⟨q5, _⟩ := at_block G10 5 _ rfl
    obtain ⟨q6, _⟩ := at_block G10 6 _ rfl
    obtain ⟨q7, _⟩ := at_block G10 7 _ rfl
    obtain ⟨q8, _⟩ := at_block G10 8 _ rfl
    go_wp2_with fail
    refine (markMs (w4.heap.size + 1) D ta tb tF w10 HR10.out HLL.out (by omega)).mono ?_
    rintro e w11 ⟨rfl, M11, b11, t11⟩
    have HKK : Hid (0 ≤ kI 1 D.items D.items.length) := by have := kI_le 1 D.items D.items.length (Nat.le_refl _); show 0 ≤ _; omega
    obtain ⟨k11, hk11⟩ : ∃ k11, k11 = kI 1 D.items D.items.length := ⟨_, rfl⟩
    have HK11 : Hid (kI 1 D.items D.items.length = k11) := hk11.symm
    rw [← hk11] at HKK ⊢
    clear hk11
    have k0 := HKK.out
    have s11 := b11.size
    have CU11 : Below U.heap.size U w11 := CU10.trans (b11.mono (by omega))
    have B11 : Below w.heap.size w w11 := B10.trans (b11.mono (by omega))
    have G11 : w11.heap[w5.heap.size]? = some (.cells #[.int .i64 D.kind, .int .i64 D.from_, .int .i64 D.dst, .int .i64 D.term, .int .i64 D.prev, .int .i64 D.prevTerm, .slice ta D.items.length tb, .int .i64 D.commit, .bool D.yes] 30 (0, 0)) := t11 w5.heap.size _ 30 (by decide) (by decide) G10
    have HM11 : Hid (LogM (w4.heap.size + 1) w11 (.slice ta D.items.length tb) D.items) := M11
    clear M11 b11 t11 CU10 B10 G10 HR10 q0 q1 q2 q3 q4 q5 q6 q7 q8
    obtain ⟨q0, _⟩ := at_block G11 0 _ rfl
    obtain ⟨q1, _⟩ := at_block G11 1 _ rfl
    obtain ⟨q2, _⟩ := at_block G11 2 _ rfl
    obtain ⟨q3, _⟩ := at_block G11 3 _ rfl
    obtain ⟨q4, _⟩ := at_block G11 4 _ rfl
    obtain ⟨q5, _⟩ := at_block G11 5 _ rfl
    obtain ⟨q6, _⟩ := at_block G11 6 _ rfl
    obtain ⟨q7, _⟩ := at_block G11 7 _ rfl
    obtain ⟨q8, _⟩ := at_block G11 8 _ rfl
    go_wp2_with fail
    refine (heldMs (w4.heap.size + 1) D ta tb w11 HM11.out HLL.out).mono ?_
    rw [HK11.out]
    rintro e w12 ⟨rfl, b12⟩
    have s12 := b12.size
    have CU12 : Below U.heap.size U w12 := CU11.trans (b12.mono (by omega))
    have B12 : Below w.heap.size w w12 := B11.trans (b12.mono B11.size)
    have G12 : w12.heap[w5.heap.size]? = some (.cells #[.int .i64 D.kind, .int .i64 D.from_, .int .i64 D.dst, .int .i64 D.term, .int .i64 D.prev, .int .i64 D.prevTerm, .slice ta D.items.length tb, .int .i64 D.commit, .bool D.yes] 30 (0, 0)) := below_blk b12 (by omega) G11
    have HM12 : Hid (LogM (w4.heap.size + 1) w12 (.slice ta D.items.length tb) D.items) := HM11.out.ext (ext_below b12)
    have P12 : w12.heap[w.heap.size]? = some (.cells #[.int .i64 M.id, .int .i64 M.term, .int .i64 M.vote, lv, .int .i64 M.commit, .int .i64 M.role, .int .i64 M.lead, .int .i64 M.wait, bv, nv, mv] 26 (0, 0)) := below_blk CU12 (by omega) P3'
    clear b12 CU11 B11 G11 HM11 q0 q1 q2 q3 q4 q5 q6 q7 q8
    obtain ⟨p0, _⟩ := at_block P12 0 _ rfl
    obtain ⟨p1, _⟩ := at_block P12 1 _ rfl
    obtain ⟨p2, _⟩ := at_block P12 2 _ rfl
    obtain ⟨p3, _⟩ := at_block P12 3 _ rfl
    obtain ⟨p4, _⟩ := at_block P12 4 _ rfl
    obtain ⟨p5, _⟩ := at_block P12 5 _ rfl
    obtain ⟨p6, _⟩ := at_block P12 6 _ rfl
    obtain ⟨p7, _⟩ := at_block P12 7 _ rfl
    obtain ⟨p8, _⟩ := at_block P12 8 _ rfl
    obtain ⟨p9, _⟩ := at_block P12 9 _ rfl
    obtain ⟨p10, _⟩ := at_block P12 10 _ rfl
    go_wp2_with fail
    refine (toN _ M w12 (h0.out.ext (ext_below B12)) HL.out).mono ?_
    rintro e w13 ⟨v13, rfl, o13, b13⟩
    have s13 := b13.size
    have B13 := B12.trans (b13.mono B12.size)
    clear p0 p1 p2 p3 p4 p5 p6 p7 p8 p9 p10
    go_wp2_with fail
    refine (iAddForV _ M s z w13 o13 HLX.out).mono ?_
    rintro e w14 h14
    obtain ⟨ua, ub, uF, rfl, R14, b14⟩ := HPO.out _ _ _ h14
    have s14 := b14.size
    have CU14 : Below U.heap.size U w14 := (CU12.trans (b13.mono (by omega))).trans (b14.mono (by omega))
    have B14 := B13.trans (b14.mono B13.size)
    have G14 : w14.heap[w5.heap.size]? = some (.cells #[.int .i64 D.kind, .int .i64 D.from_, .int .i64 D.dst, .int .i64 D.term, .int .i64 D.prev, .int .i64 D.prevTerm, .slice ta D.items.length tb, .int .i64 D.commit, .bool D.yes] 30 (0, 0)) := below_blk b14 (by omega) (below_blk b13 (by omega) G12)
    have HM14 : Hid (LogM (w4.heap.size + 1) w14 (.slice ta D.items.length tb) D.items) := (HM12.out.ext (ext_below b13)).ext (ext_below b14)
    have HV14 : Hid (VMsg w14 (msgV D (.slice ua D.items.length ub)) D) := vm_of R14 HRD.out
    clear h14 o13 b13 b14 R14 HM12 P12 G12 CU12 B12 B13
    have G14' : (w14.alloc (.cells #[.int .i64 D.kind, .int .i64 D.from_, .int .i64 D.dst, .int .i64 D.term, .int .i64 D.prev, .int .i64 D.prevTerm, .slice ua D.items.length ub, .int .i64 D.commit, .bool D.yes] 30 (0, 0))).heap[w5.heap.size]? = some (.cells #[.int .i64 D.kind, .int .i64 D.from_, .int .i64 D.dst, .int .i64 D.term, .int .i64 D.prev, .int .i64 D.prevTerm, .slice ta D.items.length tb, .int .i64 D.commit, .bool D.yes] 30 (0, 0)) := (Below.heap_alloc w14 _ _ (by omega)).trans G14
    have CU14' := CU14.alloc (by omega) (.cells #[.int .i64 D.kind, .int .i64 D.from_, .int .i64 D.dst, .int .i64 D.term, .int .i64 D.prev, .int .i64 D.prevTerm, .slice ua D.items.length ub, .int .i64 D.commit, .bool D.yes] 30 (0, 0))
    have B14' := B14.alloc B14.size (.cells #[.int .i64 D.kind, .int .i64 D.from_, .int .i64 D.dst, .int .i64 D.term, .int .i64 D.prev, .int .i64 D.prevTerm, .slice ua D.items.length ub, .int .i64 D.commit, .bool D.yes] 30 (0, 0))
    have A14 : (w14.alloc (.cells #[.int .i64 D.kind, .int .i64 D.from_, .int .i64 D.dst, .int .i64 D.term, .int .i64 D.prev, .int .i64 D.prevTerm, .slice ua D.items.length ub, .int .i64 D.commit, .bool D.yes] 30 (0, 0))).heap[w3.heap.size]? = some (.cells #[.int .i64 D.kind, .int .i64 D.from_, .int .i64 D.dst, .int .i64 D.term, .int .i64 D.prev, .int .i64 D.prevTerm, .slice ra D.items.length rb, .int .i64 D.commit, .bool D.yes] 30 (0, 0)) := below_blk CU14' (by omega) A3
    have HV14' : Hid (VMsg (w14.alloc (.cells #[.int .i64 D.kind, .int .i64 D.from_, .int .i64 D.dst, .int .i64 D.term, .int .i64 D.prev, .int .i64 D.prevTerm, .slice ua D.items.length ub, .int .i64 D.commit, .bool D.yes] 30 (0, 0))) (msgV D (.slice ua D.items.length ub)) D) := HV14.out.ext (hE _ _)
    have HM14' : Hid (LogM (w4.heap.size + 1) (w14.alloc (.cells #[.int .i64 D.kind, .int .i64 D.from_, .int .i64 D.dst, .int .i64 D.term, .int .i64 D.prev, .int .i64 D.prevTerm, .slice ua D.items.length ub, .int .i64 D.commit, .bool D.yes] 30 (0, 0))) (.slice ta D.items.length tb) D.items) := HM14.out.ext (hE _ _)
    have zW : (w14.alloc (.cells #[.int .i64 D.kind, .int .i64 D.from_, .int .i64 D.dst, .int .i64 D.term, .int .i64 D.prev, .int .i64 D.prevTerm, .slice ua D.items.length ub, .int .i64 D.commit, .bool D.yes] 30 (0, 0))).heap.size = w14.heap.size + 1 := by simp
    obtain ⟨p0, _⟩ := at_block A14 0 _ rfl
    obtain ⟨p1, _⟩ := at_block A14 1 _ rfl
    obtain ⟨p2, _⟩ := at_block A14 2 _ rfl
    obtain ⟨p3, _⟩ := at_block A14 3 _ rfl
    obtain ⟨p4, _⟩ := at_block A14 4 _ rfl
    obtain ⟨p5, _⟩ := at_block A14 5 _ rfl
    obtain ⟨p6, _⟩ := at_block A14 6 _ rfl
    obtain ⟨p7, _⟩ := at_block A14 7 _ rfl
    obtain ⟨p8, _⟩ := at_block A14 8 _ rfl
    go_wp2_with fail
    generalize w14.alloc (.cells #[.int .i64 D.kind, .int .i64 D.from_, .int .i64 D.dst, .int .i64 D.term, .int .i64 D.prev, .int .i64 D.prevTerm, .slice ua D.items.length ub, .int .i64 D.commit, .bool D.yes] 30 (0, 0)) = Y at G14' CU14' B14' A14 HV14' HM14' zW p0 p1 p2 p3 p4 p5 p6 p7 p8 ⊢
    clear G14 CU14 B14 HV14 HM14 A14 p0 p1 p2 p3 p4 p5 p6 p7 p8
    refine (eqM _ _ D Y HV14'.out (HV3'.out.ext (ext_below CU14')) HLM.out.1 HLM.out.2).mono ?_
    rintro e w15 ⟨rfl, b15⟩
    have B15 := B14'.trans (b15.mono B14'.size)
    have G15 : w15.heap[w5.heap.size]? = some (.cells #[.int .i64 D.kind, .int .i64 D.from_, .int .i64 D.dst, .int .i64 D.term, .int .i64 D.prev, .int .i64 D.prevTerm, .slice ta D.items.length tb, .int .i64 D.commit, .bool D.yes] 30 (0, 0)) := below_blk b15 (by omega) G14'
    have HM15 : Hid (LogM (w4.heap.size + 1) w15 (.slice ta D.items.length tb) D.items) := HM14'.out.ext (ext_below b15)
    clear b15 G14' CU14' B14' HV14' HM14'
    obtain ⟨q0, _⟩ := at_block G15 0 _ rfl
    obtain ⟨q1, _⟩ := at_block G15 1 _ rfl
    obtain ⟨q2, _⟩ := at_block G15 2 _ rfl
    obtain ⟨q3, _⟩ := at_block G15 3 _ rfl
    obtain ⟨q4, _⟩ := at_block G15 4 _ rfl
    obtain ⟨q5, _⟩ := at_block G15 5 _ rfl
    obtain ⟨q6, _⟩ := at_block G15 6 _ rfl
    obtain ⟨q7, _⟩ := at_block G15 7 _ rfl
    obtain ⟨q8, _⟩ := at_block G15 8 _ rfl
    go_wp2_with fail
    refine (heldMs (w4.heap.size + 1) D ta tb w15 HM15.out HLL.out).mono ?_
    rw [HK11.out]
    rintro e w16 ⟨rfl, b16⟩
    have B16 := B15.trans (b16.mono B15.size)
    go_wp2_with fail
    go_ret
    exact ⟨rfl, B16⟩

end Go.Proofs.Ytdcbajejgphlgaa

namespace Go.Proofs.Ytdcbajejgphlgaa
open Go.ChangeShapes Go.WideShapes Go.ChangeAt Go.RowKit

theorem own : ownKnob Try.prog.godebug = none := by kernel_rfl
theorem laidOut : laidOutB Try.prog = true := by kernel_rfl

theorem int_bd {q : Int} (h : (Lit.int .i64 q).wf = true) : -9223372036854775808 ≤ q ∧ q ≤ 9223372036854775807 := by
  simp [Lit.wf, IntKind.min, IntKind.max, IntKind.signed, IntKind.bits] at h
  omega

set_option maxRecDepth 100000 in
theorem lifted (os : Os) (started : os.Started) (H : Type) (enc : TypeId × Value → H) :
    ReturnsInHanded {} Try.checked os 3 .any (Rows.fnExactAddForSpec.pre6 enc Try.prog Try.f3 Rows.fnExactAddForRow.domain false) (Rows.fnExactAddForSpec.post enc Try.prog Try.f3 false true false false) := by
  refine returnsInHanded_of_change (C := Try.checked) own started (by kernel_rfl) Try.func3
    (ChangeSpec.witness6 (enc := enc) (C := Try.checked) false ⟨#[], #[.agg #[.int .i64 0, .int .i64 0, .int .i64 0, .slice none 0 0, .int .i64 0, .int .i64 0, .int .i64 0, .int .i64 0, .slice none 0 0, .slice none 0 0, .slice none 0 0], .int .i64 0, .int .i64 0], []⟩ 8 (by kernel_rfl) (by kernel_rfl) (by kernel_rfl) (by kernel_rfl)) ?_
  intro W base args ds gs before hval0 hW hcnd _
  have hval : ∀ (j : Nat) t v, Try.f3.params[j]? = some t → args[j]? = some v → Value.okWide Try.prog W .any base t v := hval0
  have hW' := hW
  obtain ⟨p, q, hA0, hV, rfl, hfz, hnd⟩ := hW
  have hA : DataW.TrodAll enc Try.prog W 0 (fun _ => true) true Try.f3.params.toList args.toList ds p := hA0
  rw [Try.params3] at hA hval
  obtain ⟨v0, vs0, d0, ds0, p0, q0, hargs, rfl, rfl, h0, r0⟩ := trodAll_cons hA
  obtain ⟨v1, vs1, d1, ds1, p1, q1, rfl, rfl, rfl, h1, r1⟩ := trodAll_cons r0
  obtain ⟨v2, vs2, d2, ds2, p2, q2, rfl, rfl, rfl, h2, r2⟩ := trodAll_cons r1
  obtain ⟨rfl, rfl, rfl⟩ := trodAll_nil r2
  obtain rfl : args = #[v0, v1, v2] := by cases args; simp_all
  obtain ⟨rfl, rfl⟩ := trodVars_none hV
  have k0 := h0
  have lt0 : ∀ x ∈ p0, x.block < W.heap.size := by obtain ⟨m, hm⟩ := k0; exact DataW.trod_lt m _ _ _ hm
  obtain ⟨D0, w0⟩ := open_Node (hval 0 26 v0 rfl rfl) h0
  obtain ⟨a1, rfl, rfl, rfl, w1⟩ := open_int Try.underlying3 (hval 1 3 v1 rfl rfl) h1
  obtain ⟨a2, rfl, rfl, rfl, w2⟩ := open_int Try.underlying3 (hval 2 3 v2 rfl rfl) h2
  clear hA0 hval0
  refine (law_AddFor v0 D0 a1 a2 W w0.1 w0.2.1 w0.2.2 (int_bd w1).1 (int_bd w1).2 (int_bd w2).1 (int_bd w2).2).mono fun e W' ⟨he, bel⟩ => ?_
  subst he
  exact ⟨_, rfl, _, _, _, [], _, [], hW', trodAll_mk1 (shut_bool Try.underlying4 _), (trodAll_cons_mk (Below.trod laidOut (by kernel_rfl) (of_decide_eq_true (by kernel_rfl)) k0 bel lt0) (trodAll_cons_mk (shut_int Try.underlying3 w1) (trodAll_cons_mk (shut_int Try.underlying3 w2) trodAll_mk0))), rfl, bel.frame _, fun h => by cases h⟩

theorem over : Rows.fnExactAddForRow.holds Try.pinned (OpenSpec.ofChange Rows.fnExactAddForSpec) :=
  OpenClaim.holds_of_wide 3 Try.f3 rfl rfl rfl rfl rfl rfl rfl ⟨rfl, rfl, rfl, rfl, rfl⟩ rfl rfl rfl rfl rfl (by kernel_rfl) Try.func3 (by kernel_rfl)
    (of_decide_eq_true (by kernel_rfl)) (by unfold Func.isWrapper; first | (rw [if_pos (by decide +kernel)]; kernel_rfl) | (rw [if_neg (by decide +kernel)]; exact ⟨rfl, rfl⟩))
    (fun os started H enc _ => lifted os started H enc)

theorem proved : Rows.FnExactAddForSaid := over
#print axioms proved
end Go.Proofs.Ytdcbajejgphlgaa

