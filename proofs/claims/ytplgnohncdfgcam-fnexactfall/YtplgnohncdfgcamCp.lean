/- Copies of operations, commands and items, as the program makes them. -/
import Derived.Test.YtplgnohncdfgcamClone
import Derived.Test.YtplgnohncdfgcamIt1
import Derived.Test.YtplgnohncdfgcamBaX
import Derived.Deep.RegionHeld3
namespace Go.Proofs.Ytplgnohncdfgcam
open Go.RowKit

theorem cloneV (v : Value) (xs : List Int) (w : World) (h : RV w v xs) (hn : xs.length ≤ 2097152) : Calls Try.prog 83 #[v] w fun e w' => ∃ v', e = .returned v' ∧ Ow w' w.heap.size v' xs ∧ Below w.heap.size w w' := by
  obtain ⟨a, cap, rfl, hr, _, _⟩ := h
  exact clone a xs.length cap xs w hr hn

set_option maxRecDepth 20000 in
set_option maxHeartbeats 4000000 in
theorem copyOpV (v : Value) (o : DOp) (w : World) (h : VOp w v o) (hk : o.key.length ≤ 2097152) (hv : o.val.length ≤ 2097152) :
    Calls Try.prog 76 #[v] w fun e w' => ∃ v', e = .returned v' ∧ OOp w' w.heap.size v' o ∧ Below w.heap.size w w' := by
  have hE : ∀ w : World, ∀ o, Ext w (w.alloc o) := fun w o => World.grownBy_alloc _ _ _
  obtain ⟨kv, vv, rfl, rk, rv⟩ := h
  have hrk := rv_rng rk
  have hrv := rv_rng rv
  go_enter Try.func76, Try.ntmps76
  go_wp2_with fail
  have P0 := heap_alloc_new w (.cells #[.int .i64 o.kind, kv, vv, .int .i64 o.n] 47 (0, 0))
  have X0 := hE w (.cells #[.int .i64 o.kind, kv, vv, .int .i64 o.n] 47 (0, 0))
  have B0 : Below w.heap.size w (w.alloc (.cells #[.int .i64 o.kind, kv, vv, .int .i64 o.n] 47 (0, 0))) := (Below.refl _ w).alloc (Nat.le_refl _) _
  have zw : (w.alloc (.cells #[.int .i64 o.kind, kv, vv, .int .i64 o.n] 47 (0, 0))).heap.size = w.heap.size + 1 := by simp
  generalize w.alloc (.cells #[.int .i64 o.kind, kv, vv, .int .i64 o.n] 47 (0, 0)) = W at P0 X0 B0 zw ⊢
  have hs0 : w.heap.size < W.heap.size := (Array.getElem?_eq_some_iff.1 P0).1
  have P1 : (W.alloc (.cells #[.int .i64 0, .slice none 0 0, .slice none 0 0, .int .i64 0] 47 (0, 0))).heap[w.heap.size]? = _ := (Below.heap_alloc W _ _ hs0).trans P0
  have R1 : (W.alloc (.cells #[.int .i64 0, .slice none 0 0, .slice none 0 0, .int .i64 0] 47 (0, 0))).heap[W.heap.size]? = _ := heap_alloc_new W _
  have X1 := X0.tr (hE W (.cells #[.int .i64 0, .slice none 0 0, .slice none 0 0, .int .i64 0] 47 (0, 0)))
  have B1 := B0.alloc (Nat.le_of_lt hs0) (.cells #[.int .i64 0, .slice none 0 0, .slice none 0 0, .int .i64 0] 47 (0, 0))
  have z1 : (W.alloc (.cells #[.int .i64 0, .slice none 0 0, .slice none 0 0, .int .i64 0] 47 (0, 0))).heap.size = W.heap.size + 1 := by simp
  generalize W.alloc (.cells #[.int .i64 0, .slice none 0 0, .slice none 0 0, .int .i64 0] 47 (0, 0)) = V at P1 R1 X1 B1 z1 ⊢
  have XD : Ext V V.drew := ext_drewN V 1
  obtain ⟨c1, _⟩ := at_block P1 1 _ rfl
  obtain ⟨c2, _⟩ := at_block P1 2 _ rfl
  have zd : V.drew.heap.size = V.heap.size := rfl
  go_region_with (first
    | (go_at_call 83; refine (cloneV vv o.val _ (rv.ext ((X1.tr XD).tr (ext_below b1))) hv).mono ?_; rintro e w2 ⟨v2, rfl, o2, b2⟩; obtain ⟨va, vc, rfl, _, _, _⟩ := Ow.rv o2 hrv; have Q2 := below_blk b2 (by have := b1.size; omega) Q1; obtain ⟨c1, f1⟩ := at_block Q2 1 _ rfl; obtain ⟨c2, f2⟩ := at_block Q2 2 _ rfl)
    | (go_at_call 83; refine (cloneV kv o.key _ (rk.ext (X1.tr XD)) hk).mono ?_; rintro e w1 ⟨v1, rfl, o1, b1⟩; obtain ⟨ka, kc, rfl, _, _, _⟩ := Ow.rv o1 hrk; have Q1 := below_blk b1 (by omega) (show V.drew.heap[w.heap.size]? = _ from P1); obtain ⟨c1, f1⟩ := at_block Q1 1 _ rfl; obtain ⟨c2, f2⟩ := at_block Q1 2 _ rfl))
  all_goals
    have s1 := b1.size
    have s2 := b2.size
    have R2 := below_blk b2 (by omega) (below_blk b1 (by omega) (show V.drew.heap[W.heap.size]? = _ from R1))
    rw [zw] at R2
    have T3 := set_block (set_block Q2 1 (.slice ka o.key.length kc)) 2 (.slice va o.val.length vc)
    have R3 := set_other w.heap.size 2 (.slice va o.val.length vc) (by omega) (set_other w.heap.size 1 (.slice ka o.key.length kc) (by omega) R2)
    have BB : Below w.heap.size w w2 := ((below_drewN B1 1).trans (b1.mono (by omega))).trans (b2.mono (by omega))
    have ok2 : Ow w2 (w.heap.size + 2) _ o.key := ow_base (o1.ext (ext_below b2)) (by omega)
    have ov2 : Ow w2 (w.heap.size + 2) _ o.val := ow_base o2 (by omega)
    have hap := apart_of o1 (Nat.le_refl _) o2
    obtain ⟨t0, g0⟩ := at_block T3 0 _ rfl
    obtain ⟨t1, g1⟩ := at_block T3 1 _ rfl
    obtain ⟨t2, g2⟩ := at_block T3 2 _ rfl
    obtain ⟨t3, g3⟩ := at_block T3 3 _ rfl
    obtain ⟨r0, z0⟩ := at_block R3 0 _ rfl
    obtain ⟨r1, z1'⟩ := at_block R3 1 _ rfl
    obtain ⟨r2, z2⟩ := at_block R3 2 _ rfl
    obtain ⟨r3, z3⟩ := at_block R3 3 _ rfl
    clear T3 R3 R2 Q2 Q1 c1 c2 f1 f2 o1 o2 b1 b2
    go_wp2
    refine bodyPost_ret (v := .agg #[.int .i64 o.kind, .slice ka o.key.length kc, .slice va o.val.length vc, .int .i64 o.n]) (by simp [results, Try.results76, go_sem, r0, r1, r2, r3]) rfl ?_
    refine ⟨_, rfl, ⟨_, _, rfl, ow_base (base := w.heap.size + 2) ?_ (by omega), ow_base (base := w.heap.size + 2) ?_ (by omega), hap⟩, ?_⟩
    · repeat (refine ow_set ?_ (by omega))
      exact ok2
    · repeat (refine ow_set ?_ (by omega))
      exact ov2
    · repeat (refine below_set ?_ (by omega))
      exact BB

end Go.Proofs.Ytplgnohncdfgcam
