/- The program's copyProber and rest. -/
import Derived.Test.YtfdklcmhafhbeaaPr4a
import Derived.Test.YtfdklcmhafhbeaaPx1
namespace Go.Proofs.Ytfdklcmhafhbeaa
open Go.RowKit

set_option maxHeartbeats 2000000 in
theorem copyPV (v : Value) (P : DPro) (w : World) (h : VPro w v P) (hl : P.order.length ≤ 1048576) :
    Calls Try.prog 34 #[v] w fun e w' => ∃ tv, e = .returned (.agg #[tv, .int .i64 P.next, .int .i64 P.seed, .int .i64 P.state, .int .i64 P.who, .int .i64 P.wait]) ∧ OwI w' w.heap.size tv P.order ∧ Below w.heap.size w w' := by
  obtain ⟨ov, rfl, ho⟩ := h
  obtain ⟨a, cap, rfl⟩ := vl_shape ho
  obtain ⟨n, hnn⟩ : ∃ n, n = P.order.length := ⟨_, rfl⟩
  have HV : Hid (VL fI w (.slice a n cap) P.order) := by rw [hnn]; exact ho
  have HN : Hid (n = P.order.length) := hnn
  rw [← hnn] at hl ⊢
  clear ho hnn
  obtain ⟨os, nx, sd, st, wh, wt⟩ := P
  simp only at HV HN ⊢
  go_enter Try.func34, Try.ntmps34
  go_upto_region 1 with fail
  generalize hW : World.alloc (World.alloc w _) _ = W
  have XW : Ext w W := by rw [← hW]; exact Ext.tr (World.grownBy_alloc w _ none) (World.grownBy_alloc _ _ none)
  have P0 : W.heap[w.heap.size]? = some (.cells #[.slice a n cap, .int .i64 nx, .int .i64 sd, .int .i64 st, .int .i64 wh, .int .i64 wt] 30 (0, 0)) := by rw [← hW, Below.heap_alloc _ _ _ (by simp)]; exact heap_alloc_new w _
  have P1 : W.heap[w.heap.size + 1]? = some (.cells #[.slice none 0 0, .int .i64 0, .int .i64 0, .int .i64 0, .int .i64 0, .int .i64 0] 30 (0, 0)) := by rw [← hW]; simpa using heap_alloc_new (World.alloc w _) (.cells #[.slice none 0 0, .int .i64 0, .int .i64 0, .int .i64 0, .int .i64 0, .int .i64 0] 30 (0, 0))
  have sW : w.heap.size + 1 < W.heap.size := (Array.getElem?_eq_some_iff.1 P1).1
  clear hW
  have HP : Hid (W.heap[w.heap.size]? = some (.cells #[.slice a n cap, .int .i64 nx, .int .i64 sd, .int .i64 st, .int .i64 wh, .int .i64 wt] 30 (0, 0)) ∧ W.heap[w.heap.size + 1]? = some (.cells #[.slice none 0 0, .int .i64 0, .int .i64 0, .int .i64 0, .int .i64 0, .int .i64 0] 30 (0, 0))) := ⟨P0, P1⟩
  obtain ⟨x0, f0⟩ := at_block P0 0 _ rfl
  clear P0 P1
  go_wp2_with fail
  refine (cloneIV _ os W (HV.out.ext XW) (by have := HN.out; omega)).mono ?_
  rintro e w1 ⟨v1, rfl, O1, b1⟩
  obtain ⟨a1, c1, hv1⟩ : ∃ a1 c1, v1 = .slice a1 n c1 := (by have := O1.shape; rw [← HN.out] at this; exact this)
  subst hv1
  have X1 : Ext W w1 := ext_below b1
  obtain ⟨z0, y0⟩ := at_block (ext_blk X1 HP.out.1) 0 _ rfl
  clear x0 f0 b1
  go_upto_region 2 with fail
  have Q0 : (w1.setCell ⟨w.heap.size, 0, none⟩ (.slice a1 n c1)).heap[w.heap.size]? = some (.cells #[.slice a1 n c1, .int .i64 nx, .int .i64 sd, .int .i64 st, .int .i64 wh, .int .i64 wt] 30 (0, 0)) := set_block (ext_blk X1 HP.out.1) 0 _
  have Q1 : (w1.setCell ⟨w.heap.size, 0, none⟩ (.slice a1 n c1)).heap[w.heap.size + 1]? = some (.cells #[.slice none 0 0, .int .i64 0, .int .i64 0, .int .i64 0, .int .i64 0, .int .i64 0] 30 (0, 0)) := set_other _ _ _ (by omega) (ext_blk X1 HP.out.2)
  have nb : ∀ b, b < W.heap.size → (Value.slice a1 n c1).ownBlock = none ∨ (Value.slice a1 n c1).ownBlock ≠ some b := fun b hb => by
    cases hv : (Value.slice a1 n c1).ownBlock with
    | none => exact .inl rfl
    | some k => exact .inr (by have := (O1.lt k hv).1; simp; omega)
  have OO : OwI (w1.setCell ⟨w.heap.size, 0, none⟩ (.slice a1 n c1)) W.heap.size (.slice a1 n c1) os := O1.keep (set_grown _ _ _ _) (nb _ (by omega))
  have BB : Below w.heap.size w (w1.setCell ⟨w.heap.size, 0, none⟩ (.slice a1 n c1)) := (ext_bel (XW.tr X1)).setCell (Nat.le_refl _) _
  have hsW : w.heap.size ≤ W.heap.size := by omega
  have NB := nb (w.heap.size + 1) (by omega)
  generalize w1.setCell ⟨w.heap.size, 0, none⟩ (.slice a1 n c1) = U at Q0 Q1 OO BB ⊢
  have HOO : Hid (OwI U W.heap.size (.slice a1 n c1) os) := OO
  have HBB : Hid (Below w.heap.size w U) := BB
  clear z0 y0 X1 O1 nb OO BB
  obtain ⟨p0, p1, p2, p3, p4, p5⟩ := cells6 Q0
  obtain ⟨r0, f0⟩ := at_block Q1 0 _ rfl
  obtain ⟨r1, f1⟩ := at_block Q1 1 _ rfl
  obtain ⟨r2, f2⟩ := at_block Q1 2 _ rfl
  obtain ⟨r3, f3⟩ := at_block Q1 3 _ rfl
  obtain ⟨r4, f4⟩ := at_block Q1 4 _ rfl
  obtain ⟨r5, f5⟩ := at_block Q1 5 _ rfl
  clear Q0 Q1
  go_wp2
  refine bodyPost_ret (v := .agg #[.slice a1 n c1, .int .i64 nx, .int .i64 sd, .int .i64 st, .int .i64 wh, .int .i64 wt]) (by simp [results, Try.results34, go_sem, *]) rfl ?_
  exact ⟨_, rfl, (pro_own HOO.out NB _ _ _ _ _ _).base hsW, pro_below HBB.out (Nat.le_succ _) _ _ _ _ _ _⟩

set_option maxHeartbeats 2000000 in
theorem restV (gt base : Nat) (P : DPro) (tv : Value) (w : World) (h : ProB gt base P tv w) :
    Calls Try.prog 64 #[.pointer (some ⟨gt, 0, none⟩)] w fun e w' => e = .returned (.tuple #[]) ∧ ProB gt base ⟨P.order, P.next, P.seed, 0, 0, 0⟩ tv w' ∧ w.grownBy w' (some gt) := by
  obtain ⟨PB, PO⟩ := h
  obtain ⟨os, nx, sd, st, wh, wt⟩ := P
  have nb : tv.ownBlock = none ∨ tv.ownBlock ≠ some gt := by
    right
    intro e
    rcases PO.2 with ⟨hv, _⟩ | ⟨k, c, cur, hv, _, hg, _⟩
    · rw [hv] at e; cases e
    · rw [hv] at e
      simp only [Value.ownBlock, Option.some.injEq] at e
      subst e
      rw [PB] at hg
      simp only [Option.some.injEq, Obj.cells.injEq] at hg
      exact absurd hg.2.1 (by decide)
  have HSET : Hid (ProB gt base ⟨os, nx, sd, 0, 0, 0⟩ tv (((w.setCell ⟨gt, 3, none⟩ (.int .i64 0)).setCell ⟨gt, 4, none⟩ (.int .i64 0)).setCell ⟨gt, 5, none⟩ (.int .i64 0)) ∧ w.grownBy (((w.setCell ⟨gt, 3, none⟩ (.int .i64 0)).setCell ⟨gt, 4, none⟩ (.int .i64 0)).setCell ⟨gt, 5, none⟩ (.int .i64 0)) (some gt)) := ⟨⟨set_block (set_block (set_block PB 3 _) 4 _) 5 _, ((PO.keep (set_grown _ _ _ _) nb).keep (set_grown _ _ _ _) nb).keep (set_grown _ _ _ _) nb⟩, ((set_grown _ _ _ _).trans (set_grown _ _ _ _)).trans (set_grown _ _ _ _)⟩
  obtain ⟨p0, p1, p2, p3, p4, p5⟩ := cells6 PB
  have f3 := (at_block PB 3 _ rfl).2
  have f4 := (at_block PB 4 _ rfl).2
  have f5 := (at_block PB 5 _ rfl).2
  clear PB PO nb
  go_enter Try.func64, Try.ntmps64
  go_wp2
  go_end0
  exact ⟨rfl, HSET.out⟩

end Go.Proofs.Ytfdklcmhafhbeaa
