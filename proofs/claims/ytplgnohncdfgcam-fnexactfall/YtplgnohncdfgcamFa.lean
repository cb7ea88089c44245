/- A server falls: the program's Fall. -/
import Derived.Test.YtplgnohncdfgcamFa0
import Derived.Test.YtplgnohncdfgcamCi
import Derived.Test.YtplgnohncdfgcamNdI
namespace Go.Proofs.Ytplgnohncdfgcam
open Go.RowKit

set_option maxRecDepth 20000 in
set_option maxHeartbeats 8000000 in
theorem iFall_yes (v : Value) (M : DNode) (n : Nat) (w : World) (h : VNode w v M) (hp : NodeP M n) (hl : LenN M 1048576) :
    Calls Try.prog 12 #[v, .int .i64 n] w fun e w' => ∃ v', e = .returned v' ∧ FalN w.heap.size w' v' M n ∧ Below w.heap.size w w' := by
  have hE : ∀ w : World, ∀ o, Ext w (w.alloc o) := fun w o => World.grownBy_alloc _ _ _
  have HV : Hid (VNode w v M) := h
  obtain ⟨lv, bv, nv, mv, rfl, hlv, hbv, hnv, hmv⟩ := h
  have HLV : Hid (VItems w lv M.log) := hlv
  obtain ⟨la, lc, rfl⟩ := items_shape hlv
  clear hlv hbv hnv hmv
  have HP : Hid (NodeP M n) := hp
  have HL : Hid (LenN M 1048576) := hl
  obtain ⟨⟨hn1, hn5⟩, hi0, hi1⟩ := nodeP_n hp
  clear hp hl
  go_enter Try.func12, Try.ntmps12
  go_wp2_with fail
  have P0 : ((w.alloc (.cells #[.int .i64 M.id, .int .i64 M.term, .int .i64 M.vote, .slice la M.log.length lc, .int .i64 M.commit, .int .i64 M.role, .int .i64 M.lead, .int .i64 M.wait, bv, nv, mv] 31 (0, 0))).alloc (.cells #[.int .i64 0, .int .i64 0, .int .i64 0, .slice none 0 0, .int .i64 0, .int .i64 0, .int .i64 0, .int .i64 0, .slice none 0 0, .slice none 0 0, .slice none 0 0] 31 (0, 0))).heap[w.heap.size]? = _ := (Below.heap_alloc (w.alloc _) _ w.heap.size (by simp)).trans (heap_alloc_new w _)
  have R0 : ((w.alloc (.cells #[.int .i64 M.id, .int .i64 M.term, .int .i64 M.vote, .slice la M.log.length lc, .int .i64 M.commit, .int .i64 M.role, .int .i64 M.lead, .int .i64 M.wait, bv, nv, mv] 31 (0, 0))).alloc (.cells #[.int .i64 0, .int .i64 0, .int .i64 0, .slice none 0 0, .int .i64 0, .int .i64 0, .int .i64 0, .int .i64 0, .slice none 0 0, .slice none 0 0, .slice none 0 0] 31 (0, 0))).heap[w.heap.size + 1]? = some (.cells #[.int .i64 0, .int .i64 0, .int .i64 0, .slice none 0 0, .int .i64 0, .int .i64 0, .int .i64 0, .int .i64 0, .slice none 0 0, .slice none 0 0, .slice none 0 0] 31 (0, 0)) := by have := heap_alloc_new (w.alloc (.cells #[.int .i64 M.id, .int .i64 M.term, .int .i64 M.vote, .slice la M.log.length lc, .int .i64 M.commit, .int .i64 M.role, .int .i64 M.lead, .int .i64 M.wait, bv, nv, mv] 31 (0, 0))) (.cells #[.int .i64 0, .int .i64 0, .int .i64 0, .slice none 0 0, .int .i64 0, .int .i64 0, .int .i64 0, .int .i64 0, .slice none 0 0, .slice none 0 0, .slice none 0 0] 31 (0, 0)); simpa using this
  have X0 : Ext w ((w.alloc (.cells #[.int .i64 M.id, .int .i64 M.term, .int .i64 M.vote, .slice la M.log.length lc, .int .i64 M.commit, .int .i64 M.role, .int .i64 M.lead, .int .i64 M.wait, bv, nv, mv] 31 (0, 0))).alloc (.cells #[.int .i64 0, .int .i64 0, .int .i64 0, .slice none 0 0, .int .i64 0, .int .i64 0, .int .i64 0, .int .i64 0, .slice none 0 0, .slice none 0 0, .slice none 0 0] 31 (0, 0))) := (hE _ _).tr (hE _ _)
  have B0 : Below w.heap.size w ((w.alloc (.cells #[.int .i64 M.id, .int .i64 M.term, .int .i64 M.vote, .slice la M.log.length lc, .int .i64 M.commit, .int .i64 M.role, .int .i64 M.lead, .int .i64 M.wait, bv, nv, mv] 31 (0, 0))).alloc (.cells #[.int .i64 0, .int .i64 0, .int .i64 0, .slice none 0 0, .int .i64 0, .int .i64 0, .int .i64 0, .int .i64 0, .slice none 0 0, .slice none 0 0, .slice none 0 0] 31 (0, 0))) := ((Below.refl _ w).alloc (Nat.le_refl _) _).alloc (by simp) _
  have z0 : ((w.alloc (.cells #[.int .i64 M.id, .int .i64 M.term, .int .i64 M.vote, .slice la M.log.length lc, .int .i64 M.commit, .int .i64 M.role, .int .i64 M.lead, .int .i64 M.wait, bv, nv, mv] 31 (0, 0))).alloc (.cells #[.int .i64 0, .int .i64 0, .int .i64 0, .slice none 0 0, .int .i64 0, .int .i64 0, .int .i64 0, .int .i64 0, .slice none 0 0, .slice none 0 0, .slice none 0 0] 31 (0, 0))).heap.size = w.heap.size + 2 := by simp
  generalize (w.alloc (.cells #[.int .i64 M.id, .int .i64 M.term, .int .i64 M.vote, .slice la M.log.length lc, .int .i64 M.commit, .int .i64 M.role, .int .i64 M.lead, .int .i64 M.wait, bv, nv, mv] 31 (0, 0))).alloc (.cells #[.int .i64 0, .int .i64 0, .int .i64 0, .slice none 0 0, .int .i64 0, .int .i64 0, .int .i64 0, .int .i64 0, .slice none 0 0, .slice none 0 0, .slice none 0 0] 31 (0, 0)) = V at P0 R0 X0 B0 z0 ⊢
  refine (iNodeOkP _ M n _ (HV.out.ext X0)).mono ?_
  rintro e w1 ⟨rfl, b1⟩
  rw [tBy HP.out]
  have s1 := b1.size
  have P1 := below_blk b1 (by omega) P0
  have R1 := below_blk b1 (by omega) R0
  have B1 := B0.trans (b1.mono (by omega))
  clear b1 P0 R0 B0
  obtain ⟨p0, x0⟩ := at_block P1 0 _ rfl
  obtain ⟨p1, x1⟩ := at_block P1 1 _ rfl
  obtain ⟨p2, x2⟩ := at_block P1 2 _ rfl
  obtain ⟨p3, x3⟩ := at_block P1 3 _ rfl
  obtain ⟨p4, x4⟩ := at_block P1 4 _ rfl
  obtain ⟨p5, x5⟩ := at_block P1 5 _ rfl
  obtain ⟨p6, x6⟩ := at_block P1 6 _ rfl
  obtain ⟨p7, x7⟩ := at_block P1 7 _ rfl
  obtain ⟨p8, x8⟩ := at_block P1 8 _ rfl
  obtain ⟨p9, x9⟩ := at_block P1 9 _ rfl
  obtain ⟨p10, x10⟩ := at_block P1 10 _ rfl
  go_wp2_with fail
  refine (iNodeNewV M.id n w1 (by omega) (by omega) hi0 hi1).mono ?_
  rintro e w2 ⟨v2, rfl, ⟨gb, gn, gm, rfl, l1, l2, l3, d1, d2, d3, o1, o2, o3⟩, b2⟩
  have s2 := b2.size
  have P2 := below_blk b2 (by omega) P1
  have R2 := below_blk b2 (by omega) R1
  have B2 := B1.trans (b2.mono (by omega))
  clear b2 P1 R1 B1 p0 x0 p1 x1 p2 x2 p3 x3 p4 x4 p5 x5 p6 x6 p7 x7 p8 x8 p9 x9 p10 x10
  obtain ⟨p0, x0⟩ := at_block P2 0 _ rfl
  obtain ⟨p1, x1⟩ := at_block P2 1 _ rfl
  obtain ⟨p2, x2⟩ := at_block P2 2 _ rfl
  obtain ⟨p3, x3⟩ := at_block P2 3 _ rfl
  obtain ⟨p4, x4⟩ := at_block P2 4 _ rfl
  obtain ⟨p5, x5⟩ := at_block P2 5 _ rfl
  obtain ⟨p6, x6⟩ := at_block P2 6 _ rfl
  obtain ⟨p7, x7⟩ := at_block P2 7 _ rfl
  obtain ⟨p8, x8⟩ := at_block P2 8 _ rfl
  obtain ⟨p9, x9⟩ := at_block P2 9 _ rfl
  obtain ⟨p10, x10⟩ := at_block P2 10 _ rfl
  unfold nodeV
  go_wp2_with fail
  have P3 : (w2.alloc (.cells #[.int .i64 M.id, .int .i64 0, .int .i64 (-1), .slice none 0 0, .int .i64 0, .int .i64 0, .int .i64 (-1), .int .i64 0, .slice (some ⟨gb, 0, none⟩) n n, .slice (some ⟨gn, 0, none⟩) n n, .slice (some ⟨gm, 0, none⟩) n n] 31 (0, 0))).heap[w.heap.size]? = _ := (Below.heap_alloc w2 _ _ (by omega)).trans P2
  have R3 : (w2.alloc (.cells #[.int .i64 M.id, .int .i64 0, .int .i64 (-1), .slice none 0 0, .int .i64 0, .int .i64 0, .int .i64 (-1), .int .i64 0, .slice (some ⟨gb, 0, none⟩) n n, .slice (some ⟨gn, 0, none⟩) n n, .slice (some ⟨gm, 0, none⟩) n n] 31 (0, 0))).heap[w.heap.size + 1]? = _ := (Below.heap_alloc w2 _ _ (by omega)).trans R2
  have T3 := heap_alloc_new w2 (.cells #[.int .i64 M.id, .int .i64 0, .int .i64 (-1), .slice none 0 0, .int .i64 0, .int .i64 0, .int .i64 (-1), .int .i64 0, .slice (some ⟨gb, 0, none⟩) n n, .slice (some ⟨gn, 0, none⟩) n n, .slice (some ⟨gm, 0, none⟩) n n] 31 (0, 0))
  have B3 := B2.alloc (by omega) (.cells #[.int .i64 M.id, .int .i64 0, .int .i64 (-1), .slice none 0 0, .int .i64 0, .int .i64 0, .int .i64 (-1), .int .i64 0, .slice (some ⟨gb, 0, none⟩) n n, .slice (some ⟨gn, 0, none⟩) n n, .slice (some ⟨gm, 0, none⟩) n n] 31 (0, 0))
  have z3 : (w2.alloc (.cells #[.int .i64 M.id, .int .i64 0, .int .i64 (-1), .slice none 0 0, .int .i64 0, .int .i64 0, .int .i64 (-1), .int .i64 0, .slice (some ⟨gb, 0, none⟩) n n, .slice (some ⟨gn, 0, none⟩) n n, .slice (some ⟨gm, 0, none⟩) n n] 31 (0, 0))).heap.size = w2.heap.size + 1 := by simp
  have HO : Hid ((w2.alloc (.cells #[.int .i64 M.id, .int .i64 0, .int .i64 (-1), .slice none 0 0, .int .i64 0, .int .i64 0, .int .i64 (-1), .int .i64 0, .slice (some ⟨gb, 0, none⟩) n n, .slice (some ⟨gn, 0, none⟩) n n, .slice (some ⟨gm, 0, none⟩) n n] 31 (0, 0))).heap[gb]? = some (.cells (List.replicate n (Value.bool false)).toArray 4 (0, 0)) ∧ (w2.alloc (.cells #[.int .i64 M.id, .int .i64 0, .int .i64 (-1), .slice none 0 0, .int .i64 0, .int .i64 0, .int .i64 (-1), .int .i64 0, .slice (some ⟨gb, 0, none⟩) n n, .slice (some ⟨gn, 0, none⟩) n n, .slice (some ⟨gm, 0, none⟩) n n] 31 (0, 0))).heap[gn]? = some (.cells (List.replicate n (Value.int .i64 0)).toArray 3 (0, 0)) ∧ (w2.alloc (.cells #[.int .i64 M.id, .int .i64 0, .int .i64 (-1), .slice none 0 0, .int .i64 0, .int .i64 0, .int .i64 (-1), .int .i64 0, .slice (some ⟨gb, 0, none⟩) n n, .slice (some ⟨gn, 0, none⟩) n n, .slice (some ⟨gm, 0, none⟩) n n] 31 (0, 0))).heap[gm]? = some (.cells (List.replicate n (Value.int .i64 0)).toArray 3 (0, 0))) := ⟨(Below.heap_alloc w2 _ _ (Array.getElem?_eq_some_iff.1 o1).1).trans o1, (Below.heap_alloc w2 _ _ (Array.getElem?_eq_some_iff.1 o2).1).trans o2, (Below.heap_alloc w2 _ _ (Array.getElem?_eq_some_iff.1 o3).1).trans o3⟩
  have lb := (Array.getElem?_eq_some_iff.1 o1).1
  have ln := (Array.getElem?_eq_some_iff.1 o2).1
  have lm := (Array.getElem?_eq_some_iff.1 o3).1
  clear o1 o2 o3 P2 R2 B2 p0 x0 p1 x1 p2 x2 p3 x3 p4 x4 p5 x5 p6 x6 p7 x7 p8 x8 p9 x9 p10 x10
  generalize hU : w2.alloc (.cells #[.int .i64 M.id, .int .i64 0, .int .i64 (-1), .slice none 0 0, .int .i64 0, .int .i64 0, .int .i64 (-1), .int .i64 0, .slice (some ⟨gb, 0, none⟩) n n, .slice (some ⟨gn, 0, none⟩) n n, .slice (some ⟨gm, 0, none⟩) n n] 31 (0, 0)) = U at P3 R3 T3 B3 z3 HO ⊢
  clear hU
  have zd : U.drew.heap.size = U.heap.size := rfl
  have XD : Ext U U.drew := ext_drewN U 1
  have XU := ext_below B3
  obtain ⟨p1, x1⟩ := at_block P3 1 _ rfl
  obtain ⟨p2, x2⟩ := at_block P3 2 _ rfl
  obtain ⟨p3, x3⟩ := at_block P3 3 _ rfl
  obtain ⟨t1, y1⟩ := at_block T3 1 _ rfl
  obtain ⟨t2, y2⟩ := at_block T3 2 _ rfl
  obtain ⟨t3, y3⟩ := at_block T3 3 _ rfl
  have UP : ∀ (W : World), W.heap[w.heap.size]? = U.heap[w.heap.size]? → W.cell? ⟨w.heap.size, 1, none⟩ = some (.int .i64 M.term) ∧ W.cell? ⟨w.heap.size, 2, none⟩ = some (.int .i64 M.vote) ∧ W.cell? ⟨w.heap.size, 3, none⟩ = some (.slice la M.log.length lc) := fun W hW => ⟨(at_block (hW.trans P3) 1 _ rfl).1, (at_block (hW.trans P3) 2 _ rfl).1, (at_block (hW.trans P3) 3 _ rfl).1⟩
  have hLL : M.log.length ≤ 1048576 := HL.out.1
  have hLT : Hid (∀ (i : Nat) s, M.log[i]? = some s → s.cmd.op.key.length ≤ 2097152 ∧ s.cmd.op.val.length ≤ 2097152) := fun i s hs => by have := HL.out.2.1 i s hs; omega
  go_region_with (go_at_call 37; refine (copyItemsV _ M.log _ (HLV.out.ext (XU.tr XD)) hLL hLT.out).mono ?_; rintro e w3 ⟨v3, F, rfl, g3, b3⟩; obtain ⟨a3, c3, rfl⟩ := g3.shape; have P4 := below_blk b3 (by omega) (show U.drew.heap[w.heap.size]? = _ from P3); have T4 := below_blk b3 (by omega) (show U.drew.heap[w2.heap.size]? = _ from T3); obtain ⟨p1, x1⟩ := at_block P4 1 _ rfl; obtain ⟨p2, x2⟩ := at_block P4 2 _ rfl; obtain ⟨p3, x3⟩ := at_block P4 3 _ rfl; obtain ⟨t1, y1⟩ := at_block T4 1 _ rfl; obtain ⟨t2, y2⟩ := at_block T4 2 _ rfl; obtain ⟨t3, y3⟩ := at_block T4 3 _ rfl)
  all_goals
    have s3 := b3.size
    have R4 := below_blk b3 (by omega) (show U.drew.heap[w.heap.size + 1]? = _ from R3)
    have T5 := set_block (set_block (set_block T4 1 (.int .i64 M.term)) 2 (.int .i64 M.vote)) 3 (.slice a3 M.log.length c3)
    have R5 := set_other w2.heap.size 3 (.slice a3 M.log.length c3) (by omega) (set_other w2.heap.size 2 (.int .i64 M.vote) (by omega) (set_other w2.heap.size 1 (.int .i64 M.term) (by omega) R4))
    have B4 : Below w.heap.size w w3 := (below_drewN B3 1).trans (b3.mono (by omega))
    have HG : Hid (IG (w2.heap.size + 1) w3 (.slice a3 M.log.length c3) M.log F) := g3.mono (by omega)
    have HO4 : Hid (w3.heap[gb]? = some (.cells (List.replicate n (Value.bool false)).toArray 4 (0, 0)) ∧ w3.heap[gn]? = some (.cells (List.replicate n (Value.int .i64 0)).toArray 3 (0, 0)) ∧ w3.heap[gm]? = some (.cells (List.replicate n (Value.int .i64 0)).toArray 3 (0, 0))) := ⟨below_blk b3 (by omega) (show U.drew.heap[gb]? = _ from HO.out.1), below_blk b3 (by omega) (show U.drew.heap[gn]? = _ from HO.out.2.1), below_blk b3 (by omega) (show U.drew.heap[gm]? = _ from HO.out.2.2)⟩
    clear T4 P4 R4 g3 b3 UP p1 p2 p3 x1 x2 x3 t1 t2 t3 y1 y2 y3
    obtain ⟨t0, y0⟩ := at_block T5 0 _ rfl
    obtain ⟨t1, y1⟩ := at_block T5 1 _ rfl
    obtain ⟨t2, y2⟩ := at_block T5 2 _ rfl
    obtain ⟨t3, y3⟩ := at_block T5 3 _ rfl
    obtain ⟨t4, y4⟩ := at_block T5 4 _ rfl
    obtain ⟨t5, y5⟩ := at_block T5 5 _ rfl
    obtain ⟨t6, y6⟩ := at_block T5 6 _ rfl
    obtain ⟨t7, y7⟩ := at_block T5 7 _ rfl
    obtain ⟨t8, y8⟩ := at_block T5 8 _ rfl
    obtain ⟨t9, y9⟩ := at_block T5 9 _ rfl
    obtain ⟨t10, y10⟩ := at_block T5 10 _ rfl
    obtain ⟨r0, zz0⟩ := at_block R5 0 _ rfl
    obtain ⟨r1, z1⟩ := at_block R5 1 _ rfl
    obtain ⟨r2, z2⟩ := at_block R5 2 _ rfl
    obtain ⟨r3, zz3⟩ := at_block R5 3 _ rfl
    obtain ⟨r4, z4⟩ := at_block R5 4 _ rfl
    obtain ⟨r5, z5⟩ := at_block R5 5 _ rfl
    obtain ⟨r6, z6⟩ := at_block R5 6 _ rfl
    obtain ⟨r7, z7⟩ := at_block R5 7 _ rfl
    obtain ⟨r8, z8⟩ := at_block R5 8 _ rfl
    obtain ⟨r9, z9⟩ := at_block R5 9 _ rfl
    obtain ⟨r10, z10⟩ := at_block R5 10 _ rfl
    clear T5 R5
    go_wp2
    refine bodyPost_ret (v := .agg #[.int .i64 M.id, .int .i64 M.term, .int .i64 M.vote, .slice a3 M.log.length c3, .int .i64 0, .int .i64 0, .int .i64 (-1), .int .i64 0, .slice (some ⟨gb, 0, none⟩) n n, .slice (some ⟨gn, 0, none⟩) n n, .slice (some ⟨gm, 0, none⟩) n n]) (by simp [results, Try.results12, go_sem, r0, r1, r2, r3, r4, r5, r6, r7, r8, r9, r10]) rfl ?_
    refine ⟨_, rfl, ⟨_, F, gb, gn, gm, rfl, IG.mono (base := w2.heap.size + 1) ?_ (by omega), by omega, by omega, by omega, d3, ovl_repB ?_, ovl_repI ?_, ovl_repI ?_⟩, ?_⟩
    · repeat (refine IG.set ?_ (by omega))
      exact HG.out
    · repeat (refine set_other _ _ _ (by omega) ?_)
      exact HO4.out.1
    · repeat (refine set_other _ _ _ (by omega) ?_)
      exact HO4.out.2.1
    · repeat (refine set_other _ _ _ (by omega) ?_)
      exact HO4.out.2.2
    · repeat (refine below_set ?_ (by omega))
      exact B4

end Go.Proofs.Ytplgnohncdfgcam
