/- A server falls: the specification's Fall. -/
import Derived.Test.YtplgnohncdfgcamFa0
import Derived.Test.YtplgnohncdfgcamCi2
import Derived.Test.YtplgnohncdfgcamNdS
namespace Go.Proofs.Ytplgnohncdfgcam
open Go.RowKit

set_option maxRecDepth 20000 in
set_option maxHeartbeats 8000000 in
theorem sFall_yes (v : Value) (M : DNode) (n : Nat) (w : World) (h : VNode w v M) (hp : NodeP M n) (hl : LenN M 1048576) :
    Calls Try.prog 11 #[v, .int .i64 n] w fun e w' => ∃ v', e = .returned v' ∧ FalN w.heap.size w' v' M n ∧ Below w.heap.size w w' := by
  have hE : ∀ w : World, ∀ o, Ext w (w.alloc o) := fun w o => World.grownBy_alloc _ _ _
  have HV : Hid (VNode w v M) := h
  obtain ⟨lv, bv, nv, mv, rfl, hlv, hbv, hnv, hmv⟩ := h
  have HLV : Hid (VItems w lv M.log) := hlv
  obtain ⟨la, lc, rfl⟩ := items_shape hlv
  clear hlv hbv hnv hmv
  have HP : Hid (NodeP M n) := hp
  have HL : Hid (LenN M 1048576) := hl
  obtain ⟨⟨hn1, hn5⟩, hi0, hi1⟩ := nodeP_n hp
  clear hp hl
  go_enter Try.func11, Try.ntmps11
  go_wp2_with fail
  have P0 : ((w.alloc (.cells #[.int .i64 M.id, .int .i64 M.term, .int .i64 M.vote, .slice la M.log.length lc, .int .i64 M.commit, .int .i64 M.role, .int .i64 M.lead, .int .i64 M.wait, bv, nv, mv] 31 (0, 0))).alloc (.cells #[.int .i64 0, .int .i64 0, .int .i64 0, .slice none 0 0, .int .i64 0, .int .i64 0, .int .i64 0, .int .i64 0, .slice none 0 0, .slice none 0 0, .slice none 0 0] 31 (0, 0))).heap[w.heap.size]? = _ := (Below.heap_alloc (w.alloc _) _ w.heap.size (by simp)).trans (heap_alloc_new w _)
  have R0 : ((w.alloc (.cells #[.int .i64 M.id, .int .i64 M.term, .int .i64 M.vote, .slice la M.log.length lc, .int .i64 M.commit, .int .i64 M.role, .int .i64 M.lead, .int .i64 M.wait, bv, nv, mv] 31 (0, 0))).alloc (.cells #[.int .i64 0, .int .i64 0, .int .i64 0, .slice none 0 0, .int .i64 0, .int .i64 0, .int .i64 0, .int .i64 0, .slice none 0 0, .slice none 0 0, .slice none 0 0] 31 (0, 0))).heap[w.heap.size + 1]? = some (.cells #[.int .i64 0, .int .i64 0, .int .i64 0, .slice none 0 0, .int .i64 0, .int .i64 0, .int .i64 0, .int .i64 0, .slice none 0 0, .slice none 0 0, .slice none 0 0] 31 (0, 0)) := by have := heap_alloc_new (w.alloc (.cells #[.int .i64 M.id, .int .i64 M.term, .int .i64 M.vote, .slice la M.log.length lc, .int .i64 M.commit, .int .i64 M.role, .int .i64 M.lead, .int .i64 M.wait, bv, nv, mv] 31 (0, 0))) (.cells #[.int .i64 0, .int .i64 0, .int .i64 0, .slice none 0 0, .int .i64 0, .int .i64 0, .int .i64 0, .int .i64 0, .slice none 0 0, .slice none 0 0, .slice none 0 0] 31 (0, 0)); simpa using this
  have X0 : Ext w ((w.alloc (.cells #[.int .i64 M.id, .int .i64 M.term, .int .i64 M.vote, .slice la M.log.length lc, .int .i64 M.commit, .int .i64 M.role, .int .i64 M.lead, .int .i64 M.wait, bv, nv, mv] 31 (0, 0))).alloc (.cells #[.int .i64 0, .int .i64 0, .int .i64 0, .slice none 0 0, .int .i64 0, .int .i64 0, .int .i64 0, .int .i64 0, .slice none 0 0, .slice none 0 0, .slice none 0 0] 31 (0, 0))) := (hE _ _).tr (hE _ _)
  have B0 : Below w.heap.size w ((w.alloc (.cells #[.int .i64 M.id, .int .i64 M.term, .int .i64 M.vote, .slice la M.log.length lc, .int .i64 M.commit, .int .i64 M.role, .int .i64 M.lead, .int .i64 M.wait, bv, nv, mv] 31 (0, 0))).alloc (.cells #[.int .i64 0, .int .i64 0, .int .i64 0, .slice none 0 0, .int .i64 0, .int .i64 0, .int .i64 0, .int .i64 0, .slice none 0 0, .slice none 0 0, .slice none 0 0] 31 (0, 0))) := ((Below.refl _ w).alloc (Nat.le_refl _) _).alloc (by simp) _
  have z0 : ((w.alloc (.cells #[.int .i64 M.id, .int .i64 M.term, .int .i64 M.vote, .slice la M.log.length lc, .int .i64 M.commit, .int .i64 M.role, .int .i64 M.lead, .int .i64 M.wait, bv, nv, mv] 31 (0, 0))).alloc (.cells #[.int .i64 0, .int .i64 0, .int .i64 0, .slice none 0 0, .int .i64 0, .int .i64 0, .int .i64 0, .int .i64 0, .slice none 0 0, .slice none 0 0, .slice none 0 0] 31 (0, 0))).heap.size = w.heap.size + 2 := by simp
  generalize (w.alloc (.cells #[.int .i64 M.id, .int .i64 M.term, .int .i64 M.vote, .slice la M.log.length lc, .int .i64 M.commit, .int .i64 M.role, .int .i64 M.lead, .int .i64 M.wait, bv, nv, mv] 31 (0, 0))).alloc (.cells #[.int .i64 0, .int .i64 0, .int .i64 0, .slice none 0 0, .int .i64 0, .int .i64 0, .int .i64 0, .int .i64 0, .slice none 0 0, .slice none 0 0, .slice none 0 0] 31 (0, 0)) = V at P0 R0 X0 B0 z0 ⊢
  refine (sNodeOkP M n _ _ (HV.out.ext X0)).mono ?_
  rintro e w1 ⟨rfl, b1⟩
  rw [tBy HP.out]
  have s1 := b1.size
  have P1 := below_blk b1 (by omega) P0
  have R1 := below_blk b1 (by omega) R0
  have B1 := B0.trans (b1.mono (by omega))
  clear b1 P0 R0 B0
  obtain ⟨p0, x0⟩ := at_block P1 0 _ rfl
  obtain ⟨p1, x1⟩ := at_block P1 1 _ rfl
  obtain ⟨p2, x2⟩ := at_block P1 2 _ rfl
  obtain ⟨p3, x3⟩ := at_block P1 3 _ rfl
  obtain ⟨p4, x4⟩ := at_block P1 4 _ rfl
  obtain ⟨p5, x5⟩ := at_block P1 5 _ rfl
  obtain ⟨p6, x6⟩ := at_block P1 6 _ rfl
  obtain ⟨p7, x7⟩ := at_block P1 7 _ rfl
  obtain ⟨p8, x8⟩ := at_block P1 8 _ rfl
  obtain ⟨p9, x9⟩ := at_block P1 9 _ rfl
  obtain ⟨p10, x10⟩ := at_block P1 10 _ rfl
  go_wp2_with fail
  refine (l4newV M.id n w1 (by omega)).mono ?_
  rintro e w2 ⟨v2, rfl, ⟨gb, gn, gm, rfl, l1, l2, l3, d1, d2, d3, o1, o2, o3⟩, b2⟩
  have s2 := b2.size
  have P2 := below_blk b2 (by omega) P1
  have R2 := below_blk b2 (by omega) R1
  have B2 := B1.trans (b2.mono (by omega))
  have lb := (Array.getElem?_eq_some_iff.1 o1).1
  have ln := (Array.getElem?_eq_some_iff.1 o2).1
  have lm := (Array.getElem?_eq_some_iff.1 o3).1
  clear b2 P1 R1 B1 p0 x0 p1 x1 p2 x2 p3 x3 p4 x4 p5 x5 p6 x6 p7 x7 p8 x8 p9 x9 p10 x10
  obtain ⟨p0, x0⟩ := at_block P2 0 _ rfl
  obtain ⟨p1, x1⟩ := at_block P2 1 _ rfl
  obtain ⟨p2, x2⟩ := at_block P2 2 _ rfl
  obtain ⟨p3, x3⟩ := at_block P2 3 _ rfl
  obtain ⟨p4, x4⟩ := at_block P2 4 _ rfl
  obtain ⟨p5, x5⟩ := at_block P2 5 _ rfl
  obtain ⟨p6, x6⟩ := at_block P2 6 _ rfl
  obtain ⟨p7, x7⟩ := at_block P2 7 _ rfl
  obtain ⟨p8, x8⟩ := at_block P2 8 _ rfl
  obtain ⟨p9, x9⟩ := at_block P2 9 _ rfl
  obtain ⟨p10, x10⟩ := at_block P2 10 _ rfl
  have hLL : M.log.length ≤ 1048576 := HL.out.1
  have hLT : Hid (∀ (i : Nat) s, M.log[i]? = some s → s.cmd.op.key.length ≤ 2097152 ∧ s.cmd.op.val.length ≤ 2097152) := fun i s hs => by have := HL.out.2.1 i s hs; omega
  unfold nodeV
  have PU : ∀ o, (w2.alloc o).heap[w.heap.size]? = _ := fun o => (Below.heap_alloc w2 o w.heap.size (by omega)).trans P2
  have u1 : ∀ o, (w2.alloc o).cell? ⟨w.heap.size, 1, none⟩ = some (.int .i64 M.term) := fun o => (at_block (PU o) 1 _ rfl).1
  have u2 : ∀ o, (w2.alloc o).cell? ⟨w.heap.size, 2, none⟩ = some (.int .i64 M.vote) := fun o => (at_block (PU o) 2 _ rfl).1
  have u3 : ∀ o, (w2.alloc o).cell? ⟨w.heap.size, 3, none⟩ = some (.slice la M.log.length lc) := fun o => (at_block (PU o) 3 _ rfl).1
  have BU := B2.alloc (by omega) (.cells #[.int .i64 M.id, .int .i64 M.term, .int .i64 M.vote, .slice none 0 0, .int .i64 0, .int .i64 0, .int .i64 (-1), .int .i64 0, .slice (some ⟨gb, 0, none⟩) n n, .slice (some ⟨gn, 0, none⟩) n n, .slice (some ⟨gm, 0, none⟩) n n] 31 (0, 0))
  have RU : (w2.alloc (.cells #[.int .i64 M.id, .int .i64 M.term, .int .i64 M.vote, .slice none 0 0, .int .i64 0, .int .i64 0, .int .i64 (-1), .int .i64 0, .slice (some ⟨gb, 0, none⟩) n n, .slice (some ⟨gn, 0, none⟩) n n, .slice (some ⟨gm, 0, none⟩) n n] 31 (0, 0))).heap[w.heap.size + 1]? = _ := (Below.heap_alloc w2 _ _ (by omega)).trans R2
  have TU := heap_alloc_new w2 (.cells #[.int .i64 M.id, .int .i64 M.term, .int .i64 M.vote, .slice none 0 0, .int .i64 0, .int .i64 0, .int .i64 (-1), .int .i64 0, .slice (some ⟨gb, 0, none⟩) n n, .slice (some ⟨gn, 0, none⟩) n n, .slice (some ⟨gm, 0, none⟩) n n] 31 (0, 0))
  have zU : (w2.alloc (.cells #[.int .i64 M.id, .int .i64 M.term, .int .i64 M.vote, .slice none 0 0, .int .i64 0, .int .i64 0, .int .i64 (-1), .int .i64 0, .slice (some ⟨gb, 0, none⟩) n n, .slice (some ⟨gn, 0, none⟩) n n, .slice (some ⟨gm, 0, none⟩) n n] 31 (0, 0))).heap.size = w2.heap.size + 1 := by simp
  have HO : Hid ((w2.alloc (.cells #[.int .i64 M.id, .int .i64 M.term, .int .i64 M.vote, .slice none 0 0, .int .i64 0, .int .i64 0, .int .i64 (-1), .int .i64 0, .slice (some ⟨gb, 0, none⟩) n n, .slice (some ⟨gn, 0, none⟩) n n, .slice (some ⟨gm, 0, none⟩) n n] 31 (0, 0))).heap[gb]? = some (.cells (List.replicate n (Value.bool false)).toArray 4 (0, 0)) ∧ (w2.alloc (.cells #[.int .i64 M.id, .int .i64 M.term, .int .i64 M.vote, .slice none 0 0, .int .i64 0, .int .i64 0, .int .i64 (-1), .int .i64 0, .slice (some ⟨gb, 0, none⟩) n n, .slice (some ⟨gn, 0, none⟩) n n, .slice (some ⟨gm, 0, none⟩) n n] 31 (0, 0))).heap[gn]? = some (.cells (List.replicate n (Value.int .i64 0)).toArray 3 (0, 0)) ∧ (w2.alloc (.cells #[.int .i64 M.id, .int .i64 M.term, .int .i64 M.vote, .slice none 0 0, .int .i64 0, .int .i64 0, .int .i64 (-1), .int .i64 0, .slice (some ⟨gb, 0, none⟩) n n, .slice (some ⟨gn, 0, none⟩) n n, .slice (some ⟨gm, 0, none⟩) n n] 31 (0, 0))).heap[gm]? = some (.cells (List.replicate n (Value.int .i64 0)).toArray 3 (0, 0))) := ⟨(Below.heap_alloc w2 _ _ lb).trans o1, (Below.heap_alloc w2 _ _ ln).trans o2, (Below.heap_alloc w2 _ _ lm).trans o3⟩
  have HU : Hid _ := And.intro RU (And.intro TU (And.intro BU zU))
  clear PU BU RU TU zU P2 R2 B2 o1 o2 o3 p0 x0 p1 x1 p2 x2 p3 x3 p4 x4 p5 x5 p6 x6 p7 x7 p8 x8 p9 x9 p10 x10
  go_wp2_with fail
  refine (sOwnItemsV _ M.log _ (HLV.out.ext (ext_below HU.out.2.2.1)) hLL hLT.out).mono ?_
  rintro e w3 ⟨v3, F, rfl, g3, b3⟩
  obtain ⟨a3, c3, rfl⟩ := g3.shape
  obtain ⟨RU, TU, BU, zU⟩ := HU.out
  have s3 := b3.size
  have R4 := below_blk b3 (by omega) RU
  have T4 := below_blk b3 (by omega) TU
  have T5 := set_block T4 3 (.slice a3 M.log.length c3)
  have R5 := set_other w2.heap.size 3 (.slice a3 M.log.length c3) (by omega) R4
  have B4 : Below w.heap.size w w3 := BU.trans (b3.mono (by omega))
  have HG : Hid (IG (w2.heap.size + 1) w3 (.slice a3 M.log.length c3) M.log F) := g3.mono (by omega)
  have HO4 : Hid (w3.heap[gb]? = some (.cells (List.replicate n (Value.bool false)).toArray 4 (0, 0)) ∧ w3.heap[gn]? = some (.cells (List.replicate n (Value.int .i64 0)).toArray 3 (0, 0)) ∧ w3.heap[gm]? = some (.cells (List.replicate n (Value.int .i64 0)).toArray 3 (0, 0))) := ⟨below_blk b3 (by omega) HO.out.1, below_blk b3 (by omega) HO.out.2.1, below_blk b3 (by omega) HO.out.2.2⟩
  obtain ⟨t3, y3⟩ := at_block T4 3 _ rfl
  clear T4 R4 g3 b3 RU TU BU zU HU HO u1 u2 u3
  obtain ⟨tt0, yy0⟩ := at_block T5 0 _ rfl
  obtain ⟨tt1, yy1⟩ := at_block T5 1 _ rfl
  obtain ⟨tt2, yy2⟩ := at_block T5 2 _ rfl
  obtain ⟨tt3, yy3⟩ := at_block T5 3 _ rfl
  obtain ⟨tt4, yy4⟩ := at_block T5 4 _ rfl
  obtain ⟨tt5, yy5⟩ := at_block T5 5 _ rfl
  obtain ⟨tt6, yy6⟩ := at_block T5 6 _ rfl
  obtain ⟨tt7, yy7⟩ := at_block T5 7 _ rfl
  obtain ⟨tt8, yy8⟩ := at_block T5 8 _ rfl
  obtain ⟨tt9, yy9⟩ := at_block T5 9 _ rfl
  obtain ⟨tt10, yy10⟩ := at_block T5 10 _ rfl
  obtain ⟨r0, zz0⟩ := at_block R5 0 _ rfl
  obtain ⟨r1, zz1⟩ := at_block R5 1 _ rfl
  obtain ⟨r2, zz2⟩ := at_block R5 2 _ rfl
  obtain ⟨r3, zz3⟩ := at_block R5 3 _ rfl
  obtain ⟨r4, zz4⟩ := at_block R5 4 _ rfl
  obtain ⟨r5, zz5⟩ := at_block R5 5 _ rfl
  obtain ⟨r6, zz6⟩ := at_block R5 6 _ rfl
  obtain ⟨r7, zz7⟩ := at_block R5 7 _ rfl
  obtain ⟨r8, zz8⟩ := at_block R5 8 _ rfl
  obtain ⟨r9, zz9⟩ := at_block R5 9 _ rfl
  obtain ⟨r10, zz10⟩ := at_block R5 10 _ rfl
  clear T5 R5
  go_wp2
  refine bodyPost_ret (v := .agg #[.int .i64 M.id, .int .i64 M.term, .int .i64 M.vote, .slice a3 M.log.length c3, .int .i64 0, .int .i64 0, .int .i64 (-1), .int .i64 0, .slice (some ⟨gb, 0, none⟩) n n, .slice (some ⟨gn, 0, none⟩) n n, .slice (some ⟨gm, 0, none⟩) n n]) (by simp [results, Try.results11, go_sem, r0, r1, r2, r3, r4, r5, r6, r7, r8, r9, r10]) rfl ?_
  refine ⟨_, rfl, ⟨_, F, gb, gn, gm, rfl, IG.mono (base := w2.heap.size + 1) ?_ (by omega), by omega, by omega, by omega, d3, ovl_repB ?_, ovl_repI ?_, ovl_repI ?_⟩, ?_⟩
  · repeat (refine IG.set ?_ (by omega))
    exact HG.out
  · repeat (refine set_other _ _ _ (by omega) ?_)
    exact HO4.out.1
  · repeat (refine set_other _ _ _ (by omega) ?_)
    exact HO4.out.2.1
  · repeat (refine set_other _ _ _ (by omega) ?_)
    exact HO4.out.2.2
  · repeat (refine below_set ?_ (by omega))
    exact B4

set_option maxRecDepth 20000 in
set_option maxHeartbeats 4000000 in
theorem sFall_no (v : Value) (M : DNode) (s : Int) (w : World) (h : VNode w v M) (hp : ¬ NodeP M s) :
    Calls Try.prog 11 #[v, .int .i64 s] w fun e w' => e = .returned zeroV ∧ Below w.heap.size w w' := by
  have hE : ∀ w : World, ∀ o, Ext w (w.alloc o) := fun w o => World.grownBy_alloc _ _ _
  have HV : Hid (VNode w v M) := h
  obtain ⟨lv, bv, nv, mv, rfl, hlv, hbv, hnv, hmv⟩ := h
  have HLV : Hid (VItems w lv M.log) := hlv
  obtain ⟨la, lc, rfl⟩ := items_shape hlv
  clear hlv hbv hnv hmv
  have HP : Hid (¬ NodeP M s) := hp
  clear hp
  go_enter Try.func11, Try.ntmps11
  go_wp2_with fail
  have P0 : ((w.alloc (.cells #[.int .i64 M.id, .int .i64 M.term, .int .i64 M.vote, .slice la M.log.length lc, .int .i64 M.commit, .int .i64 M.role, .int .i64 M.lead, .int .i64 M.wait, bv, nv, mv] 31 (0, 0))).alloc (.cells #[.int .i64 0, .int .i64 0, .int .i64 0, .slice none 0 0, .int .i64 0, .int .i64 0, .int .i64 0, .int .i64 0, .slice none 0 0, .slice none 0 0, .slice none 0 0] 31 (0, 0))).heap[w.heap.size]? = _ := (Below.heap_alloc (w.alloc _) _ w.heap.size (by simp)).trans (heap_alloc_new w _)
  have R0 : ((w.alloc (.cells #[.int .i64 M.id, .int .i64 M.term, .int .i64 M.vote, .slice la M.log.length lc, .int .i64 M.commit, .int .i64 M.role, .int .i64 M.lead, .int .i64 M.wait, bv, nv, mv] 31 (0, 0))).alloc (.cells #[.int .i64 0, .int .i64 0, .int .i64 0, .slice none 0 0, .int .i64 0, .int .i64 0, .int .i64 0, .int .i64 0, .slice none 0 0, .slice none 0 0, .slice none 0 0] 31 (0, 0))).heap[w.heap.size + 1]? = some (.cells #[.int .i64 0, .int .i64 0, .int .i64 0, .slice none 0 0, .int .i64 0, .int .i64 0, .int .i64 0, .int .i64 0, .slice none 0 0, .slice none 0 0, .slice none 0 0] 31 (0, 0)) := by have := heap_alloc_new (w.alloc (.cells #[.int .i64 M.id, .int .i64 M.term, .int .i64 M.vote, .slice la M.log.length lc, .int .i64 M.commit, .int .i64 M.role, .int .i64 M.lead, .int .i64 M.wait, bv, nv, mv] 31 (0, 0))) (.cells #[.int .i64 0, .int .i64 0, .int .i64 0, .slice none 0 0, .int .i64 0, .int .i64 0, .int .i64 0, .int .i64 0, .slice none 0 0, .slice none 0 0, .slice none 0 0] 31 (0, 0)); simpa using this
  have X0 : Ext w ((w.alloc (.cells #[.int .i64 M.id, .int .i64 M.term, .int .i64 M.vote, .slice la M.log.length lc, .int .i64 M.commit, .int .i64 M.role, .int .i64 M.lead, .int .i64 M.wait, bv, nv, mv] 31 (0, 0))).alloc (.cells #[.int .i64 0, .int .i64 0, .int .i64 0, .slice none 0 0, .int .i64 0, .int .i64 0, .int .i64 0, .int .i64 0, .slice none 0 0, .slice none 0 0, .slice none 0 0] 31 (0, 0))) := (hE _ _).tr (hE _ _)
  have B0 : Below w.heap.size w ((w.alloc (.cells #[.int .i64 M.id, .int .i64 M.term, .int .i64 M.vote, .slice la M.log.length lc, .int .i64 M.commit, .int .i64 M.role, .int .i64 M.lead, .int .i64 M.wait, bv, nv, mv] 31 (0, 0))).alloc (.cells #[.int .i64 0, .int .i64 0, .int .i64 0, .slice none 0 0, .int .i64 0, .int .i64 0, .int .i64 0, .int .i64 0, .slice none 0 0, .slice none 0 0, .slice none 0 0] 31 (0, 0))) := ((Below.refl _ w).alloc (Nat.le_refl _) _).alloc (by simp) _
  have z0 : ((w.alloc (.cells #[.int .i64 M.id, .int .i64 M.term, .int .i64 M.vote, .slice la M.log.length lc, .int .i64 M.commit, .int .i64 M.role, .int .i64 M.lead, .int .i64 M.wait, bv, nv, mv] 31 (0, 0))).alloc (.cells #[.int .i64 0, .int .i64 0, .int .i64 0, .slice none 0 0, .int .i64 0, .int .i64 0, .int .i64 0, .int .i64 0, .slice none 0 0, .slice none 0 0, .slice none 0 0] 31 (0, 0))).heap.size = w.heap.size + 2 := by simp
  generalize (w.alloc (.cells #[.int .i64 M.id, .int .i64 M.term, .int .i64 M.vote, .slice la M.log.length lc, .int .i64 M.commit, .int .i64 M.role, .int .i64 M.lead, .int .i64 M.wait, bv, nv, mv] 31 (0, 0))).alloc (.cells #[.int .i64 0, .int .i64 0, .int .i64 0, .slice none 0 0, .int .i64 0, .int .i64 0, .int .i64 0, .int .i64 0, .slice none 0 0, .slice none 0 0, .slice none 0 0] 31 (0, 0)) = V at P0 R0 X0 B0 z0 ⊢
  refine (sNodeOkP M s _ _ (HV.out.ext X0)).mono ?_
  rintro e w1 ⟨rfl, b1⟩
  rw [tBn HP.out]
  have s1 := b1.size
  have R1 := below_blk b1 (by omega) R0
  have B1 := B0.trans (b1.mono (by omega))
  clear b1 P0 R0 B0
  obtain ⟨r0, zz0⟩ := at_block R1 0 _ rfl
  obtain ⟨r1, zz1⟩ := at_block R1 1 _ rfl
  obtain ⟨r2, zz2⟩ := at_block R1 2 _ rfl
  obtain ⟨r3, zz3⟩ := at_block R1 3 _ rfl
  obtain ⟨r4, zz4⟩ := at_block R1 4 _ rfl
  obtain ⟨r5, zz5⟩ := at_block R1 5 _ rfl
  obtain ⟨r6, zz6⟩ := at_block R1 6 _ rfl
  obtain ⟨r7, zz7⟩ := at_block R1 7 _ rfl
  obtain ⟨r8, zz8⟩ := at_block R1 8 _ rfl
  obtain ⟨r9, zz9⟩ := at_block R1 9 _ rfl
  obtain ⟨r10, zz10⟩ := at_block R1 10 _ rfl
  clear R1
  go_wp2
  refine bodyPost_ret (v := zeroV) (by simp [zeroV, results, Try.results11, go_sem, r0, r1, r2, r3, r4, r5, r6, r7, r8, r9, r10]) rfl ?_
  refine ⟨rfl, ?_⟩
  repeat (refine below_set ?_ (by omega))
  exact B1

end Go.Proofs.Ytplgnohncdfgcam
