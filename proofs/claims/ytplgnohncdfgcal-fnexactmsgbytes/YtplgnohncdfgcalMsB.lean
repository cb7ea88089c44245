/- Messages: sized, copied, held against one another. -/
import Derived.Test.YtplgnohncdfgcalMsA
namespace Go.Proofs.Ytplgnohncdfgcal
open Go.RowKit

structure DMsg where
  kind : Int
  from_ : Int
  to : Int
  term : Int
  prev : Int
  prevTerm : Int
  items : List DItem
  commit : Int
  yes : Bool

/-- The value v reads as the message M. -/
def VMsg (w : World) (v : Value) (M : DMsg) : Prop := ∃ iv, v = .agg #[.int .i64 M.kind, .int .i64 M.from_, .int .i64 M.to, .int .i64 M.term, .int .i64 M.prev, .int .i64 M.prevTerm, iv, .int .i64 M.commit, .bool M.yes] ∧ VItems w iv M.items
theorem VMsg.ext {w w' : World} {v : Value} {M : DMsg} (h : VMsg w v M) (e : Ext w w') : VMsg w' v M := by
  obtain ⟨iv, hv, h1⟩ := h
  exact ⟨iv, hv, h1.ext e⟩
/-- How long its lists and texts may be. -/
def LenM (M : DMsg) (B : Nat) : Prop := M.items.length ≤ B ∧ ∀ (i : Nat) (s : DItem), M.items[i]? = some s → s.cmd.op.key.length ≤ B ∧ s.cmd.op.val.length ≤ B
theorem lenM_of {M : DMsg} {B : Nat} (h : M.items.length + sI M.items ≤ B) : LenM M B := by
  unfold sI at h
  refine ⟨by omega, fun i s hs => ?_⟩
  have := sum_mem zI M.items i s hs
  unfold zI at *
  omega
theorem LenM.mono {M : DMsg} {B B' : Nat} (h : LenM M B) (hb : B ≤ B') : LenM M B' := ⟨Nat.le_trans h.1 hb, fun i s hs => ⟨Nat.le_trans (h.2 i s hs).1 hb, Nat.le_trans (h.2 i s hs).2 hb⟩⟩
/-- A list of items that a call made, in the block g; its texts lie behind it. -/
def OI (w : World) (g : Nat) (ss : List DItem) : Prop := ∃ F, Blk w g 57 7 ss.length ss.length F ∧ ∀ i s, ss[i]? = some s → F i 0 = .int .i64 s.term ∧ F i 1 = .int .i64 s.cmd.client ∧ F i 2 = .int .i64 s.cmd.req ∧ F i 3 = .int .i64 s.cmd.op.kind ∧ Ow w (g + 1) (F i 4) s.cmd.op.key ∧ Ow w (g + 1) (F i 5) s.cmd.op.val ∧ F i 6 = .int .i64 s.cmd.op.n
theorem OI.set {w : World} {g x j : Nat} {u : Value} {ss : List DItem} (h : OI w g ss) (hx : x < g) : OI (w.setCell ⟨x, j, none⟩ u) g ss := by
  obtain ⟨F, hF, hO⟩ := h
  have hg := set_grown w x j u
  refine ⟨F, blk_kept hF (hg.block g (blk_lt hF) (by intro e; cases e; omega)), fun i s hs => ?_⟩
  obtain ⟨o0, o1, o2, o3, o4, o5, o6⟩ := hO i s hs
  exact ⟨o0, o1, o2, o3, ow_row o4 hg (by omega), ow_row o5 hg (by omega), o6⟩
theorem OI.v {w : World} {g : Nat} {ss : List DItem} (h : OI w g ss) (hm : ss.length ≤ 1048576) (hr : ∀ (i : Nat) (s : DItem), ss[i]? = some s → (∀ x ∈ s.cmd.op.key, 0 ≤ x ∧ x ≤ 255) ∧ (∀ x ∈ s.cmd.op.val, 0 ≤ x ∧ x ≤ 255)) : VItems w (.slice (some ⟨g, 0, none⟩) ss.length ss.length) ss := by
  obtain ⟨F, hF, hO⟩ := h
  refine ⟨F, blk_SL hF (by unfold maxLen; omega), fun i s hs => ?_⟩
  obtain ⟨o0, o1, o2, o3, o4, o5, o6⟩ := hO i s hs
  exact ⟨o0, o1, o2, o3, o4.rv (hr i s hs).1, o5.rv (hr i s hs).2, o6⟩
theorem k2_0 (w : World) (a b : Obj) : ((w.alloc a).alloc b).heap[w.heap.size]? = some a := by
  rw [Below.heap_alloc _ _ _ (by simp), heap_alloc_new]
theorem k2_1 (w : World) (a b : Obj) : ((w.alloc a).alloc b).heap[w.heap.size + 1]? = some b := by
  have := heap_alloc_new (w.alloc a) b
  simpa using this
theorem items_shape {w : World} {v : Value} {rs : List DItem} (h : VItems w v rs) : ∃ a cap, v = .slice a rs.length cap := by
  obtain ⟨C, ⟨a, cap, rfl, _⟩, _⟩ := h
  exact ⟨a, cap, rfl⟩

set_option maxHeartbeats 1000000 in
theorem szM (v : Value) (M : DMsg) (l : Int) (w : World) (h : VMsg w v M) (hl0 : 0 ≤ l) (hl : l ≤ 1048576) :
    Calls Try.prog 22 #[v, .int .i64 l] w (SzPost l (M.items.length + sI M.items) w) := by
  obtain ⟨iv, rfl, hi⟩ := h
  have hE : ∀ w : World, ∀ o, Ext w (w.alloc o) := fun w o => World.grownBy_alloc _ _ _
  have hB : ∀ w : World, ∀ o, Below w.heap.size w (w.alloc o) := fun w o => (Below.refl _ w).alloc (Nat.le_refl _) _
  go_enter Try.func22, Try.ntmps22
  go_wp2_with fail
  refine (szS_I _ M.items l _ (hi.ext (hE _ _)) hl0 hl).mono ?_
  rintro e w1 ⟨r, rfl, hr, b1⟩
  have B1 := (hB w _).trans (b1.mono (by simp))
  rcases hr with ⟨h1, rfl⟩ | ⟨h1, h2⟩
  · go_wp2
    go_ret
    exact ⟨-1, rfl, .inl ⟨h1, rfl⟩, B1⟩
  · have hr0 : 0 ≤ r := by omega
    have HH : Hid ((0 : Int) ≤ l - ((M.items.length + sI M.items : Nat) : Int) ∧ r = l - ((M.items.length + sI M.items : Nat) : Int)) := ⟨by omega, h2⟩
    clear h1 h2
    go_wp2
    go_ret
    exact ⟨r, rfl, .inr HH.out, B1⟩

set_option maxHeartbeats 2000000 in
theorem toM (v : Value) (M : DMsg) (w : World) (h : VMsg w v M) (hl : LenM M 1048576) :
    Calls Try.prog 24 #[v] w fun e w' => ∃ v', e = .returned v' ∧ VMsg w' v' M ∧ Below w.heap.size w w' := by
  obtain ⟨iv, rfl, hi⟩ := h
  have hE : ∀ w : World, ∀ o, Ext w (w.alloc o) := fun w o => World.grownBy_alloc _ _ _
  have hrng : Hid (∀ (i : Nat) (s : DItem), M.items[i]? = some s → (∀ x ∈ s.cmd.op.key, 0 ≤ x ∧ x ≤ 255) ∧ (∀ x ∈ s.cmd.op.val, 0 ≤ x ∧ x ≤ 255)) := by
    obtain ⟨C, _, hC⟩ := hi
    intro i s hs
    obtain ⟨_, _, _, _, r4, r5, _⟩ := hC i s hs
    exact ⟨rv_rng r4, rv_rng r5⟩
  go_enter Try.func24, Try.ntmps24
  go_wp2_with fail
  refine (toS_I _ M.items _ (hi.ext (((hE _ _).tr (hE _ _)).tr (hE _ _))) hl.1 hl.2).mono ?_
  rintro e w1 ⟨F, rfl, hF, hO, b1⟩
  have hs1 : w.heap.size + 3 ≤ w1.heap.size := by have := b1.size; simp at this; omega
  have P1 := below_blk b1 (by simp; omega) (h3_0 w _ _ _)
  have R1 := below_blk b1 (by simp) (h3_1 w _ _ _)
  have T1 := below_blk b1 (by simp) (h3_2 w _ _ _)
  have B1 : Below w.heap.size w w1 := ((((Below.refl _ w).alloc (Nat.le_refl _) _).alloc (by simp) _).alloc (by simp; omega) _).trans (b1.mono (by simp; omega))
  have HO1 : Hid (OI w1 (w.heap.size + 1 + 1 + 1) M.items) := by
    have e3 : (((w.alloc (.cells #[.int .i64 M.kind, .int .i64 M.from_, .int .i64 M.to, .int .i64 M.term, .int .i64 M.prev, .int .i64 M.prevTerm, iv, .int .i64 M.commit, .bool M.yes] 63 (0, 0))).alloc (.cells #[.int .i64 0, .int .i64 0, .int .i64 0, .int .i64 0, .int .i64 0, .int .i64 0, .slice none 0 0, .int .i64 0, .bool false] 68 (0, 0))).alloc (.cells #[.int .i64 M.kind, .int .i64 M.from_, .int .i64 M.to, .int .i64 M.term, .int .i64 M.prev, .int .i64 M.prevTerm, .slice none 0 0, .int .i64 0, .bool false] 68 (0, 0))).heap.size = w.heap.size + 1 + 1 + 1 := by simp
    rw [e3] at hF hO
    exact ⟨F, hF, hO⟩
  clear b1 hF hO
  obtain ⟨p7, y7⟩ := at_block P1 7 _ rfl
  obtain ⟨p8, y8⟩ := at_block P1 8 _ rfl
  obtain ⟨t0, g0⟩ := at_block T1 0 _ rfl
  obtain ⟨t1, g1⟩ := at_block T1 1 _ rfl
  obtain ⟨t2, g2⟩ := at_block T1 2 _ rfl
  obtain ⟨t3, g3⟩ := at_block T1 3 _ rfl
  obtain ⟨t4, g4⟩ := at_block T1 4 _ rfl
  obtain ⟨t5, g5⟩ := at_block T1 5 _ rfl
  obtain ⟨t6, g6⟩ := at_block T1 6 _ rfl
  obtain ⟨t7, g7⟩ := at_block T1 7 _ rfl
  obtain ⟨t8, g8⟩ := at_block T1 8 _ rfl
  obtain ⟨r0, z0⟩ := at_block R1 0 _ rfl
  obtain ⟨r1, z1⟩ := at_block R1 1 _ rfl
  obtain ⟨r2, z2⟩ := at_block R1 2 _ rfl
  obtain ⟨r3, z3⟩ := at_block R1 3 _ rfl
  obtain ⟨r4, z4⟩ := at_block R1 4 _ rfl
  obtain ⟨r5, z5⟩ := at_block R1 5 _ rfl
  obtain ⟨r6, z6⟩ := at_block R1 6 _ rfl
  obtain ⟨r7, z7⟩ := at_block R1 7 _ rfl
  obtain ⟨r8, z8⟩ := at_block R1 8 _ rfl
  clear T1 R1 P1
  go_wp2
  refine bodyPost_ret (v := .agg #[.int .i64 M.kind, .int .i64 M.from_, .int .i64 M.to, .int .i64 M.term, .int .i64 M.prev, .int .i64 M.prevTerm, .slice (some ⟨w.heap.size + 1 + 1 + 1, 0, none⟩) M.items.length M.items.length, .int .i64 M.commit, .bool M.yes]) (by simp [results, Try.results24, go_sem, r0, r1, r2, r3, r4, r5, r6, r7, r8]) rfl ?_
  refine ⟨_, rfl, ⟨_, rfl, OI.v ?_ hl.1 hrng.out⟩, ?_⟩
  · repeat (refine OI.set ?_ (by omega))
    exact HO1.out
  · repeat (refine below_set ?_ (by omega))
    exact B1

set_option maxHeartbeats 2000000 in
theorem eqM (v u : Value) (M : DMsg) (w : World) (h : VMsg w v M) (k : VMsg w u M) (hl : LenM M 2097152) (hn : M.items.length ≤ 1048576) :
    Calls Try.prog 26 #[v, u] w fun e w' => e = .returned (.bool true) ∧ Below w.heap.size w w' := by
  obtain ⟨iv, rfl, hi⟩ := h
  obtain ⟨jv, rfl, hj⟩ := k
  have hE : ∀ w : World, ∀ o, Ext w (w.alloc o) := fun w o => World.grownBy_alloc _ _ _
  have x2 : ∀ a b, Ext w ((w.alloc a).alloc b) := fun a b => (hE _ _).tr (hE _ _)
  have hB2 : ∀ a b, Below w.heap.size w ((w.alloc a).alloc b) := fun a b => ((Below.refl _ w).alloc (Nat.le_refl _) _).alloc (by simp) _
  go_enter Try.func26, Try.ntmps26
  go_wp2_with fail
  refine (eqS_I _ _ M.items _ (hi.ext (x2 _ _)) (hj.ext (x2 _ _)) hn hl.2).mono ?_
  rintro e w1 ⟨rfl, b1⟩
  have P1 := below_blk b1 (by simp; omega) (k2_0 w _ _)
  have R1 := below_blk b1 (by simp) (k2_1 w _ _)
  obtain ⟨p7, y7⟩ := at_block P1 7 _ rfl
  obtain ⟨p8, y8⟩ := at_block P1 8 _ rfl
  obtain ⟨r7, z7⟩ := at_block R1 7 _ rfl
  obtain ⟨r8, z8⟩ := at_block R1 8 _ rfl
  have B1 := (hB2 _ _).trans (b1.mono (by simp; omega))
  clear b1 P1 R1
  go_wp2
  go_ret
  exact ⟨rfl, B1⟩

end Go.Proofs.Ytplgnohncdfgcal
