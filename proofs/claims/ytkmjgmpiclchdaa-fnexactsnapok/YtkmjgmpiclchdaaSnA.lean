/- Snapshots: sized, copied, held against one another. -/
import Derived.Test.YtkmjgmpiclchdaaCdA
import Derived.Test.YtkmjgmpiclchdaaToSt
namespace Go.Proofs.Ytkmjgmpiclchdaa
open Go.RowKit

/-- A snapshot. -/
structure DSnap where
  base : DState
  rest : List DCmd

/-- The value v reads as the snapshot P (the state lies in its cells). -/
def VSnap (w : World) (v : Value) (P : DSnap) : Prop := ∃ rv tv sv lv cv, v = .agg #[.int .i64 P.base.index, rv, tv, .int .i64 P.base.lost, sv, lv, cv] ∧ VRows w rv P.base.rows ∧ VTombs w tv P.base.tombs ∧ VSess w sv P.base.sess ∧ VLasts w lv P.base.lasts ∧ VCmds w cv P.rest
theorem VSnap.ext {w w' : World} {v : Value} {P : DSnap} (h : VSnap w v P) (e : Ext w w') : VSnap w' v P := by
  obtain ⟨rv, tv, sv, lv, cv, hv, h1, h2, h3, h4, h5⟩ := h
  exact ⟨rv, tv, sv, lv, cv, hv, h1.ext e, h2.ext e, h3.ext e, h4.ext e, h5.ext e⟩
def rngC (rs : List DCmd) : Prop := ∀ (i : Nat) (s : DCmd), rs[i]? = some s → (∀ x ∈ s.op.key, 0 ≤ x ∧ x ≤ 255) ∧ (∀ x ∈ s.op.val, 0 ≤ x ∧ x ≤ 255)
theorem rngC_of {w : World} {v : Value} {rs : List DCmd} (h : VCmds w v rs) : rngC rs := by
  obtain ⟨C, _, hC⟩ := h
  intro i s hs
  obtain ⟨_, _, _, r3, r4, _⟩ := hC i s hs
  exact ⟨rv_rng r3, rv_rng r4⟩
/-- How long its lists and texts may be. -/
def LenSn (P : DSnap) (B : Nat) : Prop := LenSt P.base B ∧ P.rest.length ≤ B ∧ ∀ (i : Nat) (s : DCmd), P.rest[i]? = some s → s.op.key.length ≤ B ∧ s.op.val.length ≤ B
def zSn (P : DSnap) : Nat := zS P.base + (P.rest.length + sC P.rest)
theorem lenSn_of {P : DSnap} {B : Nat} (h : zSn P ≤ B) : LenSn P B := by
  unfold zSn sC at h
  refine ⟨lenSt_of (by omega), by omega, fun i s hs => ?_⟩
  have := sum_mem zC P.rest i s hs
  unfold zC at *
  omega
/-- A list of commands that a call made, in the block g; its texts lie behind it. -/
def OC (w : World) (g : Nat) (ss : List DCmd) : Prop := ∃ F, Blk w g 53 6 ss.length ss.length F ∧ ∀ i s, ss[i]? = some s → F i 0 = .int .i64 s.client ∧ F i 1 = .int .i64 s.req ∧ F i 2 = .int .i64 s.op.kind ∧ Ow w (g + 1) (F i 3) s.op.key ∧ Ow w (g + 1) (F i 4) s.op.val ∧ F i 5 = .int .i64 s.op.n
theorem OC.set {w : World} {g x j : Nat} {u : Value} {ss : List DCmd} (h : OC w g ss) (hx : x < g) : OC (w.setCell ⟨x, j, none⟩ u) g ss := by
  obtain ⟨F, hF, hO⟩ := h
  have hg := set_grown w x j u
  refine ⟨F, blk_kept hF (hg.block g (blk_lt hF) (by intro e; cases e; omega)), fun i s hs => ?_⟩
  obtain ⟨o0, o1, o2, o3, o4, o5⟩ := hO i s hs
  exact ⟨o0, o1, o2, ow_row o3 hg (by omega), ow_row o4 hg (by omega), o5⟩
theorem OC.ext {w w' : World} {g : Nat} {ss : List DCmd} (h : OC w g ss) (e : Ext w w') : OC w' g ss := by
  obtain ⟨F, hF, hO⟩ := h
  refine ⟨F, blk_kept hF (e.block g (blk_lt hF) (by simp)), fun i s hs => ?_⟩
  obtain ⟨o0, o1, o2, o3, o4, o5⟩ := hO i s hs
  exact ⟨o0, o1, o2, o3.ext e, o4.ext e, o5⟩
theorem OC.v {w : World} {g : Nat} {ss : List DCmd} (h : OC w g ss) (hm : ss.length ≤ 1048576) (hr : rngC ss) : VCmds w (.slice (some ⟨g, 0, none⟩) ss.length ss.length) ss := by
  obtain ⟨F, hF, hO⟩ := h
  refine ⟨F, blk_SL hF (by unfold maxLen; omega), fun i s hs => ?_⟩
  obtain ⟨o0, o1, o2, o3, o4, o5⟩ := hO i s hs
  exact ⟨o0, o1, o2, o3.rv (hr i s hs).1, o4.rv (hr i s hs).2, o5⟩
theorem OSt.set {w : World} {base gr gt gs gl x j : Nat} {u : Value} {S : DState} (h : OSt w base gr gt gs gl S) (hx : x < base) : OSt (w.setCell ⟨x, j, none⟩ u) base gr gt gs gl S :=
  ⟨⟨h.1.1, h.1.2.set (by have := h.1.1; omega)⟩, ⟨h.2.1.1, h.2.1.2.set (by have := h.2.1.1; omega)⟩, ⟨h.2.2.1.1, h.2.2.1.2.set (by have := h.2.2.1.1; omega)⟩, ⟨h.2.2.2.1, h.2.2.2.2.set (by have := h.2.2.2.1; omega)⟩⟩
theorem OSt.base {w : World} {b b' gr gt gs gl : Nat} {S : DState} (h : OSt w b gr gt gs gl S) (hb : b' ≤ b) : OSt w b' gr gt gs gl S :=
  ⟨⟨Nat.le_trans hb h.1.1, h.1.2⟩, ⟨Nat.le_trans hb h.2.1.1, h.2.1.2⟩, ⟨Nat.le_trans hb h.2.2.1.1, h.2.2.1.2⟩, ⟨Nat.le_trans hb h.2.2.2.1, h.2.2.2.2⟩⟩
/-- The value of a snapshot that a call made. -/
def snV (gr gt gs gl gc : Nat) (P : DSnap) : Value := .agg #[.int .i64 P.base.index, .slice (some ⟨gr, 0, none⟩) P.base.rows.length P.base.rows.length, .slice (some ⟨gt, 0, none⟩) P.base.tombs.length P.base.tombs.length, .int .i64 P.base.lost, .slice (some ⟨gs, 0, none⟩) P.base.sess.length P.base.sess.length, .slice (some ⟨gl, 0, none⟩) P.base.lasts.length P.base.lasts.length, .slice (some ⟨gc, 0, none⟩) P.rest.length P.rest.length]
def OSn (w : World) (base gr gt gs gl gc : Nat) (P : DSnap) : Prop := OSt w base gr gt gs gl P.base ∧ base ≤ gc ∧ OC w gc P.rest
theorem OSn.v {w : World} {base gr gt gs gl gc : Nat} {P : DSnap} (h : OSn w base gr gt gs gl gc P) (hl : LenSn P 1048576) (hr : rngSt P.base) (hc : rngC P.rest) : VSnap w (snV gr gt gs gl gc P) P :=
  ⟨_, _, _, _, _, rfl, h.1.1.2.v hl.1.rows hr.1, h.1.2.1.2.v hl.1.tombs hr.2, h.1.2.2.1.2.v hl.1.sess, h.1.2.2.2.2.v hl.1.lasts, h.2.2.v hl.2.1 hc⟩

theorem sn2_0 (w : World) (a b : Obj) : ((w.alloc a).alloc b).heap[w.heap.size]? = some a := by
  rw [Below.heap_alloc _ _ _ (by simp), heap_alloc_new]
theorem sn2_1 (w : World) (a b : Obj) : ((w.alloc a).alloc b).heap[w.heap.size + 1]? = some b := by
  have := heap_alloc_new (w.alloc a) b
  simpa using this
theorem cmds_shape {w : World} {v : Value} {rs : List DCmd} (h : VCmds w v rs) : ∃ a cap, v = .slice a rs.length cap := by
  obtain ⟨C, ⟨a, cap, rfl, _⟩, _⟩ := h
  exact ⟨a, cap, rfl⟩

set_option maxHeartbeats 1000000 in
theorem szSn (v : Value) (P : DSnap) (l : Int) (w : World) (h : VSnap w v P) (hl0 : 0 ≤ l) (hl : l ≤ 1048576) :
    Calls Try.prog 4 #[v, .int .i64 l] w (SzPost l (zSn P) w) := by
  obtain ⟨rv, tv, sv, lv, cv, rfl, hr, ht, hs, hll, hc⟩ := h
  have hE : ∀ w : World, ∀ o, Ext w (w.alloc o) := fun w o => World.grownBy_alloc _ _ _
  have hB : ∀ w : World, ∀ o, Below w.heap.size w (w.alloc o) := fun w o => (Below.refl _ w).alloc (Nat.le_refl _) _
  have HZ : Hid (zSn P = zS P.base + (P.rest.length + sC P.rest)) := rfl
  generalize zSn P = Z at HZ ⊢
  go_enter Try.func4, Try.ntmps4
  go_wp2_with fail
  have P0 := heap_alloc_new w (.cells #[.int .i64 P.base.index, rv, tv, .int .i64 P.base.lost, sv, lv, cv] 30 (0, 0))
  have B0 := hB w (.cells #[.int .i64 P.base.index, rv, tv, .int .i64 P.base.lost, sv, lv, cv] 30 (0, 0))
  have z0 : w.heap.size < (w.alloc (.cells #[.int .i64 P.base.index, rv, tv, .int .i64 P.base.lost, sv, lv, cv] 30 (0, 0))).heap.size := by simp
  generalize w.alloc (.cells #[.int .i64 P.base.index, rv, tv, .int .i64 P.base.lost, sv, lv, cv] 30 (0, 0)) = W0 at P0 B0 z0 ⊢
  have X0 := ext_below B0
  refine (szSt _ P.base l W0 ⟨rv, tv, sv, lv, rfl, hr.ext X0, ht.ext X0, hs.ext X0, hll.ext X0⟩ (by omega) (by omega)).mono ?_
  rintro e W1 ⟨l1, rfl, hr1, b1⟩
  have B1 := B0.trans (b1.mono B0.size)
  have P1 := below_blk b1 z0 P0
  obtain ⟨m0, hm0⟩ : ∃ m, m = (zS P.base : Int) := ⟨_, rfl⟩
  rw [← hm0] at hr1
  have HM0 : Hid (m0 = (zS P.base : Int) ∧ 0 ≤ m0) := ⟨hm0, by omega⟩
  clear hm0
  rcases hr1 with ⟨g1, rfl⟩ | ⟨g1, g2⟩
  · go_wp2
    go_ret
    refine ⟨-1, rfl, .inl ⟨?_, rfl⟩, B1⟩
    have := HZ.out
    have := HM0.out
    omega
  have y1 : 0 ≤ l1 ∧ l1 ≤ 1048576 := by
    have := HM0.out.2
    omega
  obtain ⟨v1, x1⟩ := y1
  have E1 : Hid (l1 = l - m0) := g2
  clear g1 g2 B0 P0 b1 z0
  obtain ⟨q0, _⟩ := at_block P1 6 _ rfl
  go_wp2_with fail
  clear q0
  refine (szS_C cv P.rest l1 W1 (hc.ext (ext_below B1)) (by omega) (by omega)).mono ?_
  rintro e W2 ⟨l2, rfl, hr2, b2⟩
  have B2 := B1.trans (b2.mono B1.size)
  rcases hr2 with ⟨g1, rfl⟩ | ⟨g1, g2⟩
  · go_wp2
    go_ret
    refine ⟨-1, rfl, .inl ⟨?_, rfl⟩, B2⟩
    have := HZ.out
    have := HM0.out
    have := E1.out
    omega
  · have hr0 : 0 ≤ l2 := by omega
    have HH : Hid ((0 : Int) ≤ l - (Z : Int) ∧ l2 = l - (Z : Int)) := by
      have := HZ.out
      have := HM0.out
      have := E1.out
      exact ⟨by omega, by omega⟩
    clear g1 g2
    go_wp2
    go_ret
    exact ⟨l2, rfl, .inr HH.out, B2⟩

set_option maxHeartbeats 2000000 in
theorem eqSn (v u : Value) (P : DSnap) (w : World) (h : VSnap w v P) (k : VSnap w u P) (hl : LenSn P 1048576) :
    Calls Try.prog 8 #[v, u] w fun e w' => e = .returned (.bool true) ∧ Below w.heap.size w w' := by
  have hE : ∀ w : World, ∀ o, Ext w (w.alloc o) := fun w o => World.grownBy_alloc _ _ _
  have x2 : ∀ a b, Ext w ((w.alloc a).alloc b) := fun a b => (hE _ _).tr (hE _ _)
  have B0 : ∀ a b, Below w.heap.size w ((w.alloc a).alloc b) := fun a b => ((Below.refl _ w).alloc (Nat.le_refl _) _).alloc (by simp) _
  obtain ⟨rv, tv, sv, lv, cv, rfl, hr, ht, hs, hll, hc⟩ := h
  obtain ⟨rv', tv', sv', lv', cv', rfl, hr', ht', hs', hll', hc'⟩ := k
  go_enter Try.func8, Try.ntmps8
  go_wp2_with fail
  refine (eqSt _ _ P.base _ ⟨rv, tv, sv, lv, rfl, hr.ext (x2 _ _), ht.ext (x2 _ _), hs.ext (x2 _ _), hll.ext (x2 _ _)⟩ ⟨rv', tv', sv', lv', rfl, hr'.ext (x2 _ _), ht'.ext (x2 _ _), hs'.ext (x2 _ _), hll'.ext (x2 _ _)⟩ hl.1).mono ?_
  rintro e w1 ⟨rfl, b1⟩
  have PA := below_blk b1 (by simp; omega) (sn2_0 w _ _)
  have QA := below_blk b1 (by simp) (sn2_1 w _ _)
  have B1 := (B0 _ _).trans (b1.mono (by simp; omega))
  clear b1
  have p6 := (at_block PA 6 _ rfl).1
  have q6 := (at_block QA 6 _ rfl).1
  go_wp2_with fail
  refine (eqS_C cv cv' P.rest _ (hc.ext (ext_below B1)) (hc'.ext (ext_below B1)) hl.2.1 (fun i s hs => ⟨Nat.le_trans (hl.2.2 i s hs).1 (by omega), Nat.le_trans (hl.2.2 i s hs).2 (by omega)⟩)).mono ?_
  rintro e w2 ⟨rfl, b2⟩
  go_wp2
  go_ret
  exact ⟨rfl, B1.trans (b2.mono B1.size)⟩

end Go.Proofs.Ytkmjgmpiclchdaa
