/- Servers: what they read as, held against one another. -/
import Derived.Test.YtdcbajejgphlgaaMsA
import Derived.Test.YtdcbajejgphlgaaNdA0
namespace Go.Proofs.Ytdcbajejgphlgaa
open Go.RowKit

structure DNode where
  id : Int
  term : Int
  vote : Int
  log : List DItem
  commit : Int
  role : Int
  lead : Int
  wait : Int
  votes : List Bool
  next : List Int
  mat : List Int

/-- The value v reads as the server M. -/
def VNode (w : World) (v : Value) (M : DNode) : Prop := ∃ lv bv nv mv, v = .agg #[.int .i64 M.id, .int .i64 M.term, .int .i64 M.vote, lv, .int .i64 M.commit, .int .i64 M.role, .int .i64 M.lead, .int .i64 M.wait, bv, nv, mv] ∧ VItems w lv M.log ∧ VL fB w bv M.votes ∧ VL fI w nv M.next ∧ VL fI w mv M.mat
theorem VNode.ext {w w' : World} {v : Value} {M : DNode} (h : VNode w v M) (e : Ext w w') : VNode w' v M := by
  obtain ⟨lv, bv, nv, mv, hv, h1, h2, h3, h4⟩ := h
  exact ⟨lv, bv, nv, mv, hv, h1.ext e, h2.ext e, h3.ext e, h4.ext e⟩
def zN (M : DNode) : Nat := (M.log.length + sI M.log) + M.votes.length + M.next.length + M.mat.length
/-- How long its lists and texts may be. -/
def LenN (M : DNode) (B : Nat) : Prop := M.log.length ≤ B ∧ (∀ (i : Nat) (s : DItem), M.log[i]? = some s → s.cmd.op.key.length ≤ B ∧ s.cmd.op.val.length ≤ B) ∧ M.votes.length ≤ B ∧ M.next.length ≤ B ∧ M.mat.length ≤ B
theorem lenN_of {M : DNode} {B : Nat} (h : zN M ≤ B) : LenN M B := by
  unfold zN sI at h
  refine ⟨by omega, fun i s hs => ?_, by omega, by omega, by omega⟩
  have := sum_mem zI M.log i s hs
  unfold zI at *
  omega
theorem LenN.mono {M : DNode} {B B' : Nat} (h : LenN M B) (hb : B ≤ B') : LenN M B' := ⟨Nat.le_trans h.1 hb, fun i s hs => ⟨Nat.le_trans (h.2.1 i s hs).1 hb, Nat.le_trans (h.2.1 i s hs).2 hb⟩, Nat.le_trans h.2.2.1 hb, Nat.le_trans h.2.2.2.1 hb, Nat.le_trans h.2.2.2.2 hb⟩
/-- A list of items that a call made, in the block g; its texts lie behind it. -/
def OI (w : World) (g : Nat) (ss : List DItem) : Prop := ∃ F, Blk w g 74 7 ss.length ss.length F ∧ ∀ i s, ss[i]? = some s → F i 0 = .int .i64 s.term ∧ F i 1 = .int .i64 s.cmd.client ∧ F i 2 = .int .i64 s.cmd.req ∧ F i 3 = .int .i64 s.cmd.op.kind ∧ Ow w (g + 1) (F i 4) s.cmd.op.key ∧ Ow w (g + 1) (F i 5) s.cmd.op.val ∧ F i 6 = .int .i64 s.cmd.op.n
theorem OI.set {w : World} {g x j : Nat} {u : Value} {ss : List DItem} (h : OI w g ss) (hx : x < g) : OI (w.setCell ⟨x, j, none⟩ u) g ss := by
  obtain ⟨F, hF, hO⟩ := h
  have hg := set_grown w x j u
  refine ⟨F, blk_kept hF (hg.block g (blk_lt hF) (by intro e; cases e; omega)), fun i s hs => ?_⟩
  obtain ⟨o0, o1, o2, o3, o4, o5, o6⟩ := hO i s hs
  exact ⟨o0, o1, o2, o3, ow_row o4 hg (by omega), ow_row o5 hg (by omega), o6⟩
theorem OI.ext {w w' : World} {g : Nat} {ss : List DItem} (h : OI w g ss) (e : Ext w w') : OI w' g ss := by
  obtain ⟨F, hF, hO⟩ := h
  refine ⟨F, blk_kept hF (e.block g (blk_lt hF) (by simp)), fun i s hs => ?_⟩
  obtain ⟨o0, o1, o2, o3, o4, o5, o6⟩ := hO i s hs
  exact ⟨o0, o1, o2, o3, o4.ext e, o5.ext e, o6⟩
theorem OI.v {w : World} {g : Nat} {ss : List DItem} (h : OI w g ss) (hm : ss.length ≤ 1048576) (hr : ∀ (i : Nat) (s : DItem), ss[i]? = some s → (∀ x ∈ s.cmd.op.key, 0 ≤ x ∧ x ≤ 255) ∧ (∀ x ∈ s.cmd.op.val, 0 ≤ x ∧ x ≤ 255)) : VItems w (.slice (some ⟨g, 0, none⟩) ss.length ss.length) ss := by
  obtain ⟨F, hF, hO⟩ := h
  refine ⟨F, blk_SL hF (by unfold maxLen; omega), fun i s hs => ?_⟩
  obtain ⟨o0, o1, o2, o3, o4, o5, o6⟩ := hO i s hs
  exact ⟨o0, o1, o2, o3, o4.rv (hr i s hs).1, o5.rv (hr i s hs).2, o6⟩
theorem OVL.set {α : Type} {f : α → Value} {t : TypeId} {w : World} {g x j : Nat} {u : Value} {xs : List α} (h : OVL f t w g xs) (hx : x < g) : OVL f t (w.setCell ⟨x, j, none⟩ u) g xs := set_other x j u (by omega) h
theorem OVL.ext {α : Type} {f : α → Value} {t : TypeId} {w w' : World} {g : Nat} {xs : List α} (h : OVL f t w g xs) (e : Ext w w') : OVL f t w' g xs := (e.block g (Array.getElem?_eq_some_iff.1 h).1 (by simp)).trans h
theorem k2_0 (w : World) (a b : Obj) : ((w.alloc a).alloc b).heap[w.heap.size]? = some a := by
  rw [Below.heap_alloc _ _ _ (by simp), heap_alloc_new]
theorem k2_1 (w : World) (a b : Obj) : ((w.alloc a).alloc b).heap[w.heap.size + 1]? = some b := by
  have := heap_alloc_new (w.alloc a) b
  simpa using this
theorem items_shape {w : World} {v : Value} {rs : List DItem} (h : VItems w v rs) : ∃ a cap, v = .slice a rs.length cap := by
  obtain ⟨C, ⟨a, cap, rfl, _⟩, _⟩ := h
  exact ⟨a, cap, rfl⟩

set_option maxHeartbeats 2000000 in
theorem eqN (v u : Value) (M : DNode) (w : World) (h : VNode w v M) (k : VNode w u M) (hl : LenN M 1048576) :
    Calls Try.prog 9 #[v, u] w fun e w' => e = .returned (.bool true) ∧ Below w.heap.size w w' := by
  obtain ⟨lv, bv, nv, mv, rfl, hi, hb, hn, hm⟩ := h
  obtain ⟨lu, bu, nu, mu, rfl, ki, kb, kn, km⟩ := k
  have hE : ∀ w : World, ∀ o, Ext w (w.alloc o) := fun w o => World.grownBy_alloc _ _ _
  have x2 : ∀ a b, Ext w ((w.alloc a).alloc b) := fun a b => (hE _ _).tr (hE _ _)
  have hB2 : ∀ a b, Below w.heap.size w ((w.alloc a).alloc b) := fun a b => ((Below.refl _ w).alloc (Nat.le_refl _) _).alloc (by simp) _
  go_enter Try.func9, Try.ntmps9
  go_wp2_with fail
  refine (eqS_I _ _ M.log _ (hi.ext (x2 _ _)) (ki.ext (x2 _ _)) hl.1 (fun i s hs => ⟨by have := (hl.2.1 i s hs).1; omega, by have := (hl.2.1 i s hs).2; omega⟩)).mono ?_
  rintro e w1 ⟨rfl, b1⟩
  have P1 := below_blk b1 (by simp; omega) (k2_0 w _ _)
  have R1 := below_blk b1 (by simp) (k2_1 w _ _)
  have B1 := (hB2 _ _).trans (b1.mono (by simp; omega))
  clear b1
  obtain ⟨p4, y4⟩ := at_block P1 4 _ rfl
  obtain ⟨p5, y5⟩ := at_block P1 5 _ rfl
  obtain ⟨p6, y6⟩ := at_block P1 6 _ rfl
  obtain ⟨p7, y7⟩ := at_block P1 7 _ rfl
  obtain ⟨p8, y8⟩ := at_block P1 8 _ rfl
  obtain ⟨p9, y9⟩ := at_block P1 9 _ rfl
  obtain ⟨p10, y10⟩ := at_block P1 10 _ rfl
  obtain ⟨r4, z4⟩ := at_block R1 4 _ rfl
  obtain ⟨r5, z5⟩ := at_block R1 5 _ rfl
  obtain ⟨r6, z6⟩ := at_block R1 6 _ rfl
  obtain ⟨r7, z7⟩ := at_block R1 7 _ rfl
  obtain ⟨r8, z8⟩ := at_block R1 8 _ rfl
  obtain ⟨r9, z9⟩ := at_block R1 9 _ rfl
  obtain ⟨r10, z10⟩ := at_block R1 10 _ rfl
  go_wp2_with fail
  refine (eqL_B _ _ M.votes _ (hb.ext (ext_below B1)) (kb.ext (ext_below B1)) hl.2.2.1).mono ?_
  rintro e w2 ⟨rfl, q2, rfl⟩
  go_wp2_with fail
  refine (eqL_I _ _ M.next _ ((hn.ext (ext_below B1)).ext (ext_drewN _ _)) ((kn.ext (ext_below B1)).ext (ext_drewN _ _)) hl.2.2.2.1).mono ?_
  rintro e w3 ⟨rfl, q3, rfl⟩
  go_wp2_with fail
  refine (eqL_I _ _ M.mat _ ((hm.ext (ext_below B1)).ext (ext_drewN _ _)) ((km.ext (ext_below B1)).ext (ext_drewN _ _)) hl.2.2.2.2).mono ?_
  rintro e w4 ⟨rfl, q4, rfl⟩
  go_wp2
  go_ret
  exact ⟨rfl, below_drewN B1 _⟩

end Go.Proofs.Ytdcbajejgphlgaa
