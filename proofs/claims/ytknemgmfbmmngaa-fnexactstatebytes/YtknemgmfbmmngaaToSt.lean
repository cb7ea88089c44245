/- The exact statements' helpers that copy states and hold them against one another. -/
import Derived.Test.YtknemgmfbmmngaaToS
import Derived.Test.YtknemgmfbmmngaaToL
import Derived.Test.YtknemgmfbmmngaaToR
import Derived.Test.YtknemgmfbmmngaaToT
import Derived.Test.YtknemgmfbmmngaaEqS
import Derived.Test.YtknemgmfbmmngaaEqL
import Derived.Test.YtknemgmfbmmngaaEqR
import Derived.Test.YtknemgmfbmmngaaEqT
import Derived.Test.YtknemgmfbmmngaaSz
namespace Go.Proofs.Ytknemgmfbmmngaa
open Go.RowKit

/-- The bytes of a state's texts are bytes. -/
def rngSt (S : DState) : Prop := (∀ (i : Nat) (r : DRow), S.rows[i]? = some r → (∀ x ∈ r.key, 0 ≤ x ∧ x ≤ 255) ∧ (∀ x ∈ r.val, 0 ≤ x ∧ x ≤ 255)) ∧ (∀ (i : Nat) (r : DTomb), S.tombs[i]? = some r → ∀ x ∈ r.key, 0 ≤ x ∧ x ≤ 255)
theorem rngSt_of {w : World} {v : Value} {S : DState} (h : VState w v S) : rngSt S := by
  obtain ⟨rv, tv, sv, lv, _, ⟨C, _, hC⟩, ⟨D, _, hD⟩, _, _⟩ := h
  exact ⟨fun i r hr => ⟨rv_rng (hC i r hr).1, rv_rng (hC i r hr).2.1⟩, fun i r hr => rv_rng (hD i r hr).1⟩

/-- Lengths within a size. -/
structure LenSt (S : DState) (B : Nat) : Prop where
  rows : S.rows.length ≤ B
  tombs : S.tombs.length ≤ B
  sess : S.sess.length ≤ B
  lasts : S.lasts.length ≤ B
  row : ∀ (i : Nat) (r : DRow), S.rows[i]? = some r → r.key.length ≤ B ∧ r.val.length ≤ B
  tomb : ∀ (i : Nat) (r : DTomb), S.tombs[i]? = some r → r.key.length ≤ B
theorem lenSt_of {S : DState} {B : Nat} (h : zS S ≤ B) : LenSt S B := by
  unfold zS sR sT at h
  refine ⟨by omega, by omega, by omega, by omega, fun i r hr => ?_, fun i r hr => ?_⟩
  · have := sum_mem zR S.rows i r hr
    unfold zR at *
    omega
  · have := sum_mem zT S.tombs i r hr
    unfold zT at *
    omega
theorem LenSt.mono {S : DState} {B B' : Nat} (h : LenSt S B) (hb : B ≤ B') : LenSt S B' :=
  ⟨Nat.le_trans h.rows hb, Nat.le_trans h.tombs hb, Nat.le_trans h.sess hb, Nat.le_trans h.lasts hb, fun i r hr => ⟨Nat.le_trans (h.row i r hr).1 hb, Nat.le_trans (h.row i r hr).2 hb⟩, fun i r hr => Nat.le_trans (h.tomb i r hr) hb⟩

/-- The block g holds the elements of a list that the call made; their texts lie behind it. -/
def OR (w : World) (g : Nat) (ss : List DRow) : Prop := ∃ F, Blk w g 57 4 ss.length ss.length F ∧ ∀ i s, ss[i]? = some s → Ow w (g + 1) (F i 0) s.key ∧ Ow w (g + 1) (F i 1) s.val ∧ F i 2 = .int .i64 s.turned ∧ F i 3 = .int .i64 s.holder
theorem OR.grown {w w' : World} {g : Nat} {row : Option Nat} {ss : List DRow} (h : OR w g ss) (hg : w.grownBy w' row) (hx : ∀ x, row = some x → x < g) : OR w' g ss := by
  obtain ⟨F, hB, hF⟩ := h
  have KO : ∀ {v : Value} (xs : List Int), Ow w (g + 1) v xs → v.ownBlock = none ∨ v.ownBlock ≠ row := fun {v} xs o => by
    cases hv : v.ownBlock with
    | none => exact .inl rfl
    | some b =>
      right
      intro e
      have := (o.lt b hv).1
      have := hx b e.symm
      omega
  refine ⟨F, blk_kept hB (hg.block g (blk_lt hB) (fun e => ?_)), fun i s hi => ⟨(hF i s hi).1.kept hg (KO _ (hF i s hi).1), (hF i s hi).2.1.kept hg (KO _ (hF i s hi).2.1), (hF i s hi).2.2⟩⟩
  have := hx g e.symm
  omega
theorem OR.set {w : World} {g x j : Nat} {u : Value} {ss : List DRow} (h : OR w g ss) (hx : x < g) : OR (w.setCell ⟨x, j, none⟩ u) g ss := h.grown (set_grown w x j u) (fun y hy => by cases hy; exact hx)
theorem OR.ext {w w' : World} {g : Nat} {ss : List DRow} (h : OR w g ss) (e : Ext w w') : OR w' g ss := h.grown e (fun y hy => by cases hy)
/-- The block g holds the elements of a list that the call made; their texts lie behind it. -/
def OT (w : World) (g : Nat) (ss : List DTomb) : Prop := ∃ F, Blk w g 61 2 ss.length ss.length F ∧ ∀ i s, ss[i]? = some s → Ow w (g + 1) (F i 0) s.key ∧ F i 1 = .int .i64 s.index
theorem OT.grown {w w' : World} {g : Nat} {row : Option Nat} {ss : List DTomb} (h : OT w g ss) (hg : w.grownBy w' row) (hx : ∀ x, row = some x → x < g) : OT w' g ss := by
  obtain ⟨F, hB, hF⟩ := h
  have KO : ∀ {v : Value} (xs : List Int), Ow w (g + 1) v xs → v.ownBlock = none ∨ v.ownBlock ≠ row := fun {v} xs o => by
    cases hv : v.ownBlock with
    | none => exact .inl rfl
    | some b =>
      right
      intro e
      have := (o.lt b hv).1
      have := hx b e.symm
      omega
  refine ⟨F, blk_kept hB (hg.block g (blk_lt hB) (fun e => ?_)), fun i s hi => ⟨(hF i s hi).1.kept hg (KO _ (hF i s hi).1), (hF i s hi).2⟩⟩
  have := hx g e.symm
  omega
theorem OT.set {w : World} {g x j : Nat} {u : Value} {ss : List DTomb} (h : OT w g ss) (hx : x < g) : OT (w.setCell ⟨x, j, none⟩ u) g ss := h.grown (set_grown w x j u) (fun y hy => by cases hy; exact hx)
theorem OT.ext {w w' : World} {g : Nat} {ss : List DTomb} (h : OT w g ss) (e : Ext w w') : OT w' g ss := h.grown e (fun y hy => by cases hy)
/-- The block g holds the elements of a list that the call made; their texts lie behind it. -/
def OS (w : World) (g : Nat) (ss : List DSess) : Prop := ∃ F, Blk w g 65 2 ss.length ss.length F ∧ ∀ i s, ss[i]? = some s → F i 0 = .int .i64 s.id ∧ F i 1 = .bool s.del
theorem OS.grown {w w' : World} {g : Nat} {row : Option Nat} {ss : List DSess} (h : OS w g ss) (hg : w.grownBy w' row) (hx : ∀ x, row = some x → x < g) : OS w' g ss := by
  obtain ⟨F, hB, hF⟩ := h
  refine ⟨F, blk_kept hB (hg.block g (blk_lt hB) (fun e => ?_)), fun i s hi => hF i s hi⟩
  have := hx g e.symm
  omega
theorem OS.set {w : World} {g x j : Nat} {u : Value} {ss : List DSess} (h : OS w g ss) (hx : x < g) : OS (w.setCell ⟨x, j, none⟩ u) g ss := h.grown (set_grown w x j u) (fun y hy => by cases hy; exact hx)
theorem OS.ext {w w' : World} {g : Nat} {ss : List DSess} (h : OS w g ss) (e : Ext w w') : OS w' g ss := h.grown e (fun y hy => by cases hy)
/-- The block g holds the elements of a list that the call made; their texts lie behind it. -/
def OL (w : World) (g : Nat) (ss : List DLast) : Prop := ∃ F, Blk w g 71 4 ss.length ss.length F ∧ ∀ i s, ss[i]? = some s → F i 0 = .int .i64 s.client ∧ F i 1 = .int .i64 s.req ∧ F i 2 = .int .i64 s.code ∧ F i 3 = .int .i64 s.index
theorem OL.grown {w w' : World} {g : Nat} {row : Option Nat} {ss : List DLast} (h : OL w g ss) (hg : w.grownBy w' row) (hx : ∀ x, row = some x → x < g) : OL w' g ss := by
  obtain ⟨F, hB, hF⟩ := h
  refine ⟨F, blk_kept hB (hg.block g (blk_lt hB) (fun e => ?_)), fun i s hi => hF i s hi⟩
  have := hx g e.symm
  omega
theorem OL.set {w : World} {g x j : Nat} {u : Value} {ss : List DLast} (h : OL w g ss) (hx : x < g) : OL (w.setCell ⟨x, j, none⟩ u) g ss := h.grown (set_grown w x j u) (fun y hy => by cases hy; exact hx)
theorem OL.ext {w w' : World} {g : Nat} {ss : List DLast} (h : OL w g ss) (e : Ext w w') : OL w' g ss := h.grown e (fun y hy => by cases hy)
theorem OR.v {w : World} {g : Nat} {ss : List DRow} (h : OR w g ss) (hm : ss.length ≤ 1048576) (hr : ∀ (i : Nat) (r : DRow), ss[i]? = some r → (∀ x ∈ r.key, 0 ≤ x ∧ x ≤ 255) ∧ (∀ x ∈ r.val, 0 ≤ x ∧ x ≤ 255)) : VRows w (.slice (some ⟨g, 0, none⟩) ss.length ss.length) ss := by
  obtain ⟨F, hB, hF⟩ := h
  exact ⟨F, blk_SL hB (by unfold maxLen; omega), fun i r hi => ⟨(hF i r hi).1.rv (hr i r hi).1, (hF i r hi).2.1.rv (hr i r hi).2, (hF i r hi).2.2⟩⟩
theorem OT.v {w : World} {g : Nat} {ss : List DTomb} (h : OT w g ss) (hm : ss.length ≤ 1048576) (hr : ∀ (i : Nat) (r : DTomb), ss[i]? = some r → (∀ x ∈ r.key, 0 ≤ x ∧ x ≤ 255)) : VTombs w (.slice (some ⟨g, 0, none⟩) ss.length ss.length) ss := by
  obtain ⟨F, hB, hF⟩ := h
  exact ⟨F, blk_SL hB (by unfold maxLen; omega), fun i r hi => ⟨(hF i r hi).1.rv (hr i r hi), (hF i r hi).2⟩⟩
theorem OS.v {w : World} {g : Nat} {ss : List DSess} (h : OS w g ss) (hm : ss.length ≤ 1048576) : VSess w (.slice (some ⟨g, 0, none⟩) ss.length ss.length) ss := by
  obtain ⟨F, hB, hF⟩ := h
  exact ⟨F, blk_SL hB (by unfold maxLen; omega), hF⟩
theorem OL.v {w : World} {g : Nat} {ss : List DLast} (h : OL w g ss) (hm : ss.length ≤ 1048576) : VLasts w (.slice (some ⟨g, 0, none⟩) ss.length ss.length) ss := by
  obtain ⟨F, hB, hF⟩ := h
  exact ⟨F, blk_SL hB (by unfold maxLen; omega), hF⟩

/-- A state that the call made, in memory from block base on. -/
def OSt (w : World) (base gr gt gs gl : Nat) (S : DState) : Prop := (base ≤ gr ∧ OR w gr S.rows) ∧ (base ≤ gt ∧ OT w gt S.tombs) ∧ (base ≤ gs ∧ OS w gs S.sess) ∧ (base ≤ gl ∧ OL w gl S.lasts)
/-- The value of such a state. -/
def stV (gr gt gs gl : Nat) (S : DState) : Value := .agg #[.int .i64 S.index, .slice (some ⟨gr, 0, none⟩) S.rows.length S.rows.length, .slice (some ⟨gt, 0, none⟩) S.tombs.length S.tombs.length, .int .i64 S.lost, .slice (some ⟨gs, 0, none⟩) S.sess.length S.sess.length, .slice (some ⟨gl, 0, none⟩) S.lasts.length S.lasts.length]
theorem OSt.v {w : World} {base gr gt gs gl : Nat} {S : DState} (h : OSt w base gr gt gs gl S) (hl : LenSt S 1048576) (hr : rngSt S) : VState w (stV gr gt gs gl S) S :=
  ⟨_, _, _, _, rfl, h.1.2.v hl.rows hr.1, h.2.1.2.v hl.tombs hr.2, h.2.2.1.2.v hl.sess, h.2.2.2.2.v hl.lasts⟩
theorem OSt.ext {w w' : World} {base gr gt gs gl : Nat} {S : DState} (h : OSt w base gr gt gs gl S) (e : Ext w w') : OSt w' base gr gt gs gl S :=
  ⟨⟨h.1.1, h.1.2.ext e⟩, ⟨h.2.1.1, h.2.1.2.ext e⟩, ⟨h.2.2.1.1, h.2.2.1.2.ext e⟩, ⟨h.2.2.2.1, h.2.2.2.2.ext e⟩⟩

set_option maxHeartbeats 4000000 in
theorem toSt (v : Value) (S : DState) (w : World) (h : VState w v S) (hl : LenSt S 1048576) :
    Calls Try.prog 6 #[v] w fun e w' => ∃ gr gt gs gl, e = .returned (stV gr gt gs gl S) ∧ OSt w' w.heap.size gr gt gs gl S ∧ Below w.heap.size w w' := by
  have hE : ∀ w : World, ∀ o, Ext w (w.alloc o) := fun w o => World.grownBy_alloc _ _ _
  have x3 : ∀ a b c, Ext w (((w.alloc a).alloc b).alloc c) := fun a b c => ((hE _ _).tr (hE _ _)).tr (hE _ _)
  obtain ⟨rv, tv, sv, lv, rfl, hr, ht, hs, hll⟩ := h
  go_enter Try.func6, Try.ntmps6
  go_wp2_with fail
  have B0 : ∀ a b c, Below w.heap.size w (((w.alloc a).alloc b).alloc c) := fun a b c => (((Below.refl _ w).alloc (Nat.le_refl _) _).alloc (by simp) _).alloc (by simp; omega) _
  refine (toS_R rv S.rows _ (hr.ext (x3 _ _ _)) hl.rows hl.row).mono ?_
  rintro e w1 ⟨F1, rfl, k1, f1, b1⟩
  have hs1 : w.heap.size + 3 ≤ w1.heap.size := by have := b1.size; simp at this; omega
  have PA := below_blk b1 (by simp; omega) (h3_0 w _ _ _)
  have RA := below_blk b1 (by simp) (h3_1 w _ _ _)
  have TA := below_blk b1 (by simp) (h3_2 w _ _ _)
  have BA := (B0 _ _ _).trans (b1.mono (by simp; omega))
  have oR : OR w1 (w.heap.size + 1 + 1 + 1) S.rows := ⟨F1, by simpa using k1, by simpa using f1⟩
  have e1 : (((w.alloc (.cells #[.int .i64 S.index, rv, tv, .int .i64 S.lost, sv, lv] 27 (0, 0))).alloc (.cells #[.int .i64 0, .slice none 0 0, .slice none 0 0, .int .i64 0, .slice none 0 0, .slice none 0 0] 37 (0, 0))).alloc (.cells #[.int .i64 S.index, .slice none 0 0, .slice none 0 0, .int .i64 0, .slice none 0 0, .slice none 0 0] 37 (0, 0))).heap.size = w.heap.size + 1 + 1 + 1 := by simp
  rw [e1]
  clear k1 f1 b1 e1
  obtain ⟨q0, h0⟩ := at_block TA 1 _ rfl
  have pp := (at_block PA 2 _ rfl).1
  go_wp2_with fail
  have TB0 : (w1.setCell ⟨w.heap.size + 1 + 1, 1, none⟩ (.slice (some ⟨w.heap.size + 1 + 1 + 1, 0, none⟩) S.rows.length S.rows.length)).heap[w.heap.size + 1 + 1]? = some (.cells #[.int .i64 S.index, .slice (some ⟨w.heap.size + 1 + 1 + 1, 0, none⟩) S.rows.length S.rows.length, .slice none 0 0, .int .i64 0, .slice none 0 0, .slice none 0 0] 37 (0, 0)) := (set_block TA 1 (.slice (some ⟨w.heap.size + 1 + 1 + 1, 0, none⟩) S.rows.length S.rows.length))
  have PB0 := (set_other (w.heap.size + 1 + 1) 1 (.slice (some ⟨w.heap.size + 1 + 1 + 1, 0, none⟩) S.rows.length S.rows.length) (by omega) PA)
  have RB0 := (set_other (w.heap.size + 1 + 1) 1 (.slice (some ⟨w.heap.size + 1 + 1 + 1, 0, none⟩) S.rows.length S.rows.length) (by omega) RA)
  have BB0 : Below w.heap.size w (w1.setCell ⟨w.heap.size + 1 + 1, 1, none⟩ (.slice (some ⟨w.heap.size + 1 + 1 + 1, 0, none⟩) S.rows.length S.rows.length)) := (BA.setCell (by simp; omega) _)
  have zB : w.heap.size + 3 ≤ (w1.setCell ⟨w.heap.size + 1 + 1, 1, none⟩ (.slice (some ⟨w.heap.size + 1 + 1 + 1, 0, none⟩) S.rows.length S.rows.length)).heap.size := by simp; omega
  have oRB := (oR.set (x := w.heap.size + 1 + 1) (j := 1) (u := .slice (some ⟨w.heap.size + 1 + 1 + 1, 0, none⟩) S.rows.length S.rows.length) (by omega))
  generalize (w1.setCell ⟨w.heap.size + 1 + 1, 1, none⟩ (.slice (some ⟨w.heap.size + 1 + 1 + 1, 0, none⟩) S.rows.length S.rows.length)) = WB at TB0 PB0 RB0 BB0 zB oRB ⊢
  clear oR q0 h0 pp PA RA TA BA
  refine (toS_T tv S.tombs WB (ht.ext (ext_below BB0)) hl.tombs hl.tomb).mono ?_
  rintro e w2 ⟨FB, rfl, kB, fB, bB⟩
  have PB := below_blk bB (by omega) PB0
  have RB := below_blk bB (by omega) RB0
  have TB := below_blk bB (by omega) TB0
  have BB := BB0.trans (bB.mono BB0.size)
  have oT : OT w2 WB.heap.size S.tombs := ⟨FB, kB, fB⟩
  have yB := bB.size
  generalize WB.heap.size = gB at zB yB oT ⊢
  have oR := oRB.ext (ext_below bB)
  clear kB fB bB TB0 PB0 RB0 BB0 oRB
  obtain ⟨q0, h0⟩ := at_block TB 2 _ rfl
  have pp := (at_block PB 4 _ rfl).1
  have p3 := (at_block PB 3 _ rfl).1
  obtain ⟨q3, h3⟩ := at_block TB 3 _ rfl
  go_wp2_with fail
  have TC0 : ((w2.setCell ⟨w.heap.size + 1 + 1, 2, none⟩ (.slice (some ⟨gB, 0, none⟩) S.tombs.length S.tombs.length)).setCell ⟨w.heap.size + 1 + 1, 3, none⟩ (.int .i64 S.lost)).heap[w.heap.size + 1 + 1]? = some (.cells #[.int .i64 S.index, .slice (some ⟨w.heap.size + 1 + 1 + 1, 0, none⟩) S.rows.length S.rows.length, .slice (some ⟨gB, 0, none⟩) S.tombs.length S.tombs.length, .int .i64 S.lost, .slice none 0 0, .slice none 0 0] 37 (0, 0)) := (set_block (set_block TB 2 (.slice (some ⟨gB, 0, none⟩) S.tombs.length S.tombs.length)) 3 (.int .i64 S.lost))
  have PC0 := (set_other (w.heap.size + 1 + 1) 3 (.int .i64 S.lost) (by omega) (set_other (w.heap.size + 1 + 1) 2 (.slice (some ⟨gB, 0, none⟩) S.tombs.length S.tombs.length) (by omega) PB))
  have RC0 := (set_other (w.heap.size + 1 + 1) 3 (.int .i64 S.lost) (by omega) (set_other (w.heap.size + 1 + 1) 2 (.slice (some ⟨gB, 0, none⟩) S.tombs.length S.tombs.length) (by omega) RB))
  have BC0 : Below w.heap.size w ((w2.setCell ⟨w.heap.size + 1 + 1, 2, none⟩ (.slice (some ⟨gB, 0, none⟩) S.tombs.length S.tombs.length)).setCell ⟨w.heap.size + 1 + 1, 3, none⟩ (.int .i64 S.lost)) := ((BB.setCell (by simp; omega) _).setCell (by simp; omega) _)
  have zC : w.heap.size + 3 ≤ ((w2.setCell ⟨w.heap.size + 1 + 1, 2, none⟩ (.slice (some ⟨gB, 0, none⟩) S.tombs.length S.tombs.length)).setCell ⟨w.heap.size + 1 + 1, 3, none⟩ (.int .i64 S.lost)).heap.size := by simp; omega
  have oRC := ((oR.set (x := w.heap.size + 1 + 1) (j := 2) (u := .slice (some ⟨gB, 0, none⟩) S.tombs.length S.tombs.length) (by omega)).set (x := w.heap.size + 1 + 1) (j := 3) (u := .int .i64 S.lost) (by omega))
  have oTC := ((oT.set (x := w.heap.size + 1 + 1) (j := 2) (u := .slice (some ⟨gB, 0, none⟩) S.tombs.length S.tombs.length) (by omega)).set (x := w.heap.size + 1 + 1) (j := 3) (u := .int .i64 S.lost) (by omega))
  generalize ((w2.setCell ⟨w.heap.size + 1 + 1, 2, none⟩ (.slice (some ⟨gB, 0, none⟩) S.tombs.length S.tombs.length)).setCell ⟨w.heap.size + 1 + 1, 3, none⟩ (.int .i64 S.lost)) = WC at TC0 PC0 RC0 BC0 zC oRC oTC ⊢
  clear oR oT q0 h0 pp PB RB TB BB p3 q3 h3
  refine (toS_S sv S.sess WC (hs.ext (ext_below BC0)) hl.sess).mono ?_
  rintro e w3 ⟨FC, rfl, kC, fC, bC⟩
  have PC := below_blk bC (by omega) PC0
  have RC := below_blk bC (by omega) RC0
  have TC := below_blk bC (by omega) TC0
  have BC := BC0.trans (bC.mono BC0.size)
  have oS : OS w3 WC.heap.size S.sess := ⟨FC, kC, fC⟩
  have yC := bC.size
  generalize WC.heap.size = gC at zC yC oS ⊢
  have oR := oRC.ext (ext_below bC)
  have oT := oTC.ext (ext_below bC)
  clear kC fC bC TC0 PC0 RC0 BC0 oRC oTC
  obtain ⟨q0, h0⟩ := at_block TC 4 _ rfl
  have pp := (at_block PC 5 _ rfl).1
  go_wp2_with fail
  have TD0 : (w3.setCell ⟨w.heap.size + 1 + 1, 4, none⟩ (.slice (some ⟨gC, 0, none⟩) S.sess.length S.sess.length)).heap[w.heap.size + 1 + 1]? = some (.cells #[.int .i64 S.index, .slice (some ⟨w.heap.size + 1 + 1 + 1, 0, none⟩) S.rows.length S.rows.length, .slice (some ⟨gB, 0, none⟩) S.tombs.length S.tombs.length, .int .i64 S.lost, .slice (some ⟨gC, 0, none⟩) S.sess.length S.sess.length, .slice none 0 0] 37 (0, 0)) := (set_block TC 4 (.slice (some ⟨gC, 0, none⟩) S.sess.length S.sess.length))
  have PD0 := (set_other (w.heap.size + 1 + 1) 4 (.slice (some ⟨gC, 0, none⟩) S.sess.length S.sess.length) (by omega) PC)
  have RD0 := (set_other (w.heap.size + 1 + 1) 4 (.slice (some ⟨gC, 0, none⟩) S.sess.length S.sess.length) (by omega) RC)
  have BD0 : Below w.heap.size w (w3.setCell ⟨w.heap.size + 1 + 1, 4, none⟩ (.slice (some ⟨gC, 0, none⟩) S.sess.length S.sess.length)) := (BC.setCell (by simp; omega) _)
  have zD : w.heap.size + 3 ≤ (w3.setCell ⟨w.heap.size + 1 + 1, 4, none⟩ (.slice (some ⟨gC, 0, none⟩) S.sess.length S.sess.length)).heap.size := by simp; omega
  have oRD := (oR.set (x := w.heap.size + 1 + 1) (j := 4) (u := .slice (some ⟨gC, 0, none⟩) S.sess.length S.sess.length) (by omega))
  have oTD := (oT.set (x := w.heap.size + 1 + 1) (j := 4) (u := .slice (some ⟨gC, 0, none⟩) S.sess.length S.sess.length) (by omega))
  have oSD := (oS.set (x := w.heap.size + 1 + 1) (j := 4) (u := .slice (some ⟨gC, 0, none⟩) S.sess.length S.sess.length) (by omega))
  generalize (w3.setCell ⟨w.heap.size + 1 + 1, 4, none⟩ (.slice (some ⟨gC, 0, none⟩) S.sess.length S.sess.length)) = WD at TD0 PD0 RD0 BD0 zD oRD oTD oSD ⊢
  clear oR oT oS q0 h0 pp PC RC TC BC
  refine (toS_L lv S.lasts WD (hll.ext (ext_below BD0)) hl.lasts).mono ?_
  rintro e w4 ⟨FD, rfl, kD, fD, bD⟩
  have PD := below_blk bD (by omega) PD0
  have RD := below_blk bD (by omega) RD0
  have TD := below_blk bD (by omega) TD0
  have BD := BD0.trans (bD.mono BD0.size)
  have oL : OL w4 WD.heap.size S.lasts := ⟨FD, kD, fD⟩
  have yD := bD.size
  generalize WD.heap.size = gD at zD yD oL ⊢
  have oR := oRD.ext (ext_below bD)
  have oT := oTD.ext (ext_below bD)
  have oS := oSD.ext (ext_below bD)
  clear kD fD bD TD0 PD0 RD0 BD0 oRD oTD oSD
  obtain ⟨q0, h0⟩ := at_block TD 0 _ rfl
  obtain ⟨q1, h1⟩ := at_block TD 1 _ rfl
  obtain ⟨q2, h2⟩ := at_block TD 2 _ rfl
  obtain ⟨q3, h3⟩ := at_block TD 3 _ rfl
  obtain ⟨q4, h4⟩ := at_block TD 4 _ rfl
  obtain ⟨q5, h5⟩ := at_block TD 5 _ rfl
  obtain ⟨r0, y0⟩ := at_block RD 0 _ rfl
  obtain ⟨r1, y1⟩ := at_block RD 1 _ rfl
  obtain ⟨r2, y2⟩ := at_block RD 2 _ rfl
  obtain ⟨r3, y3⟩ := at_block RD 3 _ rfl
  obtain ⟨r4, y4⟩ := at_block RD 4 _ rfl
  obtain ⟨r5, y5⟩ := at_block RD 5 _ rfl
  go_wp2
  refine bodyPost_ret (v := stV (w.heap.size + 1 + 1 + 1) gB gC gD S) (by simp [stV, results, Try.results6, go_sem, r0, r1, r2, r3, r4, r5]) rfl ?_
  refine ⟨_, _, _, _, rfl, ⟨⟨by omega, ?_⟩, ⟨by omega, ?_⟩, ⟨by omega, ?_⟩, ⟨by omega, ?_⟩⟩, ?_⟩
  · repeat (refine OR.set ?_ (by omega))
    exact oR
  · repeat (refine OT.set ?_ (by omega))
    exact oT
  · repeat (refine OS.set ?_ (by omega))
    exact oS
  · repeat (refine OL.set ?_ (by omega))
    exact oL
  · repeat (refine Below.setCell ?_ (by simp <;> omega) _)
    exact BD
set_option maxHeartbeats 2000000 in
theorem eqSt (v u : Value) (S : DState) (w : World) (h : VState w v S) (k : VState w u S) (hl : LenSt S 1048576) :
    Calls Try.prog 9 #[v, u] w fun e w' => e = .returned (.bool true) ∧ Below w.heap.size w w' := by
  have hE : ∀ w : World, ∀ o, Ext w (w.alloc o) := fun w o => World.grownBy_alloc _ _ _
  have x2 : ∀ a b, Ext w ((w.alloc a).alloc b) := fun a b => (hE _ _).tr (hE _ _)
  have B0 : ∀ a b, Below w.heap.size w ((w.alloc a).alloc b) := fun a b => ((Below.refl _ w).alloc (Nat.le_refl _) _).alloc (by simp) _
  have hl2 := hl.mono (B' := 2097152) (by omega)
  obtain ⟨rv, tv, sv, lv, rfl, hr, ht, hs, hll⟩ := h
  obtain ⟨rv', tv', sv', lv', rfl, hr', ht', hs', hll'⟩ := k
  go_enter Try.func9, Try.ntmps9
  go_wp2_with fail
  refine (eqS_R rv rv' S.rows _ (hr.ext (x2 _ _)) (hr'.ext (x2 _ _)) hl.rows hl2.row).mono ?_
  rintro e w1 ⟨rfl, b1⟩
  have PA := below_blk (k := w.heap.size) b1 (by simp; omega) ((Below.heap_alloc (w.alloc _) _ w.heap.size (by simp)).trans (heap_alloc_new w _))
  have QA := below_blk b1 (by simp) (heap_alloc_new (w.alloc (.cells #[.int .i64 S.index, rv, tv, .int .i64 S.lost, sv, lv] 37 (0, 0))) (.cells #[.int .i64 S.index, rv', tv', .int .i64 S.lost, sv', lv'] 37 (0, 0)))
  rw [show (w.alloc (.cells #[.int .i64 S.index, rv, tv, .int .i64 S.lost, sv, lv] 37 (0, 0))).heap.size = w.heap.size + 1 by simp] at QA
  have z1 : w.heap.size + 2 ≤ w1.heap.size := by have := b1.size; simp at this; omega
  have B1 := (B0 _ _).trans (b1.mono (by simp; omega))
  clear b1
  have p2 := (at_block PA 2 _ rfl).1
  have q2 := (at_block QA 2 _ rfl).1
  go_wp2_with fail
  refine (eqS_T tv tv' S.tombs _ (ht.ext (ext_below B1)) (ht'.ext (ext_below B1)) hl.tombs hl2.tomb).mono ?_
  rintro e w2 ⟨rfl, b2⟩
  have PB := below_blk b2 (by omega) PA
  have QB := below_blk b2 (by omega) QA
  have B2 := B1.trans (b2.mono B1.size)
  have z2 := Nat.le_trans z1 b2.size
  clear b2 p2 q2
  have p3 := (at_block PB 3 _ rfl).1
  have q3 := (at_block QB 3 _ rfl).1
  have p4 := (at_block PB 4 _ rfl).1
  have q4 := (at_block QB 4 _ rfl).1
  go_wp2_with fail
  refine (eqS_S sv sv' S.sess _ (hs.ext (ext_below B2)) (hs'.ext (ext_below B2)) hl.sess).mono ?_
  rintro e w3 ⟨rfl, b3⟩
  have PC := below_blk b3 (by omega) PB
  have QC := below_blk b3 (by omega) QB
  have B3 := B2.trans (b3.mono B2.size)
  have z3 := Nat.le_trans z2 b3.size
  clear b3 p3 q3 p4 q4
  have p5 := (at_block PC 5 _ rfl).1
  have q5 := (at_block QC 5 _ rfl).1
  go_wp2_with fail
  refine (eqS_L lv lv' S.lasts _ (hll.ext (ext_below B3)) (hll'.ext (ext_below B3)) hl.lasts).mono ?_
  rintro e w4 ⟨rfl, b4⟩
  have PD := below_blk b4 (by omega) PC
  have QD := below_blk b4 (by omega) QC
  have B4 := B3.trans (b4.mono B3.size)
  have z4 := Nat.le_trans z3 b4.size
  clear b4 p5 q5
  go_wp2
  go_ret
  exact ⟨rfl, B4⟩

end Go.Proofs.Ytknemgmfbmmngaa
