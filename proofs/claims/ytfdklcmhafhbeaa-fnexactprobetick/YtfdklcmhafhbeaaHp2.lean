/- A prober that a call answered goes into a box that was made ahead of it: for the walks of the laws. -/
import Derived.Test.YtfdklcmhafhbeaaLPr
import Derived.Test.YtfdklcmhafhbeaaTbL
namespace Go.Proofs.Ytfdklcmhafhbeaa
open Go.RowKit

theorem ext_setP {w w' : World} (h : Ext w w') (b o : Nat) (v : Value) (hb : w.heap.size ≤ b) : Ext w (w'.setCell ⟨b, o, none⟩ v) := by
  have g := set_grown w' b o v
  exact ⟨g.os.trans h.os, g.tape.trans h.tape, g.output.trans h.output, Nat.le_trans h.size g.size, fun k hk _ => (g.block k (Nat.lt_of_lt_of_le hk h.size) (by simp; omega)).trans (h.block k hk (by simp))⟩
/-- A box with a prober's answer, and what it owns. -/
def BoxP (w1 : World) (R : DPro) (m : Nat) (bs : Nat) (sa : Option Addr) (sc : Nat) (W : World) : Prop :=
  W.heap[bs]? = some (.cells #[.slice sa m sc, .int .i64 R.next, .int .i64 R.seed, .int .i64 R.state, .int .i64 R.who, .int .i64 R.wait] 30 (0, 0)) ∧ Ext w1 W ∧ OwI W w1.heap.size (.slice sa m sc) R.order ∧ w1.heap.size ≤ bs
theorem boxp_new {w1 z : World} {R : DPro} {m sc base : Nat} {sa : Option Addr} (X : Ext w1 z) (o : OwI z base (.slice sa m sc) R.order) (hb : w1.heap.size ≤ base) : BoxP w1 R m z.heap.size sa sc (z.alloc (.cells #[.slice sa m sc, .int .i64 R.next, .int .i64 R.seed, .int .i64 R.state, .int .i64 R.who, .int .i64 R.wait] 30 (0, 0))) :=
  ⟨heap_alloc_new z _, X.tr (World.grownBy_alloc _ _ _), (o.base hb).ext (World.grownBy_alloc _ _ _), X.size⟩
theorem boxp_set {w1 z : World} {R : DPro} {m sc base bs : Nat} {sa : Option Addr} {c0 c1 c2 c3 c4 c5 : Value} (X : Ext w1 z) (o : OwI z base (.slice sa m sc) R.order) (hb : w1.heap.size ≤ base) (P : z.heap[bs]? = some (.cells #[c0, c1, c2, c3, c4, c5] 30 (0, 0))) (hs : w1.heap.size ≤ bs) : BoxP w1 R m bs sa sc ((((((z.setCell ⟨bs, 0, none⟩ (.slice sa m sc)).setCell ⟨bs, 1, none⟩ (.int .i64 R.next)).setCell ⟨bs, 2, none⟩ (.int .i64 R.seed)).setCell ⟨bs, 3, none⟩ (.int .i64 R.state)).setCell ⟨bs, 4, none⟩ (.int .i64 R.who)).setCell ⟨bs, 5, none⟩ (.int .i64 R.wait)) :=
  ⟨pro_set P _ _ _ _ _ _, ext_setP (ext_setP (ext_setP (ext_setP (ext_setP (ext_setP X _ _ _ hs) _ _ _ hs) _ _ _ hs) _ _ _ hs) _ _ _ hs) _ _ _ hs, OwI.base (pro_own o (.inr (Ne.symm (ne_rowN o P (by decide)))) _ _ _ _ _ _) hb, hs⟩
/-- What is carried beside the prober: the table's box, the program's other argument. -/
structure LU (w W : World) (O : DTab) (uv yv : Value) (y : Nat) : Prop where
  b : W.heap[w.heap.size + 1]? = some (.cells #[.int .i64 O.self, uv] 27 (0, 0))
  y : W.heap[y]? = some (.cells #[.int .i64 O.self, yv] 36 (0, 0))
variable {w W W' : World} {O : DTab} {uv yv : Value} {y : Nat}
theorem LU.grow (h : LU w W O uv yv y) (b : Below W.heap.size W W') : LU w W' O uv yv y := ⟨ext_blk (ext_below b) h.b, ext_blk (ext_below b) h.y⟩
theorem LU.turnI {row : Value} {rb : Nat} {T : List Int} (h : LU w W O uv yv y) (o : OwI W rb row T) (hg : W.grownBy W' row.ownBlock) : LU w W' O uv yv y := ⟨(hg.block _ (Array.getElem?_eq_some_iff.1 h.b).1 (ne_rowN o h.b (by decide))).trans h.b, (hg.block _ (Array.getElem?_eq_some_iff.1 h.y).1 (ne_rowN o h.y (by decide))).trans h.y⟩
theorem LU.turnM {row : Value} {rb : Nat} {T : List DMem} (h : LU w W O uv yv y) (o : OwMem W rb row T) (hg : W.grownBy W' row.ownBlock) : LU w W' O uv yv y := ⟨(hg.block _ (Array.getElem?_eq_some_iff.1 h.b).1 (ne_rowM o h.b (by decide))).trans h.b, (hg.block _ (Array.getElem?_eq_some_iff.1 h.y).1 (ne_rowM o h.y (by decide))).trans h.y⟩
/-- A row of members turned: the numbers are as they were. -/
theorem ow_ne {base rb : Nat} {v row : Value} {xs : List Int} {ts : List DMem} (o : OwI W base v xs) (p : OwMem W rb row ts) : v.ownBlock = none ∨ v.ownBlock ≠ row.ownBlock := by
  rcases o.2 with ⟨hv, _⟩ | ⟨k, c, cur, hv, _, hg, _⟩
  · left; rw [hv]; rfl
  · right
    rw [hv]
    show some k ≠ row.ownBlock
    exact ne_rowM p hg (by decide)
theorem LP.turnM {Ws : World} {D R : DPro} {av sv xv gv row : Value} {s x g base rb : Nat} {G : List Int} {T : List DMem} (h : LP w Ws W D R av sv xv gv s x g base G) (o : OwMem W rb row T) (hb : Ws.heap.size ≤ rb) (hg : W.grownBy W' row.ownBlock) : LP w Ws W' D R av sv xv gv s x g base G := by
  have kp : ∀ (b : Nat) (cs : Array Value) (t : TypeId), W.heap[b]? = some (.cells cs t (0, 0)) → t ≠ 72 → W'.heap[b]? = some (.cells cs t (0, 0)) := fun b cs t hbb ht => (hg.block b (Array.getElem?_eq_some_iff.1 hbb).1 (ne_rowM o hbb ht)).trans hbb
  have hr : ∀ k, row.ownBlock = some k → rb ≤ k := fun k hk => (o.lt k hk).1
  exact ⟨h.low.grown hg h.low.size (fun k hk => Nat.le_trans (Nat.le_trans h.ws hb) (hr k hk)), h.sB.grown hg h.sB.size (fun k hk => Nat.le_trans hb (hr k hk)), h.sV, kp _ _ _ h.a (by decide), kp _ _ _ h.s (by decide), kp _ _ _ h.x (by decide), kp _ _ _ h.g (by decide), h.gO.keep hg (ow_ne h.gO o), h.bs, h.ws⟩
theorem mem_keepI {base rb : Nat} {v row : Value} {xs : List Int} {ts : List DMem} (p : OwMem W base v ts) (o : OwI W rb row xs) (hg : W.grownBy W' row.ownBlock) : OwMem W' base v ts := p.keep hg (by
  rcases ow_ne o p with h | h
  · cases hv : v.ownBlock with
    | none => exact .inl rfl
    | some k => right; rw [h]; simp
  · exact .inr (Ne.symm h))

end Go.Proofs.Ytfdklcmhafhbeaa
