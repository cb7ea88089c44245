/- Tables: what the walk of a law carries. -/
import Derived.Test.YtfdklcmhafhbeaaTb2
import Derived.Deep.CutRange
namespace Go.Proofs.Ytfdklcmhafhbeaa
open Go.RowKit

theorem hideQ {p : Prop} (h : p) : Hid p := h
/-- What is carried through the walk of a law on tables: the argument's box, the specification's answer (of the world Ws), the program's argument and its answer. -/
structure LT (w Ws W : World) (D R : DTab) (av sv xv gv : Value) (s x g base : Nat) (G : List DMem) : Prop where
  low : Below w.heap.size w W
  sB : Below Ws.heap.size Ws W
  sV : VMem Ws sv R.mems
  a : W.heap[w.heap.size]? = some (.cells #[.int .i64 D.self, av] 27 (0, 0))
  s : W.heap[s]? = some (.cells #[.int .i64 R.self, sv] 36 (0, 0))
  x : W.heap[x]? = some (.cells #[.int .i64 D.self, xv] 36 (0, 0))
  g : W.heap[g]? = some (.cells #[.int .i64 R.self, gv] 36 (0, 0))
  gO : OwMem W base gv G
  bs : Ws.heap.size ≤ base
  ws : w.heap.size ≤ Ws.heap.size
variable {w Ws W W' : World} {D R : DTab} {av sv xv gv : Value} {s x g base : Nat} {G G' : List DMem}
theorem LT.grow (h : LT w Ws W D R av sv xv gv s x g base G) (b : Below W.heap.size W W') : LT w Ws W' D R av sv xv gv s x g base G :=
  ⟨h.low.trans (b.mono h.low.size), h.sB.trans (b.mono h.sB.size), h.sV, below_blk b (Array.getElem?_eq_some_iff.1 h.a).1 h.a, below_blk b (Array.getElem?_eq_some_iff.1 h.s).1 h.s, below_blk b (Array.getElem?_eq_some_iff.1 h.x).1 h.x, below_blk b (Array.getElem?_eq_some_iff.1 h.g).1 h.g, h.gO.ext (ext_below b), h.bs, h.ws⟩
/-- A block of another type is none of this row. -/
theorem ne_rowM {W : World} {base b : Nat} {v : Value} {ts : List DMem} {cs : Array Value} {t : TypeId} (o : OwMem W base v ts) (h : W.heap[b]? = some (.cells cs t (0, 0))) (ht : t ≠ 72) : some b ≠ v.ownBlock := by
  intro e
  rcases o.2 with ⟨hv, _⟩ | ⟨k, c, cur, hv, _, hg, _⟩
  · rw [hv] at e; cases e
  · rw [hv] at e
    simp only [Value.ownBlock, Option.some.injEq] at e
    subst e
    rw [h] at hg
    simp only [Option.some.injEq, Obj.cells.injEq] at hg
    exact ht hg.2.1
/-- A row of members, not older than the specification's answer, has turned: the program's answer, or another. -/
theorem LT.turn {row : Value} {rb : Nat} {T : List DMem} (h : LT w Ws W D R av sv xv gv s x g base G) (o : OwMem W rb row T) (hb : Ws.heap.size ≤ rb) (hg : W.grownBy W' row.ownBlock) (hG : OwMem W' base gv G') : LT w Ws W' D R av sv xv gv s x g base G' := by
  have kp : ∀ (b : Nat) (cs : Array Value) (t : TypeId), W.heap[b]? = some (.cells cs t (0, 0)) → t ≠ 72 → W'.heap[b]? = some (.cells cs t (0, 0)) := fun b cs t hbb ht => (hg.block b (Array.getElem?_eq_some_iff.1 hbb).1 (ne_rowM o hbb ht)).trans hbb
  have hr : ∀ k, row.ownBlock = some k → rb ≤ k := fun k hk => (o.lt k hk).1
  exact ⟨h.low.grown hg h.low.size (fun k hk => Nat.le_trans (Nat.le_trans h.ws hb) (hr k hk)), h.sB.grown hg h.sB.size (fun k hk => Nat.le_trans hb (hr k hk)), h.sV, kp _ _ _ h.a (by decide), kp _ _ _ h.s (by decide), kp _ _ _ h.x (by decide), kp _ _ _ h.g (by decide), hG, h.bs, h.ws⟩
theorem LT.sW (h : LT w Ws W D R av sv xv gv s x g base G) : VTab W (.agg #[.int .i64 R.self, sv]) R := ⟨sv, rfl, h.sV.ext (ext_below h.sB)⟩

theorem keptT {w w' : World} {g g' : Nat} {a0 a1 b0 b1 : Value} (h : (w.cell? ⟨g, 0, none⟩ = some a0 ∧ w.cell? ⟨g, 1, none⟩ = some a1) ∧ (w.cell? ⟨g', 0, none⟩ = some b0 ∧ w.cell? ⟨g', 1, none⟩ = some b1)) (hb : Below w.heap.size w w') :
    (w'.cell? ⟨g, 0, none⟩ = some a0 ∧ w'.cell? ⟨g, 1, none⟩ = some a1) ∧ (w'.cell? ⟨g', 0, none⟩ = some b0 ∧ w'.cell? ⟨g', 1, none⟩ = some b1) := by
  have hg : g < w.heap.size := World.block_lt_of_cell? w _ h.1.1
  have hg' : g' < w.heap.size := World.block_lt_of_cell? w _ h.2.1
  obtain ⟨⟨h0, h1⟩, h2, h3⟩ := h
  exact ⟨⟨(hb.cell (p := ⟨g, 0, none⟩) hg).trans h0, (hb.cell (p := ⟨g, 1, none⟩) hg).trans h1⟩, (hb.cell (p := ⟨g', 0, none⟩) hg').trans h2, (hb.cell (p := ⟨g', 1, none⟩) hg').trans h3⟩

end Go.Proofs.Ytfdklcmhafhbeaa
