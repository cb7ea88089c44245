/- Probers: what the walk of a law carries. -/
import Derived.Test.YtfdklcmhafhbeaaPr4a
import Derived.Deep.CutRange
namespace Go.Proofs.Ytfdklcmhafhbeaa
open Go.RowKit

theorem hideR {p : Prop} (h : p) : Hid p := h
/-- What is carried through the walk of a law on probers: the argument's box, the specification's answer (of the world Ws), the program's argument and its answer. -/
structure LP (w Ws W : World) (D R : DPro) (av sv xv gv : Value) (s x g base : Nat) (G : List Int) : Prop where
  low : Below w.heap.size w W
  sB : Below Ws.heap.size Ws W
  sV : VL fI Ws sv R.order
  a : W.heap[w.heap.size]? = some (.cells #[av, .int .i64 D.next, .int .i64 D.seed, .int .i64 D.state, .int .i64 D.who, .int .i64 D.wait] 24 (0, 0))
  s : W.heap[s]? = some (.cells #[sv, .int .i64 R.next, .int .i64 R.seed, .int .i64 R.state, .int .i64 R.who, .int .i64 R.wait] 30 (0, 0))
  x : W.heap[x]? = some (.cells #[xv, .int .i64 D.next, .int .i64 D.seed, .int .i64 D.state, .int .i64 D.who, .int .i64 D.wait] 30 (0, 0))
  g : W.heap[g]? = some (.cells #[gv, .int .i64 R.next, .int .i64 R.seed, .int .i64 R.state, .int .i64 R.who, .int .i64 R.wait] 30 (0, 0))
  gO : OwI W base gv G
  bs : Ws.heap.size ≤ base
  ws : w.heap.size ≤ Ws.heap.size
variable {w Ws W W' : World} {D R : DPro} {av sv xv gv : Value} {s x g base : Nat} {G G' : List Int}
theorem LP.grow (h : LP w Ws W D R av sv xv gv s x g base G) (b : Below W.heap.size W W') : LP w Ws W' D R av sv xv gv s x g base G :=
  ⟨h.low.trans (b.mono h.low.size), h.sB.trans (b.mono h.sB.size), h.sV, ext_blk (ext_below b) h.a, ext_blk (ext_below b) h.s, ext_blk (ext_below b) h.x, ext_blk (ext_below b) h.g, h.gO.ext (ext_below b), h.bs, h.ws⟩
/-- A block of another type is none of this row. -/
theorem ne_rowN {W : World} {base b : Nat} {v : Value} {ts : List Int} {cs : Array Value} {t : TypeId} (o : OwI W base v ts) (h : W.heap[b]? = some (.cells cs t (0, 0))) (ht : t ≠ 3) : some b ≠ v.ownBlock := by
  intro e
  rcases o.2 with ⟨hv, _⟩ | ⟨k, c, cur, hv, _, hg, _⟩
  · rw [hv] at e; cases e
  · rw [hv] at e
    simp only [Value.ownBlock, Option.some.injEq] at e
    subst e
    rw [h] at hg
    simp only [Option.some.injEq, Obj.cells.injEq] at hg
    exact ht hg.2.1
theorem LP.turn {row : Value} {rb : Nat} {T : List Int} (h : LP w Ws W D R av sv xv gv s x g base G) (o : OwI W rb row T) (hb : Ws.heap.size ≤ rb) (hg : W.grownBy W' row.ownBlock) (hG : OwI W' base gv G') : LP w Ws W' D R av sv xv gv s x g base G' := by
  have kp : ∀ (b : Nat) (cs : Array Value) (t : TypeId), W.heap[b]? = some (.cells cs t (0, 0)) → t ≠ 3 → W'.heap[b]? = some (.cells cs t (0, 0)) := fun b cs t hbb ht => (hg.block b (Array.getElem?_eq_some_iff.1 hbb).1 (ne_rowN o hbb ht)).trans hbb
  have hr : ∀ k, row.ownBlock = some k → rb ≤ k := fun k hk => (o.lt k hk).1
  exact ⟨h.low.grown hg h.low.size (fun k hk => Nat.le_trans (Nat.le_trans h.ws hb) (hr k hk)), h.sB.grown hg h.sB.size (fun k hk => Nat.le_trans hb (hr k hk)), h.sV, kp _ _ _ h.a (by decide), kp _ _ _ h.s (by decide), kp _ _ _ h.x (by decide), kp _ _ _ h.g (by decide), hG, h.bs, h.ws⟩
theorem LP.sW (h : LP w Ws W D R av sv xv gv s x g base G) : VPro W (.agg #[sv, .int .i64 R.next, .int .i64 R.seed, .int .i64 R.state, .int .i64 R.who, .int .i64 R.wait]) R := ⟨sv, rfl, h.sV.ext (ext_below h.sB)⟩
theorem keep_ltN {W W' : World} {base g : Nat} {v : Value} {ts : List Int} {n c : Nat} (o : OwI W base v ts) (h : W.grownBy W' (Value.slice (some ⟨g, 0, none⟩) n c).ownBlock) (hg : g < base) : OwI W' base v ts := o.keep h (by
  cases hv : v.ownBlock with
  | none => exact .inl rfl
  | some k =>
    right
    have := (o.lt k hv).1
    simp only [Value.ownBlock, ne_eq, Option.some.injEq]
    omega)
theorem cells6_kept {w w' : World} {g : Nat} {v0 v1 v2 v3 v4 v5 : Value} (h : w.cell? ⟨g, 0, none⟩ = some v0 ∧ w.cell? ⟨g, 1, none⟩ = some v1 ∧ w.cell? ⟨g, 2, none⟩ = some v2 ∧ w.cell? ⟨g, 3, none⟩ = some v3 ∧ w.cell? ⟨g, 4, none⟩ = some v4 ∧ w.cell? ⟨g, 5, none⟩ = some v5) (e : Ext w w') : w'.cell? ⟨g, 0, none⟩ = some v0 ∧ w'.cell? ⟨g, 1, none⟩ = some v1 ∧ w'.cell? ⟨g, 2, none⟩ = some v2 ∧ w'.cell? ⟨g, 3, none⟩ = some v3 ∧ w'.cell? ⟨g, 4, none⟩ = some v4 ∧ w'.cell? ⟨g, 5, none⟩ = some v5 := ⟨World.grownBy.cell e h.1 (by simp), World.grownBy.cell e h.2.1 (by simp), World.grownBy.cell e h.2.2.1 (by simp), World.grownBy.cell e h.2.2.2.1 (by simp), World.grownBy.cell e h.2.2.2.2.1 (by simp), World.grownBy.cell e h.2.2.2.2.2 (by simp)⟩

end Go.Proofs.Ytfdklcmhafhbeaa
