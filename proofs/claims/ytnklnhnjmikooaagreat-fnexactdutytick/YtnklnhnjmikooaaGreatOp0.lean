
/- Operations and commands as data, and how their values read in memory. It holds over every program. -/
import Derived.Test.YtnklnhnjmikooaaGreatVal0
namespace Go.Proofs.YtnklnhnjmikooaaGreat
open Go.RowKit

/-- An operation. -/
structure DOp where
  kind : Int
  key : List Int
  val : List Int
  n : Int

/-- The value v reads as the operation d. -/
def VOp (w : World) (v : Value) (d : DOp) : Prop := ∃ kv vv, v = .agg #[.int .i64 d.kind, kv, vv, .int .i64 d.n] ∧ RV w kv d.key ∧ RV w vv d.val

/-- The value v is the operation d, in memory from block base on; its two texts lie apart. -/
def OOp (w : World) (base : Nat) (v : Value) (d : DOp) : Prop := ∃ kv vv, v = .agg #[.int .i64 d.kind, kv, vv, .int .i64 d.n] ∧ Ow w base kv d.key ∧ Ow w base vv d.val ∧ (kv.ownBlock = none ∨ kv.ownBlock ≠ vv.ownBlock)

def rngOp (d : DOp) : Prop := (∀ x ∈ d.key, 0 ≤ x ∧ x ≤ 255) ∧ (∀ x ∈ d.val, 0 ≤ x ∧ x ≤ 255)

theorem VOp.ext {w w' : World} {v : Value} {d : DOp} (h : VOp w v d) (k : Ext w w') : VOp w' v d := by
  obtain ⟨kv, vv, hv, h1, h2⟩ := h
  exact ⟨kv, vv, hv, h1.ext k, h2.ext k⟩
theorem OOp.ext {w w' : World} {base : Nat} {v : Value} {d : DOp} (h : OOp w base v d) (k : Ext w w') : OOp w' base v d := by
  obtain ⟨kv, vv, hv, h1, h2, h3⟩ := h
  exact ⟨kv, vv, hv, h1.ext k, h2.ext k, h3⟩
theorem OOp.v {w : World} {base : Nat} {v : Value} {d : DOp} (h : OOp w base v d) (hr : rngOp d) : VOp w v d := by
  obtain ⟨kv, vv, hv, h1, h2, _⟩ := h
  exact ⟨kv, vv, hv, h1.rv hr.1, h2.rv hr.2⟩

/-- Behind a call that turned nothing old: old cells and marks read as before. -/
theorem bcell {W w1 : World} (hb : Below W.heap.size W w1) : (∀ b o, b < W.heap.size → w1.cell? ⟨b, o, none⟩ = W.cell? ⟨b, o, none⟩) ∧ (∀ b o, b < W.heap.size → w1.frozen? ⟨b, o, none⟩ = W.frozen? ⟨b, o, none⟩) :=
  ⟨fun b o h => hb.cell (p := ⟨b, o, none⟩) h, fun b o h => hb.frozen (p := ⟨b, o, none⟩) h⟩

theorem h3_0 (w : World) (a b c : Obj) : (((w.alloc a).alloc b).alloc c).heap[w.heap.size]? = some a := by
  rw [Below.heap_alloc _ _ _ (by simp; omega), Below.heap_alloc _ _ _ (by simp), heap_alloc_new]
theorem h3_1 (w : World) (a b c : Obj) : (((w.alloc a).alloc b).alloc c).heap[w.heap.size + 1]? = some b := by
  rw [Below.heap_alloc _ _ _ (by simp)]
  have := heap_alloc_new (w.alloc a) b
  simpa using this
theorem h3_2 (w : World) (a b c : Obj) : (((w.alloc a).alloc b).alloc c).heap[w.heap.size + 1 + 1]? = some c := by
  have := heap_alloc_new ((w.alloc a).alloc b) c
  simpa using this
/-- One cell of a block that is known whole. -/
theorem at_block {w : World} {g : Nat} {cs : Array Value} {t : TypeId} (h : w.heap[g]? = some (.cells cs t (0, 0))) (j : Nat) (v : Value) (hj : cs[j]? = some v) : w.cell? ⟨g, j, none⟩ = some v ∧ w.frozen? ⟨g, j, none⟩ = false :=
  ⟨by rw [cell_of_row w g j cs t (0, 0) h]; exact hj, frozen_of_row w g j cs t h⟩
/-- A store into a block that is known whole. -/
theorem set_block {w : World} {g : Nat} {cs : Array Value} {t : TypeId} (h : w.heap[g]? = some (.cells cs t (0, 0))) (j : Nat) (u : Value) : (w.setCell ⟨g, j, none⟩ u).heap[g]? = some (.cells (cs.setIfInBounds j u) t (0, 0)) :=
  heap_setCell_same w g j cs t u h
theorem set_other {w : World} (g j : Nat) (u : Value) {k : Nat} {o : Obj} (hk : k ≠ g) (h : w.heap[k]? = some o) : (w.setCell ⟨g, j, none⟩ u).heap[k]? = some o := by
  rw [Below.heap_setCell _ _ _ _ hk]; exact h
theorem set_grown (w : World) (g j : Nat) (u : Value) : w.grownBy (w.setCell ⟨g, j, none⟩ u) (some g) :=
  ⟨rfl, rfl, rfl, by simp, fun k _ hk => heap_setCell_other w ⟨g, j, none⟩ k u (fun e => hk (by simp [e]))⟩
theorem below_blk {B k : Nat} {w w' : World} {o : Obj} (hb : Below B w w') (hk : k < B) (h : w.heap[k]? = some o) : w'.heap[k]? = some o := (hb.block k hk).trans h

theorem ow_row {w w' : World} {base g : Nat} {v : Value} {xs : List Int} (o : Ow w base v xs) (hg : w.grownBy w' (some g)) (hb : g < base) : Ow w' base v xs :=
  o.kept hg (by
    right
    intro e
    have := (o.lt g e).1
    omega)
theorem below_at {B g : Nat} {w0 w w' : World} (hb : Below B w0 w) (hs : B ≤ w.heap.size) (hg : w.grownBy w' (some g)) (hB : B ≤ g) : Below B w0 w' :=
  hb.grown hg hs (fun k hk => by simp only [Option.some.injEq] at hk; omega)

theorem ow_set {w : World} {base g j : Nat} {u v : Value} {xs : List Int} (o : Ow w base v xs) (hb : g < base) : Ow (w.setCell ⟨g, j, none⟩ u) base v xs := ow_row o (set_grown w g j u) hb
theorem below_set {B g j : Nat} {w0 w : World} {u : Value} (h : Below B w0 w) (hb : B ≤ g) : Below B w0 (w.setCell ⟨g, j, none⟩ u) := h.setCell hb u

end Go.Proofs.YtnklnhnjmikooaaGreat
