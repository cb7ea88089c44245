
/- A cursor beside what else turns. -/
import Derived.Test.YtihlinhfnlfdmaaCur3
namespace Go.Proofs.Ytihlinhfnlfdmaa
open Go.RowKit

/-- A cursor stays one where a later block turns. -/
theorem Cur.off {w w' : World} {B g x : Nat} (h : Cur w B g) (k : w.grownBy w' (some x)) (hx : g < x) : Cur w' B g := by
  obtain ⟨a, n, cap, xs, i, hh, hb, h1, h2, h3, h4, h5⟩ := h
  refine ⟨a, n, cap, xs, i, hh, by rw [k.block g (Array.getElem?_eq_some_iff.1 hb).1 (by simp; omega)]; exact hb, h1, h2, h3, ?_, h5⟩
  refine ⟨h4.len, fun j hj => ?_, h4.rng⟩
  obtain ⟨b, o', ha, hc⟩ := h4.cell j hj
  have hb' := h5 _ ha
  simp only at hb'
  exact ⟨b, o', ha, k.cell hc (by simp; omega)⟩
theorem cur_in {w : World} {B g : Nat} (h : Cur w B g) : g < w.heap.size ∧ B ≤ g := by
  obtain ⟨a, n, cap, xs, i, hh, hb, h1, h2, h3, h4, h5⟩ := h
  exact ⟨(Array.getElem?_eq_some_iff.1 hb).1, h3⟩
theorem grown_both {a b c : World} {g h : Nat} (x : a.grownBy b (some g)) (y : b.grownBy c (some h)) (hh : a.heap.size ≤ h) : a.grownBy c (some g) :=
  ⟨y.os.trans x.os, y.tape.trans x.tape, y.output.trans x.output, Nat.le_trans x.size y.size, fun k hk hn => (y.block k (Nat.lt_of_lt_of_le hk x.size) (by simp; omega)).trans (x.block k hk hn)⟩
/-- A block beside the cursor's is as it was. -/
theorem grown_blk {w w' : World} {g b : Nat} {o : Obj} (k : w.grownBy w' (some g)) (hn : b ≠ g) (h : w.heap[b]? = some o) : w'.heap[b]? = some o := (k.block b (Array.getElem?_eq_some_iff.1 h).1 (by simpa using hn)).trans h

end Go.Proofs.Ytihlinhfnlfdmaa
