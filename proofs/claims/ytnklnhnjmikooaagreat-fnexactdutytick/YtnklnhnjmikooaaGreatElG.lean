
/- What holds of memory that grew. It holds over every program. -/
import Derived.Test.YtnklnhnjmikooaaGreatOp0
namespace Go.Proofs.YtnklnhnjmikooaaGreat
open Go.RowKit

theorem grown_same (w : World) (row : Option Nat) : w.grownBy w row := ⟨rfl, rfl, rfl, Nat.le_refl _, fun _ _ _ => rfl⟩
theorem grown_un {w w' : World} {row : Option Nat} (h : w.drew.grownBy w' row) : w.grownBy w' row := ⟨h.os, h.tape, h.output, h.size, h.block⟩
theorem ext_bel {w w' : World} (e : Ext w w') : Below w.heap.size w w' := ⟨e.os, e.tape, e.output, e.size, fun k hk => e.block k hk (by simp)⟩
theorem ext_blk {w w' : World} (e : Ext w w') {g : Nat} {o : Obj} (h : w.heap[g]? = some o) : w'.heap[g]? = some o := (e.block g (Array.getElem?_eq_some_iff.1 h).1 (by simp)).trans h

end Go.Proofs.YtnklnhnjmikooaaGreat
