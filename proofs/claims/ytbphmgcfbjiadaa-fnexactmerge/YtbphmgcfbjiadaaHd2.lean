/- A table that a call answered goes into a box that was made ahead of it: for the walks of the laws. -/
import Derived.Test.YtbphmgcfbjiadaaTbL
import Derived.Test.YtbphmgcfbjiadaaMiHb
namespace Go.Proofs.Ytbphmgcfbjiadaa
open Go.RowKit

/-- A box with a table's answer, and what it owns. -/
def BoxT (w1 : World) (R : DTab) (m : Nat) (bs : Nat) (sa : Option Addr) (sc : Nat) (W : World) : Prop :=
  W.heap[bs]? = some (.cells #[.int .i64 R.self, .slice sa m sc] 30 (0, 0)) ∧ Ext w1 W ∧ OwMem W w1.heap.size (.slice sa m sc) R.mems ∧ w1.heap.size ≤ bs
theorem box_new {w1 z : World} {R : DTab} {m sc base : Nat} {sa : Option Addr} (X : Ext w1 z) (o : OwMem z base (.slice sa m sc) R.mems) (hb : w1.heap.size ≤ base) : BoxT w1 R m z.heap.size sa sc (z.alloc (.cells #[.int .i64 R.self, .slice sa m sc] 30 (0, 0))) :=
  ⟨heap_alloc_new z _, X.tr (World.grownBy_alloc _ _ _), (o.base hb).ext (World.grownBy_alloc _ _ _), X.size⟩
theorem box_set {w1 z : World} {R : DTab} {m sc base bs : Nat} {sa : Option Addr} {c0 c1 : Value} (X : Ext w1 z) (o : OwMem z base (.slice sa m sc) R.mems) (hb : w1.heap.size ≤ base) (P : z.heap[bs]? = some (.cells #[c0, c1] 30 (0, 0))) (hs : w1.heap.size ≤ bs) : BoxT w1 R m bs sa sc ((z.setCell ⟨bs, 0, none⟩ (.int .i64 R.self)).setCell ⟨bs, 1, none⟩ (.slice sa m sc)) := by
  have P1 := set_block P 0 (.int .i64 R.self)
  have nb : (Value.slice sa m sc).ownBlock = none ∨ (Value.slice sa m sc).ownBlock ≠ some bs := .inr (Ne.symm (ne_rowM o P (by decide)))
  exact ⟨set_block P1 1 _, ext_set (ext_set X _ _ _ hs) _ _ _ hs, OwMem.base ((o.keep (set_grown _ _ _ _) nb).keep (set_grown _ _ _ _) nb) hb, hs⟩
theorem BoxT.drew {w1 W : World} {R : DTab} {m bs sc : Nat} {sa : Option Addr} (h : BoxT w1 R m bs sa sc W) : BoxT w1 R m bs sa sc W.drew := ⟨h.1, h.2.1.tr (ext_drewN W 1), h.2.2.1.ext (ext_drewN W 1), h.2.2.2⟩

end Go.Proofs.Ytbphmgcfbjiadaa
