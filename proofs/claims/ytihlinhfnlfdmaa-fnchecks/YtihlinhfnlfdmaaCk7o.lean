
/- A box apart. -/
import Derived.Test.YtihlinhfnlfdmaaCk2
namespace Go.Proofs.Ytihlinhfnlfdmaa
open Go.RowKit

theorem chk_other {w : World} {b k : Nat} {o : Obj} (hk : k ≠ b) (h : w.heap[k]? = some o) (v0 v1 v2 v3 v4 v5 : Value) : ((((((w.setCell ⟨b, 0, none⟩ v0).setCell ⟨b, 1, none⟩ v1).setCell ⟨b, 2, none⟩ v2).setCell ⟨b, 3, none⟩ v3).setCell ⟨b, 4, none⟩ v4).setCell ⟨b, 5, none⟩ v5).heap[k]? = some o := set_other _ _ _ hk (set_other _ _ _ hk (set_other _ _ _ hk (set_other _ _ _ hk (set_other _ _ _ hk (set_other _ _ _ hk h)))))

theorem ChB.ext {w w' : World} {g base : Nat} {C : DChk} {tv : Value} (h : ChB g base C tv w) (e : Ext w w') : ChB g base C tv w' := ⟨ext_blk e h.1, h.2.ext e⟩
theorem Ext.any {w w' : World} (e : Ext w w') (r : Option Nat) : w.grownBy w' r := ⟨e.os, e.tape, e.output, e.size, fun k hk _ => e.block k hk (by simp)⟩

end Go.Proofs.Ytihlinhfnlfdmaa
