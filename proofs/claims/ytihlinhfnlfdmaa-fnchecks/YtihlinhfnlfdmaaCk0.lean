
/- Checks as data: read, sized, copied, held against one another, marks. -/
import Derived.Test.YtihlinhfnlfdmaaSz0
import Derived.Test.YtihlinhfnlfdmaaMark
namespace Go.Proofs.Ytihlinhfnlfdmaa
open Go.RowKit

structure DChk where
  name : List Int
  ttl : Int
  most : Int
  st : Int
  age : Int
  fails : Int

/-- The value of a check, its name given. -/
abbrev chkV (ov : Value) (C : DChk) : Value := .agg #[ov, .int .i64 C.ttl, .int .i64 C.most, .int .i64 C.st, .int .i64 C.age, .int .i64 C.fails]
def VChk (w : World) (v : Value) (C : DChk) : Prop := ∃ ov, v = .agg #[ov, .int .i64 C.ttl, .int .i64 C.most, .int .i64 C.st, .int .i64 C.age, .int .i64 C.fails] ∧ RV w ov C.name
theorem VChk.ext {w w' : World} {v : Value} {C : DChk} (h : VChk w v C) (e : Ext w w') : VChk w' v C := by
  obtain ⟨ov, hv, h1⟩ := h
  exact ⟨ov, hv, h1.ext e⟩
theorem ext_blk' {w w' : World} {k : Nat} {o : Obj} (h : Ext w w') (hk : w.heap[k]? = some o) : w'.heap[k]? = some o := (h.block k (Array.getElem?_eq_some_iff.1 hk).1 (by simp)).trans hk
theorem rv_rngK {w : World} {v : Value} {xs : List Int} (h : RV w v xs) : ∀ x ∈ xs, 0 ≤ x ∧ x ≤ 255 := by
  obtain ⟨_, _, _, hr, _, _⟩ := h
  exact hr.rng

end Go.Proofs.Ytihlinhfnlfdmaa
