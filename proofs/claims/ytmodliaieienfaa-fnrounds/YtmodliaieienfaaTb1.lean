
/- Tables of members: read, sized, copied, held against one another; marks. -/
import Derived.Test.YtmodliaieienfaaElMem3
namespace Go.Proofs.Ytmodliaieienfaa
open Go.RowKit

structure DTab where
  self : Int
  mems : List DMem

def VTab (w : World) (v : Value) (T : DTab) : Prop := ∃ tv, v = .agg #[.int .i64 T.self, tv] ∧ VMem w tv T.mems
theorem VTab.ext {w w' : World} {v : Value} {T : DTab} (h : VTab w v T) (e : Ext w w') : VTab w' v T := by
  obtain ⟨tv, hv, h1⟩ := h
  exact ⟨tv, hv, h1.ext e⟩

end Go.Proofs.Ytmodliaieienfaa
