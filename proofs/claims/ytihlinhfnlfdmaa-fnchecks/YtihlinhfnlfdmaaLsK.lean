
/- Lists of checks: sized, copied, held against one another. -/
import Derived.Test.YtihlinhfnlfdmaaTo0
import Derived.Test.YtihlinhfnlfdmaaSum0
import Derived.Test.YtihlinhfnlfdmaaCk0
import Derived.Test.YtihlinhfnlfdmaaQB
import Derived.Deep.RegionHeld3
namespace Go.Proofs.Ytihlinhfnlfdmaa
open Go.RowKit

/-- The slice v reads as the checks rs. -/
def VChks (w : World) (v : Value) (rs : List DChk) : Prop := ∃ C, SL w 6 v rs.length C ∧ ∀ i d, rs[i]? = some d → RV w (C i 0) d.name ∧ C i 1 = .int .i64 d.ttl ∧ C i 2 = .int .i64 d.most ∧ C i 3 = .int .i64 d.st ∧ C i 4 = .int .i64 d.age ∧ C i 5 = .int .i64 d.fails
theorem VChks.ext {w w' : World} {v : Value} {rs : List DChk} (h : VChks w v rs) (e : Ext w w') : VChks w' v rs := by
  obtain ⟨C, h1, h2⟩ := h
  refine ⟨C, h1.ext e, fun i d hd => ?_⟩
  obtain ⟨e0, e1, e2, e3, e4, e5⟩ := h2 i d hd
  exact ⟨e0.ext e, e1, e2, e3, e4, e5⟩
def zK (s : DChk) : Nat := s.name.length
def sK (rs : List DChk) : Nat := (rs.map zK).sum

theorem info_K : (Try.prog.info? 24).map (fun i => (i.zero, i.size, i.bytes)) = some (some (.agg #[.slice none 0 0, .int .i64 0, .int .i64 0, .int .i64 0, .int .i64 0, .int .i64 0]), 6, 64) := by kernel_rfl

end Go.Proofs.Ytihlinhfnlfdmaa
