
/- A copy of a local reads as it. -/
import Derived.Test.YtpnachakijpjkaaSvL
namespace Go.Proofs.Ytpnachakijpjkaa
open Go.RowKit

theorem toLocV (v : Value) (d : DLoc) (w : World) (h : VLoc w v d) (hl : LenLo d) :
    Calls Try.prog 10 #[v] w fun e w' => ∃ a c b c', e = .returned (.agg #[.slice a d.node.length c, .slice b d.svcs.length c']) ∧ VLoc w' (.agg #[.slice a d.node.length c, .slice b d.svcs.length c']) d ∧ Below w.heap.size w w' := by
  have h0 := h
  obtain ⟨nv, cv, rfl, hn, hc⟩ := h0
  exact (toLoc _ d w h hl).mono fun e w' ⟨a, c, b, h1, h2, h3, h4⟩ => ⟨a, c, _, _, h1, oloc_v h2 h3 hl (rv_rngK hn) (rngSvs_of hc), h4⟩

end Go.Proofs.Ytpnachakijpjkaa
