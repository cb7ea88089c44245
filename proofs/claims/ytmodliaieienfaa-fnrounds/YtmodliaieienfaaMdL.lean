
/- Those that live, as a plain function. It holds over every program. -/
import Derived.Test.YtmodliaieienfaaMd2
namespace Go.Proofs.Ytmodliaieienfaa
open Go.RowKit

/-- Those that live. -/
def liveL (ts : List DMem) : List Int := (ts.filter fun t => decide (t.st ≤ 1)).map fun t => t.id
theorem liveL_next {ts : List DMem} {k : Nat} {t : DMem} (h : ts[k]? = some t) : liveL (ts.take (k + 1)) = liveL (ts.take k) ++ (if t.st ≤ 1 then [t.id] else []) := by
  rw [List.take_add_one, h]
  unfold liveL
  rw [List.filter_append, List.map_append]
  congr 1
  by_cases e : t.st ≤ 1
  · simp [e]
  · simp [e]
theorem liveL_len (ts : List DMem) : (liveL ts).length ≤ ts.length := by
  unfold liveL
  rw [List.length_map]
  exact List.length_filter_le _ _
def liveD (T : DTab) (h : Decidable (TabP T) := Classical.propDecidable (TabP T)) : List Int := @ite _ (TabP T) h (liveL T.mems) []
theorem liveD_no {T : DTab} (h : ¬ TabP T) : liveD T = [] := by unfold liveD; exact if_neg h
theorem liveD_yes {T : DTab} (h : TabP T) : liveD T = liveL T.mems := by unfold liveD; exact if_pos h

end Go.Proofs.Ytmodliaieienfaa
