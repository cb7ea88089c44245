
/- The contract of the specification's WheelSet. -/
import Derived.Test.YtgafnajnndbofaaHpY
import Derived.Test.YtgafnajnndbofaaHpL
namespace Go.Proofs.Ytgafnajnndbofaa
open Go.RowKit

theorem setD_len (D : DWheel) (id after : Int) (h : D.tms.length ≤ 1048576) : (setD (tB (WheelP D)) D id after).1.tms.length ≤ 1048576 := by
  cases hok : tB (WheelP D) with
  | false => unfold setD; simp
  | true =>
    have h40 := (tB_iff.1 hok).2.1
    unfold setD
    rw [if_pos rfl]
    split
    · exact h
    · simp only
      rw [(insT_perm _ _).length_eq]
      unfold lessT
      split
      · simp; omega
      · rw [List.length_append, List.length_eraseIdx]
        split <;> simp <;> omega

end Go.Proofs.Ytgafnajnndbofaa
