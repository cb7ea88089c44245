/- The specification's MsgOk tells whether something may be a message. -/
import Derived.Test.YtplgnohncdfgcalMsC
import Derived.Test.YtplgnohncdfgcalMsJ
import Derived.Test.YtplgnohncdfgcalMsK
import Derived.Test.YtplgnohncdfgcalMsL
import Derived.Test.YtplgnohncdfgcalMsM
namespace Go.Proofs.Ytplgnohncdfgcal
open Go.RowKit
theorem sMsgOkP (M : DMsg) (v : Value) (w : World) (h : VMsg w v M) :
    Calls Try.prog 23 #[v] w fun e w' => e = .returned (.bool (tB (MsgP M))) ∧ Below w.heap.size w w' := by
  by_cases hg : MHeadP M
  · by_cases hz0 : (M.prev == 0) = (M.prevTerm == 0)
    · exact sMsgA M v w h hg hz0
    · have hz1 : (!(M.prev == 0) == (M.prevTerm == 0)) = true := by revert hz0; cases (M.prev == 0) <;> cases (M.prevTerm == 0) <;> simp
      by_cases hk3 : M.kind = 3
      · exact sMsgB M v w h hg hz1 (by simpa using hk3)
      · by_cases hk1 : M.kind = 1
        · exact sMsgC M v w h hg hz1 (by simpa using hk3) (by simpa using hk1)
        · have e : tB (MsgP M) = false := tB_false (fun hp => by
            rcases hp.2.1 with e | e | e
            · exact hk3 e
            · exact hk1 e
            · apply hz0
              by_cases e0 : M.prev = 0
              · have e1 := e.1 e0
                rw [e0, e1]
              · have e1 : ¬ M.prevTerm = 0 := fun e1 => e0 (e.2 e1)
                rw [beq_eq_false_iff_ne.2 e0, beq_eq_false_iff_ne.2 e1])
          rw [e]
          exact sMsgD M v w h hg hz1 (by simpa using hk3) (by simpa using hk1)
  · have e : tB (MsgP M) = false := tB_false (fun hp => hg hp.1)
    rw [e]
    exact sMsgHead M v w h hg

end Go.Proofs.Ytplgnohncdfgcal
