/- How long the members of an answer are. -/
import Derived.Test.YtipjeddfkajdeaaMd2
namespace Go.Proofs.Ytipjeddfkajdeaa

theorem turnD_len (T : DTab) (id fr st : Int) (h : T.mems.length ≤ 1048576) : (turnD T id fr st).1.mems.length ≤ 1048576 := by
  by_cases hp : TabP T
  · unfold turnD
    rw [if_pos hp]
    split
    · split
      · exact h
      · simpa using h
    · exact h
  · rw [turnD_no hp]; simp
theorem leaveD_len (T : DTab) (h : T.mems.length ≤ 1048576) : (leaveD T).1.mems.length ≤ 1048576 := by
  by_cases hp : TabP T
  · unfold leaveD
    rw [if_pos hp]
    split
    · split
      · exact h
      · simpa using h
    · exact h
  · rw [leaveD_no hp]; simp

end Go.Proofs.Ytipjeddfkajdeaa
