/- The size of a slice of bytes, counted down. -/
import Derived.Test.YtdcbajejgphlgaaOp0
import Derived.Test.YtdcbajejgphlgaaVal
namespace Go.Proofs.Ytdcbajejgphlgaa
open Go.RowKit

set_option maxHeartbeats 1000000 in
theorem szB (v : Value) (xs : List Int) (l : Int) (w : World) (h : RV w v xs) (hl0 : 0 ≤ l) (hl : l ≤ 1048576) :
    Calls Try.prog 69 #[v, .int .i64 l] w fun e w' => e = .returned (.int .i64 (if l - xs.length < 0 then -1 else l - xs.length)) ∧ w' = w := by
  obtain ⟨a, cap, rfl, hr, h1, h2⟩ := h
  unfold maxLen at h2
  by_cases hn : l - xs.length < 0
  · rw [if_pos hn]
    go_enter Try.func69, Try.ntmps69
    go_wp2
    go_ret
    exact ⟨rfl, rfl⟩
  · rw [if_neg hn]
    go_enter Try.func69, Try.ntmps69
    go_wp2
    go_ret
    exact ⟨rfl, rfl⟩

/-- What a count of sizes leaves: below 0 where it is passed. -/
def SzPost (l : Int) (m : Nat) (w : World) (e : Ending) (w' : World) : Prop :=
  ∃ r : Int, e = .returned (.int .i64 r) ∧ ((l - m < 0 ∧ r = -1) ∨ (0 ≤ l - m ∧ r = l - m)) ∧ Below w.heap.size w w'

end Go.Proofs.Ytdcbajejgphlgaa
