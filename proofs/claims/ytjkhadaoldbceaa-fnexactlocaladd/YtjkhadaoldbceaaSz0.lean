
/- The size of a slice of bytes, counted down. -/
import Derived.Test.YtjkhadaoldbceaaOp0
import Derived.Test.YtjkhadaoldbceaaVal
import Derived.Test.YtjkhadaoldbceaaSz1
namespace Go.Proofs.Ytjkhadaoldbceaa
open Go.RowKit

set_option maxHeartbeats 1000000 in
theorem szB (v : Value) (xs : List Int) (l : Int) (w : World) (h : RV w v xs) (hl0 : 0 ≤ l) (hl : l ≤ 1048576) :
    Calls Try.prog 21 #[v, .int .i64 l] w fun e w' => e = .returned (.int .i64 (if l - xs.length < 0 then -1 else l - xs.length)) ∧ w' = w := by
  obtain ⟨a, cap, rfl, hr, h1, h2⟩ := h
  unfold maxLen at h2
  by_cases hn : l - xs.length < 0
  · rw [if_pos hn]
    go_enter Try.func21, Try.ntmps21
    go_wp2
    go_ret
    exact ⟨rfl, rfl⟩
  · rw [if_neg hn]
    go_enter Try.func21, Try.ntmps21
    go_wp2
    go_ret
    exact ⟨rfl, rfl⟩

end Go.Proofs.Ytjkhadaoldbceaa
