
/- The size of a slice of bytes, counted down. -/
import Derived.Test.YtnklnhnjmikooaaGreatCmp2
import Derived.Test.YtnklnhnjmikooaaGreatVal0
import Derived.Test.YtnklnhnjmikooaaGreatCmp
import Derived.Test.YtnklnhnjmikooaaGreatOp0
import Derived.Test.YtnklnhnjmikooaaGreatSz1
namespace Go.Proofs.YtnklnhnjmikooaaGreat
open Go.RowKit

theorem eqV (v u : Value) (xs ys : List Int) (w : World) (h : RV w v xs) (k : RV w u ys) (hn : xs.length ≤ 2097152) :
    Calls Tryz.prog 96 #[v, u] w fun e w' => e = .returned (.bool (decide (xs = ys))) ∧ ∃ q, w' = w.drewN q := by
  obtain ⟨a, cap, rfl, hr, _, _⟩ := h
  obtain ⟨b, cap', rfl, hs, _, _⟩ := k
  exact eqB a b xs.length ys.length cap cap' xs ys w hr hs hn

/-- What is alike. -/
theorem eqV_yes (v u : Value) (xs : List Int) (w : World) (h : RV w v xs) (k : RV w u xs) (hn : xs.length ≤ 2097152) :
    Calls Tryz.prog 96 #[v, u] w fun e w' => e = .returned (.bool true) ∧ ∃ q, w' = w.drewN q := by
  have := eqV v u xs xs w h k hn
  simpa using this

end Go.Proofs.YtnklnhnjmikooaaGreat

namespace Go.Proofs.YtnklnhnjmikooaaGreat
open Go.RowKit

theorem toV (v : Value) (xs : List Int) (w : World) (h : RV w v xs) (hn : xs.length ≤ 1048576) :
    Calls Tryz.prog 99 #[v] w fun e w' => ∃ v', e = .returned v' ∧ Ow w' w.heap.size v' xs ∧ Below w.heap.size w w' := by
  obtain ⟨a, cap, rfl, hr, _, _⟩ := h
  exact (toB a xs.length cap xs w hr hn).mono fun e w' ⟨h1, h2, h3⟩ => ⟨_, h1, h2, h3⟩

end Go.Proofs.YtnklnhnjmikooaaGreat

namespace Go.Proofs.YtnklnhnjmikooaaGreat
open Go.RowKit

set_option maxHeartbeats 1000000 in
theorem szB (v : Value) (xs : List Int) (l : Int) (w : World) (h : RV w v xs) (hl0 : 0 ≤ l) (hl : l ≤ 1048576) :
    Calls Tryz.prog 97 #[v, .int .i64 l] w fun e w' => e = .returned (.int .i64 (if l - xs.length < 0 then -1 else l - xs.length)) ∧ w' = w := by
  obtain ⟨a, cap, rfl, hr, h1, h2⟩ := h
  unfold maxLen at h2
  by_cases hn : l - xs.length < 0
  · rw [if_pos hn]
    go_enter Tryz.func97, Tryz.ntmps97
    go_wp2
    go_ret
    exact ⟨rfl, rfl⟩
  · rw [if_neg hn]
    go_enter Tryz.func97, Tryz.ntmps97
    go_wp2
    go_ret
    exact ⟨rfl, rfl⟩

end Go.Proofs.YtnklnhnjmikooaaGreat

