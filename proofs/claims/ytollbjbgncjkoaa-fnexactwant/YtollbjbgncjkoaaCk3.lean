
/- The program's copyCheck, isOver, become. -/
import Derived.Test.YtollbjbgncjkoaaCk2
import Derived.Test.YtollbjbgncjkoaaCv
namespace Go.Proofs.Ytollbjbgncjkoaa
open Go.RowKit

set_option maxHeartbeats 2000000 in
theorem isOverV (v : Value) (C : DChk) (w : World) (h : VChk w v C) :
    Calls Try.prog 53 #[v] w fun e w' => e = .returned (.bool (decide (0 < C.ttl) && decide (C.ttl ≤ C.age))) ∧ Below w.heap.size w w' := by
  have hB : ∀ w : World, ∀ o, Below w.heap.size w (w.alloc o) := fun w o => (Below.refl _ w).alloc (Nat.le_refl _) _
  obtain ⟨ov, rfl, ho⟩ := h
  obtain ⟨os, t, m, s, a, f⟩ := C
  simp only
  have HM : ∀ b : Bool, b = (decide (0 < t) && decide (t ≤ a)) → (e : Ending) → e = .returned (.bool b) → e = Ending.returned (.bool (decide (0 < t) && decide (t ≤ a))) := fun b hb e he => by rw [he, hb]
  clear ho
  go_enter Try.func53, Try.ntmps53
  by_cases h1 : 0 < t
  · by_cases h2 : t ≤ a
    · go_wp2
      go_ret
      exact ⟨HM true (by simp [h1, h2]) _ rfl, hB _ _⟩
    · go_wp2
      go_ret
      exact ⟨HM false (by simp [h2]) _ rfl, hB _ _⟩
  · go_wp2
    go_ret
    exact ⟨HM false (by simp; omega) _ rfl, hB _ _⟩

end Go.Proofs.Ytollbjbgncjkoaa
