
/- The specification's TableNew. -/
import Derived.Test.YtmodliaieienfaaMs1
namespace Go.Proofs.Ytmodliaieienfaa
open Go.RowKit

/-- What TableNew answers. -/
def newD (s : Int) : DTab × Bool := if 0 ≤ s ∧ s < 12 then (⟨s, [⟨s, 0, 0⟩]⟩, true) else (⟨0, []⟩, false)

set_option maxRecDepth 20000 in
set_option maxHeartbeats 2000000 in
theorem sTableNewV (s : Int) (w : World) :
    Calls Try.prog 40 #[.int .i64 s] w fun e w' => ∃ tv, e = .returned (.tuple #[.agg #[.int .i64 (newD s).1.self, tv], .bool (newD s).2]) ∧ OwMem w' w.heap.size tv (newD s).1.mems ∧ Below w.heap.size w w' := by
  obtain ⟨R, hR⟩ : ∃ R, R = newD s := ⟨_, rfl⟩
  rw [← hR]
  have HR : Hid (R = newD s) := hR
  clear hR
  have hB1 : ∀ o, Below w.heap.size w (w.alloc o) := fun o => (Below.refl _ w).alloc (Nat.le_refl _) _
  by_cases h1 : s < 0
  · have HK : Hid (R = (⟨0, []⟩, false)) := by show _ = _; rw [HR.out]; unfold newD; rw [if_neg (by omega)]
    have h1' : decide (s < 0) = true := decide_eq_true h1
    go_enter Try.func40, Try.ntmps40
    go_wp2
    refine bodyPost_ret (v := .tuple #[.agg #[.int .i64 0, .slice none 0 0], .bool false]) (by simp [results, Try.results40, go_sem, *]) rfl ?_
    rw [HK.out]
    exact ⟨_, rfl, OwMem.nil _ _, by repeat (first | exact hB1 _ | (refine Below.setCell ?_ (by simp) _))⟩
  have h1' : decide (s < 0) = false := decide_eq_false h1
  by_cases h2 : 12 ≤ s
  · have HK : Hid (R = (⟨0, []⟩, false)) := by show _ = _; rw [HR.out]; unfold newD; rw [if_neg (by omega)]
    have h2' : decide (s ≥ 12) = true := decide_eq_true h2
    go_enter Try.func40, Try.ntmps40
    go_wp2
    refine bodyPost_ret (v := .tuple #[.agg #[.int .i64 0, .slice none 0 0], .bool false]) (by simp [results, Try.results40, go_sem, *]) rfl ?_
    rw [HK.out]
    exact ⟨_, rfl, OwMem.nil _ _, by repeat (first | exact hB1 _ | (refine Below.setCell ?_ (by simp) _))⟩
  have h2' : decide (s ≥ 12) = false := decide_eq_false h2
  have HK : Hid (R = (⟨s, [⟨s, 0, 0⟩]⟩, true)) := by show _ = _; rw [HR.out]; unfold newD; rw [if_pos (by omega)]
  clear h1 h2
  go_enter Try.func40, Try.ntmps40
  go_wp2
  refine bodyPost_ret (v := .tuple #[.agg #[.int .i64 s, .slice (some ⟨w.heap.size + 1, 0, none⟩) 1 1], .bool true]) (by simp [results, Try.results40, go_sem, *]) rfl ?_
  rw [HK.out]
  have O : ∀ W : World, W.heap[w.heap.size + 1]? = some (.cells #[.int .i64 s, .int .i64 0, .int .i64 0] 40 (0, 0)) → OwMem W w.heap.size (.slice (some ⟨w.heap.size + 1, 0, none⟩) 1 1) [⟨s, 0, 0⟩] := fun W hW => ⟨rfl, .inr ⟨w.heap.size + 1, 1, _, rfl, by omega, hW, Nat.le_refl _, by unfold maxLen; decide, rfl, rfl⟩⟩
  exact ⟨_, rfl, O _ (by simpa using heap_alloc_new (w.alloc _) _), ((Below.refl _ w).alloc (Nat.le_refl _) _).alloc (by simp) _⟩

end Go.Proofs.Ytmodliaieienfaa
