
/- One struct, made as a slice of one. -/
import Derived.Test.YtollbjbgncjkoaaRowG
namespace Go.Proofs.Ytollbjbgncjkoaa
open Go.RowKit

theorem cells2S {w : World} {g : Nat} {v0 v1 : Value} {t : TypeId} (h : w.heap[g]? = some (.cells #[v0, v1] t (0, 0))) : (w.cell? ⟨g, 0, none⟩ = some v0 ∧ w.cell? ⟨g, 1, none⟩ = some v1) ∧ w.frozen? ⟨g, 0, none⟩ = false ∧ w.frozen? ⟨g, 1, none⟩ = false := ⟨⟨(at_block h 0 _ rfl).1, (at_block h 1 _ rfl).1⟩, (at_block h 0 _ rfl).2, (at_block h 1 _ rfl).2⟩
def elem6 (a0 a1 a2 a3 a4 a5 : Value) : Nat → Nat → Value := fun _ q => if q = 0 then a0 else if q = 1 then a1 else if q = 2 then a2 else if q = 3 then a3 else if q = 4 then a4 else a5
def elem2 (a0 a1 : Value) : Nat → Nat → Value := fun _ q => if q = 0 then a0 else a1
theorem elem6_src (w : World) (t : TypeId) (a0 a1 a2 a3 a4 a5 : Value) : Src 6 (w.alloc (.cells #[a0, a1, a2, a3, a4, a5] t)) (some ⟨w.heap.size, 0, none⟩) 1 (elem6 a0 a1 a2 a3 a4 a5) := fun _ => ⟨_, rfl, fun i hi q hq => by
  have hp := heap_alloc_new w (.cells #[a0, a1, a2, a3, a4, a5] t)
  obtain rfl : i = 0 := by omega
  rw [Addr.add_lit, Nat.zero_mul, Nat.zero_add, Nat.zero_add]
  obtain rfl | rfl | rfl | rfl | rfl | rfl : q = 0 ∨ q = 1 ∨ q = 2 ∨ q = 3 ∨ q = 4 ∨ q = 5 := by omega
  · exact (at_block hp 0 _ rfl).1
  · exact (at_block hp 1 _ rfl).1
  · exact (at_block hp 2 _ rfl).1
  · exact (at_block hp 3 _ rfl).1
  · exact (at_block hp 4 _ rfl).1
  · exact (at_block hp 5 _ rfl).1⟩
theorem elem2_src (w : World) (t : TypeId) (a0 a1 : Value) : Src 2 (w.alloc (.cells #[a0, a1] t)) (some ⟨w.heap.size, 0, none⟩) 1 (elem2 a0 a1) := fun _ => ⟨_, rfl, fun i hi q hq => by
  have hp := heap_alloc_new w (.cells #[a0, a1] t)
  obtain rfl : i = 0 := by omega
  rw [Addr.add_lit, Nat.zero_mul, Nat.zero_add, Nat.zero_add]
  obtain rfl | rfl : q = 0 ∨ q = 1 := by omega
  · exact (at_block hp 0 _ rfl).1
  · exact (at_block hp 1 _ rfl).1⟩
theorem elem6_one {a : Option Addr} {n c : Nat} {z1 z2 z3 z4 z5 : Int} : ∀ i, i < 1 → ∀ q, q < 6 → (elem6 (.slice a n c) (.int .i64 z1) (.int .i64 z2) (.int .i64 z3) (.int .i64 z4) (.int .i64 z5) i q).oneCell' = true := fun i _ q hq => by
  obtain rfl | rfl | rfl | rfl | rfl | rfl : q = 0 ∨ q = 1 ∨ q = 2 ∨ q = 3 ∨ q = 4 ∨ q = 5 := by omega
  all_goals rfl
theorem elem2_one {a b : Option Addr} {n c m d : Nat} : ∀ i, i < 1 → ∀ q, q < 2 → (elem2 (.slice a n c) (.slice b m d) i q).oneCell' = true := fun i _ q hq => by
  obtain rfl | rfl : q = 0 ∨ q = 1 := by omega
  all_goals rfl
theorem takeL {α : Type} {xs : List α} {k : Nat} {x : α} (h : xs[k]? = some x) : xs.take (k + 1) = xs.take k ++ [x] := by
  rw [List.take_add_one, h]
  rfl

end Go.Proofs.Ytollbjbgncjkoaa
