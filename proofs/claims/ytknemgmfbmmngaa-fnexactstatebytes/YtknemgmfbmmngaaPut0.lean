/- Pieces of the program's PutNum and PutText: an array of five bytes cut, two or three lists joined. -/
import Derived.Test.YtknemgmfbmmngaaNumB
import Derived.Test.YtknemgmfbmmngaaConc
namespace Go.Proofs.Ytknemgmfbmmngaa
open Go.RowKit

theorem rd_take {w : World} {g : Nat} {cs : Array Value} {ds : List Int} {k : Nat} {t : TypeId} (hcs : cs.toList = B8 ds) (hk : k ≤ ds.length) (hr : ∀ x ∈ ds, 0 ≤ x ∧ x ≤ 255)
    (hg : w.heap[g]? = some (.cells cs t (0, 0))) : Rd w (some ⟨g, 0, none⟩) k (ds.take k) := by
  refine ⟨by simp; omega, fun i hi => ⟨g, 0, rfl, ?_⟩, fun x hx => hr x (List.mem_of_mem_take hx)⟩
  rw [Nat.zero_add, cell_of_row w g i cs t (0, 0) hg]
  have : cs[i]? = (B8 ds)[i]? := by rw [← hcs]; simp
  rw [this]
  simp [List.getD, hi, show i < ds.length by omega]

/-- Two lists, three lists, as 'cat' has them. -/
def two {α : Type} (a b : α) : Nat → α := fun j => if j = 0 then a else b
def three {α : Type} (a b c : α) : Nat → α := fun j => if j = 0 then a else if j = 1 then b else c

theorem cat_two (x y : List Int) : cat (two x y) 2 = x ++ y := by simp [cat, two]
theorem cat_three (x y z : List Int) : cat (three x y z) 3 = x ++ y ++ z := by simp [cat, three]

theorem sl5 (g k : Nat) (hk : k ≤ 5) (w : World) :
    (Instr.sliceAt 110 (.pointer (some ⟨g, 0, none⟩)) none (some (.int .i64 (k : Int))) none).run Try.prog w = .ok (.slice (some ⟨g, 0, none⟩) k 5) w := by
  have h5 : ((k : Int)) ≤ 5 := by omega
  simp [Instr.sliceAt, Instr.sureAddr, run_underlying Try.underlying110, Instr.sliceBounds, run_sliceBound, h5, Addr.add]

end Go.Proofs.Ytknemgmfbmmngaa
