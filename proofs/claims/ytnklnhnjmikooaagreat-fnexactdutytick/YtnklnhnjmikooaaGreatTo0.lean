
/- Slices of structs that the call made: what stands in the block, and stores into it. It holds over every program. -/
import Derived.Test.YtnklnhnjmikooaaGreatSt0
namespace Go.Proofs.YtnklnhnjmikooaaGreat
open Go.RowKit

theorem rv_rng {w : World} {v : Value} {xs : List Int} (h : RV w v xs) : ∀ x ∈ xs, 0 ≤ x ∧ x ≤ 255 := by
  obtain ⟨_, _, _, hr, _, _⟩ := h
  exact hr.rng

/-- The block g holds n elements of k cells; those ahead of m are F's. -/
def Blk (w : World) (g : Nat) (t : TypeId) (k n m : Nat) (F : Nat → Nat → Value) : Prop :=
  ∃ cur : Array Value, w.heap[g]? = some (.cells cur t (0, 0)) ∧ cur.size = n * k ∧ ∀ i, i < m → ∀ j, j < k → cur[i * k + j]? = some (F i j)

theorem blk_kept {w w' : World} {g : Nat} {t : TypeId} {k n m : Nat} {F : Nat → Nat → Value} (h : Blk w g t k n m F) (hb : w'.heap[g]? = w.heap[g]?) : Blk w' g t k n m F := by
  obtain ⟨cur, h1, h2, h3⟩ := h
  exact ⟨cur, hb.trans h1, h2, h3⟩
theorem blk_lt {w : World} {g : Nat} {t : TypeId} {k n m : Nat} {F : Nat → Nat → Value} (h : Blk w g t k n m F) : g < w.heap.size := by
  obtain ⟨cur, h1, _⟩ := h
  exact (Array.getElem?_eq_some_iff.1 h1).1
/-- A cell that is stored into. -/
theorem blk_cell {w : World} {g : Nat} {t : TypeId} {k n m : Nat} {F : Nat → Nat → Value} (h : Blk w g t k n m F) (x : Nat) (hx : x < n * k) : (∃ u, w.cell? ⟨g, x, none⟩ = some u) ∧ w.frozen? ⟨g, x, none⟩ = false := by
  obtain ⟨cur, h1, h2, _⟩ := h
  have := at_block h1 x cur[x] (Array.getElem?_eq_getElem (by omega))
  exact ⟨⟨_, this.1⟩, this.2⟩
theorem blk_set {w : World} {g : Nat} {t : TypeId} {k n m : Nat} {F : Nat → Nat → Value} (h : Blk w g t k n m F) (x : Nat) (hx : m * k ≤ x) (u : Value) : Blk (w.setCell ⟨g, x, none⟩ u) g t k n m F := by
  obtain ⟨cur, h1, h2, h3⟩ := h
  refine ⟨_, set_block h1 x u, by simp [h2], fun i hi j hj => ?_⟩
  rw [Array.getElem?_setIfInBounds, if_neg]
  · exact h3 i hi j hj
  · have : (i + 1) * k ≤ m * k := Nat.mul_le_mul_right k hi
    rw [Nat.succ_mul] at this
    omega
/-- The next element, all its cells stored: what is known of them cell by cell. -/
theorem blk_next {w : World} {g : Nat} {t : TypeId} {k n m : Nat} {F : Nat → Nat → Value} (h : Blk w g t k n m F) (G : Nat → Value) (hG : ∀ j, j < k → w.cell? ⟨g, m * k + j, none⟩ = some (G j)) : Blk w g t k n (m + 1) (fun i j => if i = m then G j else F i j) := by
  obtain ⟨cur, h1, h2, h3⟩ := h
  refine ⟨cur, h1, h2, fun i hi j hj => ?_⟩
  by_cases e : i = m
  · subst e
    simp only [if_pos]
    have := hG j hj
    rw [cell_of_row w g _ cur t (0, 0) h1] at this
    exact this
  · simp only [if_neg e]
    exact h3 i (by omega) j hj
/-- A whole block reads as a slice. -/
theorem blk_SL {w : World} {g : Nat} {t : TypeId} {k n : Nat} {F : Nat → Nat → Value} (h : Blk w g t k n n F) (hm : n ≤ maxLen) : SL w k (.slice (some ⟨g, 0, none⟩) n n) n F := by
  have hl := blk_lt h
  obtain ⟨cur, h1, h2, h3⟩ := h
  refine ⟨_, n, rfl, Nat.le_refl _, hm, fun _ => ⟨g, 0, rfl, hl, fun i hi j hj => ?_⟩⟩
  rw [Nat.zero_add, cell_of_row w g _ cur t (0, 0) h1]
  exact h3 i hi j hj
theorem blk_made {w : World} {g : Nat} {t : TypeId} {k n : Nat} {xs : List Value} {base : Nat} {F : Nat → Nat → Value} (h : w.ownsRow base t k (.slice (some ⟨g, 0, none⟩) n n) n xs) : Blk w g t k n 0 F := by
  rcases h.2 with ⟨h0, _⟩ | ⟨g', cap, cur, hv, _, hg, _, _, hs, _⟩
  · cases h0
  · simp only [Value.slice.injEq, Option.some.injEq, Addr.mk.injEq, and_true] at hv
    obtain ⟨rfl, _, rfl⟩ := hv
    exact ⟨cur, hg, hs, fun i hi => absurd hi (by omega)⟩

end Go.Proofs.YtnklnhnjmikooaaGreat
