
/- Lists of numbers: what they read as. -/
import Derived.Test.YtmodliaieienfaaTo0
import Derived.Test.YtmodliaieienfaaInf
namespace Go.Proofs.Ytmodliaieienfaa
open Go.RowKit

/-- The slice v reads as the list xs, each shown by f in a cell of its own. -/
def VL {α : Type} (f : α → Value) (w : World) (v : Value) (xs : List α) : Prop :=
  ∃ a cap, v = .slice a xs.length cap ∧ xs.length ≤ cap ∧ cap ≤ maxLen ∧ (0 < xs.length → ∃ b o, a = some ⟨b, o, none⟩ ∧ b < w.heap.size ∧ ∀ (i : Nat) (x : α), xs[i]? = some x → w.cell? ⟨b, o + i, none⟩ = some (f x))
theorem VL.ext {α : Type} {f : α → Value} {w w' : World} {v : Value} {xs : List α} (h : VL f w v xs) (e : Ext w w') : VL f w' v xs := by
  obtain ⟨a, cap, hv, h1, h2, h3⟩ := h
  refine ⟨a, cap, hv, h1, h2, fun hn => ?_⟩
  obtain ⟨b, o, ha, hb, hc⟩ := h3 hn
  exact ⟨b, o, ha, Nat.lt_of_lt_of_le hb e.size, fun i x hx => World.grownBy.cell e (hc i x hx) (by simp)⟩
def fI (x : Int) : Value := .int .i64 x
def fB (x : Bool) : Value := .bool x
/-- A block that a call made holds just this list. -/
def OVL {α : Type} (f : α → Value) (t : TypeId) (w : World) (g : Nat) (xs : List α) : Prop := w.heap[g]? = some (.cells (xs.map f).toArray t (0, 0))
theorem OVL.v {α : Type} {f : α → Value} {t : TypeId} {w : World} {g : Nat} {xs : List α} (h : OVL f t w g xs) (hm : xs.length ≤ 1048576) : VL f w (.slice (some ⟨g, 0, none⟩) xs.length xs.length) xs := by
  refine ⟨_, xs.length, rfl, Nat.le_refl _, by unfold maxLen; omega, fun _ => ⟨g, 0, rfl, (Array.getElem?_eq_some_iff.1 h).1, fun i x hx => ?_⟩⟩
  rw [Nat.zero_add, cell_of_row w g _ _ t (0, 0) h]
  simp [hx]
theorem vl_shape {α : Type} {f : α → Value} {w : World} {v : Value} {xs : List α} (h : VL f w v xs) : ∃ a cap, v = .slice a xs.length cap := by
  obtain ⟨a, cap, rfl, _⟩ := h
  exact ⟨a, cap, rfl⟩

end Go.Proofs.Ytmodliaieienfaa
