
/- The specification's l13tick at an element of a row. -/
import Derived.Test.YtjkhadaoldbceaaOwP
import Derived.Test.YtjkhadaoldbceaaOwC
import Derived.Test.YtjkhadaoldbceaaCk4
namespace Go.Proofs.Ytjkhadaoldbceaa
open Go.RowKit

/-- A check's cells. -/
def elC (nv : Value) (C : DChk) : Nat → Value := fun c => if c = 0 then nv else if c = 1 then .int .i64 C.ttl else if c = 2 then .int .i64 C.most else if c = 3 then .int .i64 C.st else if c = 4 then .int .i64 C.age else .int .i64 C.fails
/-- Element i of the row in block g reads as C, its name's value nv; the others as F. -/
def ElB (g cap m i : Nat) (F : Nat → Nat → Value) (nv : Value) (C : DChk) (w : World) : Prop := (i < m ∧ m ≤ cap) ∧ Blk w g 43 6 cap m (updR F i (elC nv C))
section
variable {g cap m i : Nat} {F : Nat → Nat → Value} {nv : Value} {C : DChk} {w : World}
theorem ElB.cell (h : ElB g cap m i F nv C w) (c : Nat) (hc : c < 6) : w.cell? ⟨g, i * 6 + c, none⟩ = some (elC nv C c) := by
  obtain ⟨cur, h1, _, h3⟩ := h.2
  rw [cell_of_row w g _ cur _ (0, 0) h1]
  have := h3 i h.1.1 c hc
  rw [updR_at] at this
  exact this
theorem ElB.cells (h : ElB g cap m i F nv C w) : w.cell? ⟨g, i * 6, none⟩ = some nv ∧ w.cell? ⟨g, i * 6 + 1, none⟩ = some (.int .i64 C.ttl) ∧ w.cell? ⟨g, i * 6 + 2, none⟩ = some (.int .i64 C.most) ∧ w.cell? ⟨g, i * 6 + 3, none⟩ = some (.int .i64 C.st) ∧ w.cell? ⟨g, i * 6 + 4, none⟩ = some (.int .i64 C.age) ∧ w.cell? ⟨g, i * 6 + 5, none⟩ = some (.int .i64 C.fails) :=
  ⟨h.cell 0 (by omega), h.cell 1 (by omega), h.cell 2 (by omega), h.cell 3 (by omega), h.cell 4 (by omega), h.cell 5 (by omega)⟩
theorem ElB.fz (h : ElB g cap m i F nv C w) : w.frozen? ⟨g, i * 6 + 3, none⟩ = false ∧ w.frozen? ⟨g, i * 6 + 4, none⟩ = false := by
  have hle : (i + 1) * 6 ≤ cap * 6 := Nat.mul_le_mul_right 6 (by have := h.1; omega)
  exact ⟨(blk_cell h.2 (i * 6 + 3) (by omega)).2, (blk_cell h.2 (i * 6 + 4) (by omega)).2⟩
theorem ElB.drew (h : ElB g cap m i F nv C w) (q : Nat) : ElB g cap m i F nv C (w.drewN q) := ⟨h.1, blk_kept h.2 rfl⟩
theorem ElB.st (h : ElB g cap m i F nv C w) (s : Int) : ElB g cap m i F nv ⟨C.name, C.ttl, C.most, s, C.age, C.fails⟩ (w.setCell ⟨g, i * 6 + 3, none⟩ (.int .i64 s)) ∧ w.grownBy (w.setCell ⟨g, i * 6 + 3, none⟩ (.int .i64 s)) (some g) := by
  refine ⟨⟨h.1, blk_congr (blk_put h.2 i 3 (by have := h.1; omega) (by omega) (.int .i64 s)) fun a ha c hc => ?_⟩, set_grown _ _ _ _⟩
  by_cases e : a = i
  · subst e
    obtain rfl | rfl | rfl | rfl | rfl | rfl : c = 0 ∨ c = 1 ∨ c = 2 ∨ c = 3 ∨ c = 4 ∨ c = 5 := by omega
    all_goals simp [updK, updR, elC]
  · simp [updK, updR, e]
theorem ElB.age (h : ElB g cap m i F nv C w) (s : Int) : ElB g cap m i F nv ⟨C.name, C.ttl, C.most, C.st, s, C.fails⟩ (w.setCell ⟨g, i * 6 + 4, none⟩ (.int .i64 s)) ∧ w.grownBy (w.setCell ⟨g, i * 6 + 4, none⟩ (.int .i64 s)) (some g) := by
  refine ⟨⟨h.1, blk_congr (blk_put h.2 i 4 (by have := h.1; omega) (by omega) (.int .i64 s)) fun a ha c hc => ?_⟩, set_grown _ _ _ _⟩
  by_cases e : a = i
  · subst e
    obtain rfl | rfl | rfl | rfl | rfl | rfl : c = 0 ∨ c = 1 ∨ c = 2 ∨ c = 3 ∨ c = 4 ∨ c = 5 := by omega
    all_goals simp [updK, updR, elC]
  · simp [updK, updR, e]
end

end Go.Proofs.Ytjkhadaoldbceaa
