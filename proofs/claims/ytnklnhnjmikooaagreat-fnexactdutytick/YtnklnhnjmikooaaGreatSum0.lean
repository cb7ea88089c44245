
/- Sums over lists; propositions as bools. It holds over every program. -/
import Derived.Test.YtnklnhnjmikooaaGreatBase
namespace Go.Proofs.YtnklnhnjmikooaaGreat

theorem sum_next {α : Type} (f : α → Nat) (rs : List α) (k : Nat) (r : α) (h : rs[k]? = some r) : ((rs.take (k + 1)).map f).sum = ((rs.take k).map f).sum + f r := by
  rw [List.take_add_one, h]
  simp
theorem sum_take {α : Type} (f : α → Nat) (rs : List α) (k : Nat) : ((rs.take k).map f).sum ≤ (rs.map f).sum := by
  have h : rs.map f = (rs.take k).map f ++ (rs.drop k).map f := by rw [← List.map_append, List.take_append_drop]
  rw [h, List.sum_append]
  omega
theorem sum_mem {α : Type} (f : α → Nat) (rs : List α) (k : Nat) (r : α) (h : rs[k]? = some r) : f r ≤ (rs.map f).sum := by
  have := sum_take f rs (k + 1)
  rw [sum_next f rs k r h] at this
  omega

/-- A proposition as a bool. -/
def tB (p : Prop) (h : Decidable p := Classical.propDecidable p) : Bool := @decide p h
theorem tB_true {p : Prop} (h : p) : tB p = true := by unfold tB; simpa using h
theorem tB_false {p : Prop} (h : ¬ p) : tB p = false := by unfold tB; simpa using h
theorem tB_iff {p : Prop} : tB p = true ↔ p := by unfold tB; simp
theorem tB_congr {p q : Prop} (h : p ↔ q) : tB p = tB q := by rw [propext h]

end Go.Proofs.YtnklnhnjmikooaaGreat
