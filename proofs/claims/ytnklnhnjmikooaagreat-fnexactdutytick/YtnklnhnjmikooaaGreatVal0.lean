
/- What a value of type []byte reads as, and what it owns, while memory grows. It holds over every program. -/
import Derived.Test.YtnklnhnjmikooaaGreatBytes
import Derived.WalkSmall
namespace Go.Proofs.YtnklnhnjmikooaaGreat
open Go.RowKit

/-- The value v is a slice that reads as the bytes xs. -/
def RV (w : World) (v : Value) (xs : List Int) : Prop := ∃ a cap, v = .slice a xs.length cap ∧ Rd w a xs.length xs ∧ xs.length ≤ cap ∧ cap ≤ maxLen

/-- Memory has grown, and nothing that was there has turned. -/
abbrev Ext (w w' : World) : Prop := w.grownBy w' none

theorem ext_below {w w' : World} (h : Below w.heap.size w w') : Ext w w' := ⟨h.os, h.tape, h.output, h.size, fun k hk _ => h.block k hk⟩
theorem ext_drewN (w : World) (q : Nat) : Ext w (w.drewN q) := ⟨rfl, rfl, rfl, Nat.le_refl _, fun _ _ _ => rfl⟩
theorem Ext.tr {a b c : World} (h : Ext a b) (k : Ext b c) : Ext a c :=
  ⟨k.os.trans h.os, k.tape.trans h.tape, k.output.trans h.output, Nat.le_trans h.size k.size, fun i hi e => (k.block i (Nat.lt_of_lt_of_le hi h.size) e).trans (h.block i hi e)⟩
theorem RV.ext {w w' : World} {v : Value} {xs : List Int} (h : RV w v xs) (k : Ext w w') : RV w' v xs := by
  obtain ⟨a, cap, hv, hr, h1, h2⟩ := h
  exact ⟨a, cap, hv, hr.grown k, h1, h2⟩
theorem Ow.ext {w w' : World} {base : Nat} {v : Value} {xs : List Int} (h : Ow w base v xs) (k : Ext w w') : Ow w' base v xs :=
  h.kept k (by cases hv : v.ownBlock <;> simp)
theorem Ow.rv {w : World} {base : Nat} {v : Value} {xs : List Int} (h : Ow w base v xs) (hr : ∀ x ∈ xs, 0 ≤ x ∧ x ≤ 255) : RV w v xs := by
  rcases h.2 with ⟨rfl, h0⟩ | ⟨g, cap, cur, rfl, hb, hg, hnc, hcm, hcs, htake⟩
  · have : xs = [] := List.eq_nil_of_length_eq_zero h0
    subst this
    exact ⟨none, 0, rfl, Rd.nil _ _, Nat.le_refl _, Nat.zero_le _⟩
  · refine ⟨_, cap, rfl, ⟨rfl, fun i hi => ⟨g, 0, rfl, ?_⟩, hr⟩, hnc, hcm⟩
    rw [Nat.zero_add, h.cellAt i (by omega)]
    simp [List.getD, hi]

/-- Two values, the second made when the first already lay there. -/
theorem apart_of {w w' : World} {b1 b2 : Nat} {v1 v2 : Value} {xs ys : List Int} (h1 : Ow w b1 v1 xs) (hle : w.heap.size ≤ b2) (h2 : Ow w' b2 v2 ys) : v1.ownBlock = none ∨ v1.ownBlock ≠ v2.ownBlock := by
  cases e1 : v1.ownBlock with
  | none => exact .inl rfl
  | some k =>
    right
    intro e2
    have := (h1.lt k e1).2
    have := (h2.lt k e2.symm).1
    omega
theorem apart_of' {w w' : World} {b1 b2 : Nat} {v1 v2 : Value} {xs ys : List Int} (h1 : Ow w b1 v1 xs) (hle : w.heap.size ≤ b2) (h2 : Ow w' b2 v2 ys) : v2.ownBlock = none ∨ v2.ownBlock ≠ v1.ownBlock := by
  cases e1 : v2.ownBlock with
  | none => exact .inl rfl
  | some k =>
    right
    intro e2
    have := (h1.lt k e2.symm).2
    have := (h2.lt k e1).1
    omega

theorem below_mark {B base : Nat} {w0 w w' : World} {v : Value} {xs : List Int} (hb : Below B w0 w) (hB : B ≤ base) (ho : Ow w base v xs) (hs : B ≤ w.heap.size) (hg : w.grownBy w' v.ownBlock) : Below B w0 w' :=
  hb.grown hg hs (fun k hk => Nat.le_trans hB (ho.lt k hk).1)

end Go.Proofs.YtnklnhnjmikooaaGreat
