/- Small words that many walks share. -/
import Derived.Test.YtplgnohncdfgcalIState
import Derived.Test.YtplgnohncdfgcalMkB
namespace Go.Proofs.Ytplgnohncdfgcal
open Go.RowKit

theorem h2_0 (w : World) (a b : Obj) : ((w.alloc a).alloc b).heap[w.heap.size]? = some a := by
  rw [Below.heap_alloc _ _ _ (by simp), heap_alloc_new]
theorem h2_1 (w : World) (a b : Obj) : ((w.alloc a).alloc b).heap[w.heap.size + 1]? = some b := by
  have := heap_alloc_new (w.alloc a) b
  simpa using this

/-- What a StateOk must answer. -/
def SaysOk (f : FuncId) : Prop := ∀ (v : Value) (S : DState) (w : World), VState w v S → Calls Try.prog f #[v] w fun e w' => e = .returned (.bool (tB (StP S))) ∧ Below w.heap.size w w'

theorem ow_shape {w : World} {base : Nat} {v : Value} {xs : List Int} (h : Ow w base v xs) : ∃ a c, v = .slice a xs.length c := by
  rcases h.2 with ⟨rfl, h0⟩ | ⟨g, cap, cur, rfl, _⟩
  · exact ⟨none, 0, by rw [h0]⟩
  · exact ⟨_, cap, rfl⟩
theorem below_own' {B base : Nat} {w0 w w' : World} {v : Value} {xs : List Int} (hb : Below B w0 w) (hs : B ≤ w.heap.size) (ho : Ow w base v xs) (hB : B ≤ base) (hg : w.grownBy w' v.ownBlock) : Below B w0 w' :=
  hb.grown hg hs (fun k hk => Nat.le_trans hB (ho.lt k hk).1)

theorem mid_of_grown {lo hi : Nat} {row : Option Nat} {w w' : World} (h : w.grownBy w' row) (hr : ∀ k, row = some k → lo ≤ k ∧ k < hi) : Mid lo hi w w' :=
  ⟨h.os, h.tape, h.output, h.size, fun k hk ho => h.block k hk (fun e => by have := hr k e.symm; omega)⟩
theorem ow_mid {lo hi base : Nat} {w w' : World} {v : Value} {xs : List Int} (h : Ow w base v xs) (m : Mid lo hi w w') (ho : ∀ k, v.ownBlock = some k → k < lo ∨ hi ≤ k) : Ow w' base v xs := by
  refine ⟨h.1, ?_⟩
  rcases h.2 with h2 | ⟨g, cap, cur, rfl, h1, h2, h3, h4, h5, h6⟩
  · exact .inl h2
  · exact .inr ⟨g, cap, cur, rfl, h1, (m.out g (Array.getElem?_eq_some_iff.1 h2).1 (ho g rfl)).trans h2, h3, h4, h5, h6⟩

end Go.Proofs.Ytplgnohncdfgcal
