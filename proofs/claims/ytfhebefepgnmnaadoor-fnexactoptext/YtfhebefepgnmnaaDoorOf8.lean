/- The contract of the program's opForms: the table of what each name wants. -/
import Derived.Test.YtfhebefepgnmnaaDoorNm8
import Derived.Test.YtfhebefepgnmnaaDoorWi
namespace Go.Proofs.YtfhebefepgnmnaaDoor
open Go.RowKit

/-- The six functions of the table, k the block of the first of three boxes. -/
def fnNone : Value := .func (Fn.func 31) #[] #[]
def fnKey : Value := .func (Fn.func 32) #[] #[]
def fnNum : Value := .func (Fn.func 34) #[] #[]
def fnKeyNum (k : Nat) : Value := .func (Fn.func 36) #[] #[.pointer (some ⟨k, 0, none⟩), .pointer (some ⟨k + 1, 0, none⟩)]
def fnKeyVal (k : Nat) : Value := .func (Fn.func 38) #[] #[.pointer (some ⟨k, 0, none⟩)]
def fnKeyValNum (k : Nat) : Value := .func (Fn.func 40) #[] #[.pointer (some ⟨k + 2, 0, none⟩), .pointer (some ⟨k + 1, 0, none⟩)]

/-- The table's row. -/
def formsRow (k : Nat) : Array Value := #[.string (nameS 0), fnNone, .string (nameS 1), fnKeyVal k, .string (nameS 2), fnKeyValNum k, .string (nameS 3), fnKey, .string (nameS 4), fnNum, .string (nameS 5), fnNum, .string (nameS 6), fnKeyValNum k, .string (nameS 7), fnKeyNum k]

/-- The table lies in memory, its boxes from block k on. -/
structure Forms (w : World) (k : Nat) : Prop where
  key : ∃ t, w.heap[k]? = some (.cells #[fnKey] t (0, 0))
  num : ∃ t, w.heap[k + 1]? = some (.cells #[fnNum] t (0, 0))
  kv : ∃ t, w.heap[k + 2]? = some (.cells #[fnKeyVal k] t (0, 0))
  row : ∃ t, w.heap[k + 3]? = some (.cells (formsRow k) t (0, 0))

theorem Forms.ext {w w' : World} {k : Nat} (h : Forms w k) (x : Ext w w') : Forms w' k := by
  have g : ∀ {j : Nat} {o : Obj}, w.heap[j]? = some o → w'.heap[j]? = some o := fun {j o} hj => by
    have hlt : j < w.heap.size := (Array.getElem?_eq_some_iff.1 hj).1
    rw [x.block j hlt (by simp)]
    exact hj
  obtain ⟨⟨t1, h1⟩, ⟨t2, h2⟩, ⟨t3, h3⟩, ⟨t4, h4⟩⟩ := h
  exact ⟨⟨t1, g h1⟩, ⟨t2, g h2⟩, ⟨t3, g h3⟩, ⟨t4, g h4⟩⟩

theorem store_fn (P : Program) (W : World) (g : Nat) (f : Fn) (x y : Array Value) (t : TypeId) (hg : g = W.heap.size) : (store ⟨g, 0, none⟩ (.func f x y)).run P (W.alloc (.cells #[.nilFunc] t)) = .ok () (W.alloc (.cells #[.func f x y] t)) := by
  subst hg
  rw [run_store _ _ _ _ _ rfl, World.cell?_alloc_new]
  have hf : (W.alloc (.cells #[.nilFunc] t)).frozen? ⟨W.heap.size, 0, none⟩ = false := World.frozen?_alloc_new _ _ _ _
  simp [hf, World.setCell_alloc_new]

theorem four (w : World) (a b c d : Obj) : ((((w.alloc a).alloc b).alloc c).alloc d).heap[w.heap.size]? = some a ∧ ((((w.alloc a).alloc b).alloc c).alloc d).heap[w.heap.size + 1]? = some b ∧ ((((w.alloc a).alloc b).alloc c).alloc d).heap[w.heap.size + 2]? = some c ∧ ((((w.alloc a).alloc b).alloc c).alloc d).heap[w.heap.size + 3]? = some d := by
  refine ⟨?_, ?_, ?_, ?_⟩
  · rw [Below.heap_alloc _ _ _ (by simp <;> omega), h3_0]
  · rw [Below.heap_alloc _ _ _ (by simp <;> omega), h3_1]
  · rw [Below.heap_alloc _ _ _ (by simp), h3_2]
  · have := heap_alloc_new (((w.alloc a).alloc b).alloc c) d
    simpa using this

set_option maxHeartbeats 1000000 in
theorem opFormsV (w : World) : Calls Tryd.prog 18 #[] w fun e w' => e = .returned (.slice (some ⟨w.heap.size + 3, 0, none⟩) 8 8) ∧ Forms w' w.heap.size ∧ Below w.heap.size w w' := by
  have hst := fun W g f x y t h => store_fn Tryd.prog W g f x y t h
  have HB : Hid (∀ a b c d, Below w.heap.size w ((((w.alloc a).alloc b).alloc c).alloc d)) := fun a b c d => ((((Below.refl _ w).alloc (Nat.le_refl _) _).alloc (by simp) _).alloc (by simp; omega) _).alloc (by simp; omega) _
  go_enter Tryd.func18, Tryd.ntmps18
  go_wp2
  refine bodyPost_ret (v := .slice (some ⟨w.heap.size + 3, 0, none⟩) 8 8) (by simp [results, go_sem]) rfl ?_
  refine ⟨rfl, ?_, HB.out _ _ _ _⟩
  obtain ⟨h0, h1, h2, h3⟩ := four w _ _ _ _
  exact ⟨⟨_, h0⟩, ⟨_, h1⟩, ⟨_, h2⟩, ⟨_, h3⟩⟩

end Go.Proofs.YtfhebefepgnmnaaDoor
