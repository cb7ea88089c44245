/- Bytes that are put behind one another: the specification's PutNum and PutText told of values. -/
import Derived.Test.YtknemgmfbmmngaaSPutT
import Derived.Test.YtknemgmfbmmngaaOp0
import Derived.Deep.RegionHeld3
namespace Go.Proofs.Ytknemgmfbmmngaa
open Go.RowKit

theorem textL_le (xs ys : List Int) : (textL xs ys).length ≤ xs.length + 25 := by
  unfold textL
  have := numL_len (ys.length : Int)
  split
  · simp only [List.length_append]; omega
  · omega
theorem putL_le (xs : List Int) (q : Int) : (xs ++ numL q).length ≤ xs.length + 5 := by
  have := numL_len q
  simp only [List.length_append]; omega
theorem RV.rng {w : World} {v : Value} {xs : List Int} (h : RV w v xs) : ∀ x ∈ xs, 0 ≤ x ∧ x ≤ 255 := by
  obtain ⟨a, cap, rfl, hr, _, _⟩ := h
  exact hr.rng
theorem putL_rng {xs : List Int} (h : ∀ x ∈ xs, 0 ≤ x ∧ x ≤ 255) (q : Int) : ∀ x ∈ xs ++ numL q, 0 ≤ x ∧ x ≤ 255 := by
  intro x hx
  rcases List.mem_append.1 hx with h1 | h1
  · exact h x h1
  · exact numL_rng q x h1

/-- What a call that makes bytes leaves. -/
def PutPost (w : World) (zs : List Int) (e : Ending) (w' : World) : Prop := ∃ v', e = .returned v' ∧ RV w' v' zs ∧ Ow w' w.heap.size v' zs ∧ Below w.heap.size w w'

theorem sPutV (v : Value) (xs : List Int) (q : Int) (w : World) (h : RV w v xs) (hn : xs.length ≤ 2097152) : Calls Try.prog 49 #[v, .int .i64 q] w (PutPost w (xs ++ numL q)) := by
  have hr := putL_rng h.rng q
  obtain ⟨a, cap, rfl, hd, _, _⟩ := h
  exact (sPut a xs.length cap xs q w hd hn).mono fun e w' ⟨v', h1, h2, h3⟩ => ⟨v', h1, h2.rv hr, h2, h3⟩
theorem sPutTV (v u : Value) (xs ys : List Int) (w : World) (h : RV w v xs) (k : RV w u ys) (hn : xs.length ≤ 2097152) (hm : ys.length ≤ 2097152) : Calls Try.prog 50 #[v, u] w (PutPost w (textL xs ys)) := by
  have hr := textL_rng h.rng k.rng
  obtain ⟨a, cap, rfl, hd, _, _⟩ := h
  obtain ⟨b, cap', rfl, hd', _, _⟩ := k
  exact (sPutT a b xs.length cap ys.length cap' xs ys w hd hd' hn hm).mono fun e w' ⟨v', h1, h2, h3⟩ => ⟨v', h1, h2.rv hr, h2, h3⟩

theorem cells4 {w w' : World} {g : Nat} {v0 v1 v2 v3 : Value} {t : TypeId} (h : w.heap[g]? = some (.cells #[v0, v1, v2, v3] t (0, 0))) (b : Below w.heap.size w w') :
    w'.heap[g]? = some (.cells #[v0, v1, v2, v3] t (0, 0)) ∧ w'.cell? ⟨g, 0, none⟩ = some v0 ∧ w'.cell? ⟨g, 1, none⟩ = some v1 ∧ w'.cell? ⟨g, 2, none⟩ = some v2 ∧ w'.cell? ⟨g, 3, none⟩ = some v3 := by
  have h' := below_blk b (Array.getElem?_eq_some_iff.1 h).1 h
  exact ⟨h', (at_block h' 0 _ rfl).1, (at_block h' 1 _ rfl).1, (at_block h' 2 _ rfl).1, (at_block h' 3 _ rfl).1⟩

theorem rv_nil (w : World) : RV w (.slice none 0 0) [] := ⟨none, 0, rfl, Rd.nil _ _, Nat.le_refl _, Nat.zero_le _⟩
def yesI (b : Bool) : Int := if b then 1 else 0
theorem cellsB6 {w w' : World} {g : Nat} {v0 v1 v2 v3 v4 v5 : Value} {t : TypeId} (h : w.heap[g]? = some (.cells #[v0, v1, v2, v3, v4, v5] t (0, 0))) (b : Below w.heap.size w w') :
    w'.heap[g]? = some (.cells #[v0, v1, v2, v3, v4, v5] t (0, 0)) ∧ w'.cell? ⟨g, 0, none⟩ = some v0 ∧ w'.cell? ⟨g, 1, none⟩ = some v1 ∧ w'.cell? ⟨g, 2, none⟩ = some v2 ∧ w'.cell? ⟨g, 3, none⟩ = some v3 ∧ w'.cell? ⟨g, 4, none⟩ = some v4 ∧ w'.cell? ⟨g, 5, none⟩ = some v5 := by
  have h' := below_blk b (Array.getElem?_eq_some_iff.1 h).1 h
  exact ⟨h', (at_block h' 0 _ rfl).1, (at_block h' 1 _ rfl).1, (at_block h' 2 _ rfl).1, (at_block h' 3 _ rfl).1, (at_block h' 4 _ rfl).1, (at_block h' 5 _ rfl).1⟩

end Go.Proofs.Ytknemgmfbmmngaa
