
/- What a prober may be: plain; the specification's ProberOk. -/
import Derived.Test.YtmodliaieienfaaPr0
import Derived.Test.YtmodliaieienfaaSum0
import Derived.BigQuiet
namespace Go.Proofs.Ytmodliaieienfaa
open Go.RowKit

/-- The order's number at i may be there. -/
def OrdAt (xs : List Int) (i : Nat) : Prop := ∀ x, xs[i]? = some x → 0 ≤ x ∧ x < 12 ∧ ∀ (k : Nat) y, k < i → xs[k]? = some y → y ≠ x
/-- It may be a prober. -/
def ProP (P : DPro) : Prop := P.order.length ≤ 12 ∧ (0 ≤ P.next ∧ P.next ≤ P.order.length) ∧ (0 ≤ P.seed ∧ P.seed ≤ 2147483647) ∧ (0 ≤ P.state ∧ P.state ≤ 2) ∧ (0 ≤ P.wait ∧ P.wait ≤ 4) ∧ (0 ≤ P.who ∧ P.who < 12) ∧ (∀ i, i < P.order.length → OrdAt P.order i) ∧ (P.state ≠ 0 ∨ (P.who = 0 ∧ P.wait = 0))

theorem cells6 {w : World} {g : Nat} {v0 v1 v2 v3 v4 v5 : Value} {t : TypeId} (h : w.heap[g]? = some (.cells #[v0, v1, v2, v3, v4, v5] t (0, 0))) : w.cell? ⟨g, 0, none⟩ = some v0 ∧ w.cell? ⟨g, 1, none⟩ = some v1 ∧ w.cell? ⟨g, 2, none⟩ = some v2 ∧ w.cell? ⟨g, 3, none⟩ = some v3 ∧ w.cell? ⟨g, 4, none⟩ = some v4 ∧ w.cell? ⟨g, 5, none⟩ = some v5 := ⟨(at_block h 0 _ rfl).1, (at_block h 1 _ rfl).1, (at_block h 2 _ rfl).1, (at_block h 3 _ rfl).1, (at_block h 4 _ rfl).1, (at_block h 5 _ rfl).1⟩
theorem VL.get {w : World} {a : Option Addr} {n cap : Nat} {xs : List Int} (h : VL fI w (.slice a n cap) xs) {i : Nat} {x : Int} (hx : xs[i]? = some x) : ∃ b o, a = some ⟨b, o, none⟩ ∧ ∀ (i : Nat) (x : Int), xs[i]? = some x → w.cell? ⟨b, o + i, none⟩ = some (.int .i64 x) := by
  obtain ⟨a', cap', e, h1, h2, h3⟩ := h
  simp only [Value.slice.injEq] at e
  obtain ⟨rfl, rfl, rfl⟩ := e
  obtain ⟨b, o, ha, _, hc⟩ := h3 (by have := (List.getElem?_eq_some_iff.1 hx).1; omega)
  exact ⟨b, o, ha, hc⟩

end Go.Proofs.Ytmodliaieienfaa
