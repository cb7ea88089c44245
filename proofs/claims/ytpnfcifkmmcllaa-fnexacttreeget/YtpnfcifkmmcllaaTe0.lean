/- Trees of keys as data, and how their values read in memory. It holds over every program. -/
import Derived.Test.YtpnfcifkmmcllaaSt0
namespace Go.Proofs.Ytpnfcifkmmcllaa
open Go.RowKit

/-- A tree: its edge, whether it has something, what, and its n kids (those behind the n-th, and 'nil', stand for nothing). -/
inductive DTree where
  | node (edge : List Int) (has : Bool) (val : Int) (n : Nat) (kid : Nat → DTree) : DTree
  | nil : DTree

/-- The value v reads as the tree. -/
def VTree (w : World) : DTree → Value → Prop
  | .nil, _ => False
  | .node e h x n kid, v => ∃ ev kv, v = .agg #[ev, .bool h, .int .i64 x, kv] ∧ RV w ev e ∧ ∃ C, SL w 4 kv n C ∧ ∀ i, i < n → VTree w (kid i) (.agg #[C i 0, C i 1, C i 2, C i 3])

/-- The slice kv reads as n trees. -/
def VKids (w : World) (n : Nat) (kid : Nat → DTree) (kv : Value) : Prop := ∃ C, SL w 4 kv n C ∧ ∀ i, i < n → VTree w (kid i) (.agg #[C i 0, C i 1, C i 2, C i 3])

theorem VTree.ext {w w' : World} (k : Ext w w') : ∀ (t : DTree) (v : Value), VTree w t v → VTree w' t v
  | .nil, _, ht => False.elim ht
  | .node e h x n kid, v, ht => by
    obtain ⟨ev, kv, hv, h1, C, h2, h3⟩ := ht
    exact ⟨ev, kv, hv, h1.ext k, C, h2.ext k, fun i hi => VTree.ext k (kid i) _ (h3 i hi)⟩
theorem VKids.ext {w w' : World} (k : Ext w w') {n : Nat} {kid : Nat → DTree} {v : Value} (h : VKids w n kid v) : VKids w' n kid v := by
  obtain ⟨C, h2, h3⟩ := h
  exact ⟨C, h2.ext k, fun i hi => VTree.ext k (kid i) _ (h3 i hi)⟩

/-- The four cells of a tree that stands in a list. -/
theorem VTree.cells {w : World} {c0 c1 c2 c3 : Value} : ∀ {t : DTree}, VTree w t (.agg #[c0, c1, c2, c3]) → ∃ e h x n kid, t = .node e h x n kid ∧ c1 = .bool h ∧ c2 = .int .i64 x ∧ RV w c0 e ∧ VKids w n kid c3
  | .nil, ht => False.elim ht
  | .node e h x n kid, ht => by
    obtain ⟨ev, kv, hv, h1, C, h2, h3⟩ := ht
    simp only [Value.agg.injEq, Array.mk.injEq, List.cons.injEq, and_true] at hv
    obtain ⟨rfl, rfl, rfl, rfl⟩ := hv
    exact ⟨e, h, x, n, kid, rfl, rfl, rfl, h1, C, h2, h3⟩
theorem VTree.open_ {w : World} {e : List Int} {h : Bool} {x : Int} {n : Nat} {kid : Nat → DTree} {v : Value} (ht : VTree w (.node e h x n kid) v) : ∃ ev kv, v = .agg #[ev, .bool h, .int .i64 x, kv] ∧ RV w ev e ∧ VKids w n kid kv := ht
theorem VTree.mk {w : World} {e : List Int} {h : Bool} {x : Int} {n : Nat} {kid : Nat → DTree} {ev kv : Value} (h1 : RV w ev e) (h2 : VKids w n kid kv) : VTree w (.node e h x n kid) (.agg #[ev, .bool h, .int .i64 x, kv]) := ⟨ev, kv, rfl, h1, h2⟩
theorem VKids.slice {w : World} {n : Nat} {kid : Nat → DTree} {v : Value} (h : VKids w n kid v) : ∃ a cap, v = .slice a n cap ∧ n ≤ cap ∧ cap ≤ maxLen := by
  obtain ⟨C, ⟨a, cap, hv, h1, h2, _⟩, _⟩ := h
  exact ⟨a, cap, hv, h1, h2⟩

/-- The sum of the first n. -/
def sumN : Nat → (Nat → Nat) → Nat
  | 0, _ => 0
  | n + 1, f => sumN n f + f n
theorem sumN_le (f : Nat → Nat) : ∀ {n m : Nat}, n ≤ m → sumN n f ≤ sumN m f
  | n, 0, h => by
    obtain rfl : n = 0 := by omega
    exact Nat.le_refl _
  | n, m + 1, h => by
    by_cases e : n = m + 1
    · subst e; exact Nat.le_refl _
    · have := sumN_le f (show n ≤ m by omega)
      simp only [sumN]
      omega
theorem sumN_mem (f : Nat → Nat) {n i : Nat} (h : i < n) : f i ≤ sumN n f := by
  have := sumN_le f (show i + 1 ≤ n by omega)
  simp only [sumN] at this
  omega

/-- How great a tree is: its edges' bytes and its kids. -/
def szT : DTree → Nat
  | .nil => 0
  | .node e _ _ n kid => e.length + (n + sumN n (fun i => szT (kid i)))

end Go.Proofs.Ytpnfcifkmmcllaa
