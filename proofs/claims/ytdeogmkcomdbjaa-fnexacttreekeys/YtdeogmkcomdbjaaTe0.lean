/- Trees of keys as data, and how their values read in memory. It holds over every program. -/
import Derived.Test.YtdeogmkcomdbjaaSt0
namespace Go.Proofs.Ytdeogmkcomdbjaa
open Go.RowKit

/-- A tree of a height below d: its edge, whether it has something, what, how many kids, and these (those behind the n-th stand for nothing). -/
def DTree : Nat → Type
  | 0 => Unit
  | d + 1 => List Int × Bool × Int × Nat × (Nat → DTree d)
abbrev DTree.node {d : Nat} (e : List Int) (h : Bool) (x : Int) (n : Nat) (kid : Nat → DTree d) : DTree (d + 1) := (e, h, x, n, kid)

/-- The value v reads as the tree. -/
def VTreeD (w : World) : (d : Nat) → DTree d → Value → Prop
  | 0, _, _ => False
  | d + 1, (e, h, x, n, kid), v => ∃ ev kv, v = .agg #[ev, .bool h, .int .i64 x, kv] ∧ RV w ev e ∧ ∃ C, SL w 4 kv n C ∧ ∀ i, i < n → VTreeD w d (kid i) (.agg #[C i 0, C i 1, C i 2, C i 3])
abbrev VTree (w : World) {d : Nat} (t : DTree d) (v : Value) : Prop := VTreeD w d t v

/-- The slice kv reads as n trees. -/
def VKids (w : World) {d : Nat} (n : Nat) (kid : Nat → DTree d) (kv : Value) : Prop := ∃ C, SL w 4 kv n C ∧ ∀ i, i < n → VTree w (kid i) (.agg #[C i 0, C i 1, C i 2, C i 3])

theorem VTreeD.ext {w w' : World} (k : Ext w w') : ∀ (d : Nat) (t : DTree d) (v : Value), VTreeD w d t v → VTreeD w' d t v
  | 0, _, _, ht => False.elim ht
  | d + 1, (e, h, x, n, kid), v, ht => by
    obtain ⟨ev, kv, hv, h1, C, h2, h3⟩ := ht
    exact ⟨ev, kv, hv, h1.ext k, C, h2.ext k, fun i hi => VTreeD.ext k d (kid i) _ (h3 i hi)⟩
theorem VTree.ext {w w' : World} (k : Ext w w') {d : Nat} (t : DTree d) (v : Value) (h : VTree w t v) : VTree w' t v := VTreeD.ext k d t v h
theorem VKids.ext {w w' : World} (k : Ext w w') {d n : Nat} {kid : Nat → DTree d} {v : Value} (h : VKids w n kid v) : VKids w' n kid v := by
  obtain ⟨C, h2, h3⟩ := h
  exact ⟨C, h2.ext k, fun i hi => VTree.ext k (kid i) _ (h3 i hi)⟩

theorem VTree.open_ {w : World} {e : List Int} {h : Bool} {x : Int} {d n : Nat} {kid : Nat → DTree d} {v : Value} (ht : VTree w (DTree.node e h x n kid) v) : ∃ ev kv, v = .agg #[ev, .bool h, .int .i64 x, kv] ∧ RV w ev e ∧ VKids w n kid kv := ht
theorem VTree.mk {w : World} {e : List Int} {h : Bool} {x : Int} {d n : Nat} {kid : Nat → DTree d} {ev kv : Value} (h1 : RV w ev e) (h2 : VKids w n kid kv) : VTree w (DTree.node e h x n kid) (.agg #[ev, .bool h, .int .i64 x, kv]) := ⟨ev, kv, rfl, h1, h2⟩
theorem VKids.slice {w : World} {d n : Nat} {kid : Nat → DTree d} {v : Value} (h : VKids w n kid v) : ∃ a cap, v = .slice a n cap ∧ n ≤ cap ∧ cap ≤ maxLen := by
  obtain ⟨C, ⟨a, cap, hv, h1, h2, _⟩, _⟩ := h
  exact ⟨a, cap, hv, h1, h2⟩

/-- The sum of the first n. -/
def sumN : Nat → (Nat → Nat) → Nat
  | 0, _ => 0
  | n + 1, f => sumN n f + f n
theorem sumN_le (f : Nat → Nat) : ∀ {n m : Nat}, n ≤ m → sumN n f ≤ sumN m f
  | n, 0, h => by
    obtain rfl : n = 0 := by omega
    exact Nat.le_refl _
  | n, m + 1, h => by
    by_cases e : n = m + 1
    · subst e; exact Nat.le_refl _
    · have := sumN_le f (show n ≤ m by omega)
      simp only [sumN]
      omega
theorem sumN_mem (f : Nat → Nat) {n i : Nat} (h : i < n) : f i ≤ sumN n f := by
  have := sumN_le f (show i + 1 ≤ n by omega)
  simp only [sumN] at this
  omega

/-- How great a tree is: its edges' bytes and its kids. -/
def szTD : (d : Nat) → DTree d → Nat
  | 0, _ => 0
  | d + 1, (e, _, _, n, kid) => e.length + (n + sumN n (fun i => szTD d (kid i)))
abbrev szT {d : Nat} (t : DTree d) : Nat := szTD d t

/-- A part's edge. -/
def edTD : (d : Nat) → DTree d → List Int
  | 0, _ => []
  | _ + 1, (e, _, _, _, _) => e
abbrev edT {d : Nat} (t : DTree d) : List Int := edTD d t
/-- What is asked of a part by itself. -/
def ownF (root : Bool) (e : List Int) (h : Bool) (x : Int) (n : Nat) : Prop := (root = true → e.length = 0) ∧ (root = false → e.length ≠ 0) ∧ (h = false → x = 0) ∧ 0 ≤ x ∧ x ≤ 2147483647 ∧ (root = false → h = false → 2 ≤ n)
def ownOkD (root : Bool) : (d : Nat) → DTree d → Prop
  | 0, _ => False
  | _ + 1, (e, h, x, n, _) => ownF root e h x n
abbrev ownOk (root : Bool) {d : Nat} (t : DTree d) : Prop := ownOkD root d t

/-- The four cells of a tree that stands in a list. -/
theorem VTree.cells {w : World} {c0 c1 c2 c3 : Value} {d : Nat} {t : DTree d} (ht : VTree w t (.agg #[c0, c1, c2, c3])) : ∃ (e : List Int) (h : Bool) (x : Int) (n : Nat) (d' : Nat) (kid : Nat → DTree d'), (edT t = e ∧ e.length ≤ szT t ∧ ∀ root, ownOk root t = ownF root e h x n) ∧ c1 = .bool h ∧ c2 = .int .i64 x ∧ RV w c0 e ∧ VKids w n kid c3 := by
  match d, t, ht with
  | 0, _, ht => exact False.elim ht
  | d + 1, (e, h, x, n, kid), ht =>
    obtain ⟨ev, kv, hv, h1, C, h2, h3⟩ := ht
    simp only [Value.agg.injEq, Array.mk.injEq, List.cons.injEq, and_true] at hv
    obtain ⟨rfl, rfl, rfl, rfl⟩ := hv
    refine ⟨e, h, x, n, d, kid, ⟨rfl, ?_, fun _ => rfl⟩, rfl, rfl, h1, C, h2, h3⟩
    show e.length ≤ e.length + _
    omega
/-- A tree's value, whatever it is. -/
theorem VTree.agg {w : World} {v : Value} {d : Nat} {t : DTree d} (ht : VTree w t v) : ∃ e1 e2 e3 hv xv k1 k2 k3, v = .agg #[.slice e1 e2 e3, .bool hv, .int .i64 xv, .slice k1 k2 k3] := by
  match d, t, ht with
  | 0, _, ht => exact False.elim ht
  | d + 1, (e, h, x, n, kid), ht =>
    obtain ⟨ev, kv, rfl, ⟨ea, ec, rfl, _⟩, C, ⟨ka, kc, rfl, _⟩, _⟩ := ht
    exact ⟨_, _, _, _, _, _, _, _, rfl⟩

end Go.Proofs.Ytdeogmkcomdbjaa
