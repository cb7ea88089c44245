/- Trees that may be: what is asked of each part, how many, how deep, how long. It holds over every program. -/
import Derived.Test.YtpnfcifkmmcllaaTe0
namespace Go.Proofs.Ytpnfcifkmmcllaa
open Go.RowKit

/-- The greatest of the first n. -/
def maxN : Nat → (Nat → Nat) → Nat
  | 0, _ => 0
  | n + 1, f => max (maxN n f) (f n)
theorem maxN_le (f : Nat → Nat) (c : Nat) : ∀ n, maxN n f ≤ c ↔ ∀ i, i < n → f i ≤ c
  | 0 => ⟨fun _ i hi => absurd hi (by omega), fun _ => Nat.zero_le _⟩
  | n + 1 => by
    have ih := maxN_le f c n
    simp only [maxN]
    constructor
    · intro h i hi
      by_cases e : i = n
      · subst e; omega
      · exact ih.1 (by omega) i (by omega)
    · intro h
      have h1 := ih.2 (fun i hi => h i (by omega))
      have h2 := h n (by omega)
      omega

/-- How many parts. -/
def cntT : DTree → Nat
  | .nil => 1
  | .node _ _ _ n kid => 1 + sumN n (fun i => cntT (kid i))
/-- How deep. -/
def depT : DTree → Nat
  | .nil => 0
  | .node _ _ _ n kid => maxN n (fun i => depT (kid i) + 1)
/-- How long the longest way is, without its own edge. -/
def edT : DTree → List Int
  | .nil => []
  | .node e _ _ _ _ => e
def lngK : DTree → Nat
  | .nil => 0
  | .node _ _ _ n kid => maxN n (fun i => lngK (kid i) + (edT (kid i)).length)
def fstT (t : DTree) : Int := (edT t).getD 0 0

/-- What is asked of a part by itself. -/
def ownOk (root : Bool) : DTree → Prop
  | .nil => False
  | .node e h x n _ => (root = true → e.length = 0) ∧ (root = false → e.length ≠ 0) ∧ (h = false → x = 0) ∧ 0 ≤ x ∧ x ≤ 2147483647 ∧ (root = false → h = false → 2 ≤ n)
/-- What is asked of all below. -/
def kidsG : DTree → Prop
  | .nil => False
  | .node _ _ _ n kid => (∀ i, i < n → ownOk false (kid i) ∧ kidsG (kid i)) ∧ ∀ i, i + 1 < n → fstT (kid i) < fstT (kid (i + 1))

/-- A tree may be. -/
def okT (t : DTree) : Prop := ownOk true t ∧ kidsG t ∧ cntT t ≤ 200 ∧ depT t ≤ 24 ∧ lngK t + (edT t).length ≤ 20

theorem cnt_le : ∀ t : DTree, cntT t ≤ 1 + szT t
  | .nil => by simp [cntT, szT]
  | .node e h x n kid => by
    have ih : ∀ i, cntT (kid i) ≤ 1 + szT (kid i) := fun i => cnt_le (kid i)
    have : ∀ m, sumN m (fun i => cntT (kid i)) ≤ m + sumN m (fun i => szT (kid i)) := by
      intro m
      induction m with
      | zero => simp [sumN]
      | succ m im =>
        have := ih m
        simp only [sumN]
        omega
    have := this n
    simp only [cntT, szT]
    omega
theorem lng_le : ∀ t : DTree, lngK t + (edT t).length ≤ szT t
  | .nil => by simp [lngK, edT, szT]
  | .node e h x n kid => by
    have ih : ∀ i, lngK (kid i) + (edT (kid i)).length ≤ szT (kid i) := fun i => lng_le (kid i)
    show maxN n (fun i => lngK (kid i) + (edT (kid i)).length) + e.length ≤ e.length + (n + sumN n (fun i => szT (kid i)))
    have : maxN n (fun i => lngK (kid i) + (edT (kid i)).length) ≤ sumN n (fun i => szT (kid i)) := by
      rw [maxN_le]
      intro i hi
      have h1 := ih i
      have h2 : szT (kid i) ≤ sumN n (fun i => szT (kid i)) := sumN_mem (fun i => szT (kid i)) hi
      omega
    omega
theorem cnt_pos : ∀ t : DTree, 1 ≤ cntT t
  | .nil => by simp [cntT]
  | .node e h x n kid => by simp only [cntT]; omega
theorem dep_kid {e : List Int} {h : Bool} {x : Int} {n : Nat} {kid : Nat → DTree} {i : Nat} (hi : i < n) : depT (kid i) + 1 ≤ depT (.node e h x n kid) :=
  (maxN_le (fun i => depT (kid i) + 1) _ n).1 (Nat.le_refl _) i hi
theorem dep_all {e : List Int} {h : Bool} {x : Int} {n : Nat} {kid : Nat → DTree} {c : Nat} (hi : ∀ i, i < n → depT (kid i) + 1 ≤ c) : depT (.node e h x n kid) ≤ c :=
  (maxN_le (fun i => depT (kid i) + 1) _ n).2 hi
theorem lng_kid {e : List Int} {h : Bool} {x : Int} {n : Nat} {kid : Nat → DTree} {i : Nat} (hi : i < n) : lngK (kid i) + (edT (kid i)).length ≤ lngK (.node e h x n kid) :=
  (maxN_le (fun i => lngK (kid i) + (edT (kid i)).length) _ n).1 (Nat.le_refl _) i hi
theorem lng_all {e : List Int} {h : Bool} {x : Int} {n : Nat} {kid : Nat → DTree} {c : Nat} (hi : ∀ i, i < n → lngK (kid i) + (edT (kid i)).length ≤ c) : lngK (.node e h x n kid) ≤ c :=
  (maxN_le (fun i => lngK (kid i) + (edT (kid i)).length) _ n).2 hi

end Go.Proofs.Ytpnfcifkmmcllaa
