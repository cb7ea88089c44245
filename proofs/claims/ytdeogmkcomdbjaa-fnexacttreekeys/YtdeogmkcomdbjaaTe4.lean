/- Trees that may be: what is asked of each part, how many, how deep, how long. It holds over every program. -/
import Derived.Test.YtdeogmkcomdbjaaTe0
namespace Go.Proofs.Ytdeogmkcomdbjaa
open Go.RowKit

/-- The greatest of the first n. -/
def maxN : Nat → (Nat → Nat) → Nat
  | 0, _ => 0
  | n + 1, f => max (maxN n f) (f n)
theorem maxN_le (f : Nat → Nat) (c : Nat) : ∀ n, maxN n f ≤ c ↔ ∀ i, i < n → f i ≤ c
  | 0 => ⟨fun _ i hi => absurd hi (by omega), fun _ => Nat.zero_le _⟩
  | n + 1 => by
    have ih := maxN_le f c n
    simp only [maxN]
    constructor
    · intro h i hi
      by_cases e : i = n
      · subst e; omega
      · exact ih.1 (by omega) i (by omega)
    · intro h
      have h1 := ih.2 (fun i hi => h i (by omega))
      have h2 := h n (by omega)
      omega

/-- How many parts. -/
def cntTD : (d : Nat) → DTree d → Nat
  | 0, _ => 1
  | d + 1, (_, _, _, n, kid) => 1 + sumN n (fun i => cntTD d (kid i))
abbrev cntT {d : Nat} (t : DTree d) : Nat := cntTD d t
/-- How deep. -/
def depTD : (d : Nat) → DTree d → Nat
  | 0, _ => 0
  | d + 1, (_, _, _, n, kid) => maxN n (fun i => depTD d (kid i) + 1)
abbrev depT {d : Nat} (t : DTree d) : Nat := depTD d t
/-- How long the longest way is, without its own edge. -/
def lngKD : (d : Nat) → DTree d → Nat
  | 0, _ => 0
  | d + 1, (_, _, _, n, kid) => maxN n (fun i => lngKD d (kid i) + (edT (kid i)).length)
abbrev lngK {d : Nat} (t : DTree d) : Nat := lngKD d t
def fstT {d : Nat} (t : DTree d) : Int := (edT t).getD 0 0

/-- What is asked of all below. -/
def kidsGD : (d : Nat) → DTree d → Prop
  | 0, _ => False
  | d + 1, (_, _, _, n, kid) => (∀ i, i < n → ownOk false (kid i) ∧ kidsGD d (kid i)) ∧ ∀ i, i + 1 < n → fstT (kid i) < fstT (kid (i + 1))
abbrev kidsG {d : Nat} (t : DTree d) : Prop := kidsGD d t

/-- A tree may be. -/
def okT {d : Nat} (t : DTree d) : Prop := ownOk true t ∧ kidsG t ∧ cntT t ≤ 200 ∧ depT t ≤ 24 ∧ lngK t + (edT t).length ≤ 20

section
variable {d : Nat} {e : List Int} {h : Bool} {x : Int} {n : Nat} {kid : Nat → DTree d}
theorem cnt_node : cntT (DTree.node e h x n kid) = 1 + sumN n (fun i => cntT (kid i)) := rfl
theorem dep_node : depT (DTree.node e h x n kid) = maxN n (fun i => depT (kid i) + 1) := rfl
theorem lng_node : lngK (DTree.node e h x n kid) = maxN n (fun i => lngK (kid i) + (edT (kid i)).length) := rfl
theorem sz_node : szT (DTree.node e h x n kid) = e.length + (n + sumN n (fun i => szT (kid i))) := rfl
theorem dep_kid {i : Nat} (hi : i < n) : depT (kid i) + 1 ≤ depT (DTree.node e h x n kid) :=
  (maxN_le (fun i => depT (kid i) + 1) _ n).1 (Nat.le_refl _) i hi
theorem dep_all {c : Nat} (hi : ∀ i, i < n → depT (kid i) + 1 ≤ c) : depT (DTree.node e h x n kid) ≤ c :=
  (maxN_le (fun i => depT (kid i) + 1) _ n).2 hi
theorem lng_kid {i : Nat} (hi : i < n) : lngK (kid i) + (edT (kid i)).length ≤ lngK (DTree.node e h x n kid) :=
  (maxN_le (fun i => lngK (kid i) + (edT (kid i)).length) _ n).1 (Nat.le_refl _) i hi
theorem lng_all {c : Nat} (hi : ∀ i, i < n → lngK (kid i) + (edT (kid i)).length ≤ c) : lngK (DTree.node e h x n kid) ≤ c :=
  (maxN_le (fun i => lngK (kid i) + (edT (kid i)).length) _ n).2 hi
end

theorem lng_leD : ∀ (d : Nat) (t : DTree d), lngK t + (edT t).length ≤ szT t
  | 0, _ => Nat.le_refl _
  | d + 1, (e, h, x, n, kid) => by
    have ih : ∀ i, lngK (kid i) + (edT (kid i)).length ≤ szT (kid i) := fun i => lng_leD d (kid i)
    show maxN n (fun i => lngK (kid i) + (edT (kid i)).length) + e.length ≤ e.length + (n + sumN n (fun i => szT (kid i)))
    have : maxN n (fun i => lngK (kid i) + (edT (kid i)).length) ≤ sumN n (fun i => szT (kid i)) := by
      rw [maxN_le]
      intro i hi
      have h1 := ih i
      have h2 : szT (kid i) ≤ sumN n (fun i => szT (kid i)) := sumN_mem (fun i => szT (kid i)) hi
      exact Nat.le_trans h1 h2
    omega
theorem lng_le {d : Nat} (t : DTree d) : lngK t + (edT t).length ≤ szT t := lng_leD d t
theorem cnt_posD : ∀ (d : Nat) (t : DTree d), 1 ≤ cntT t
  | 0, _ => Nat.le_refl _
  | d + 1, (e, h, x, n, kid) => by
    show 1 ≤ 1 + _
    omega
theorem cnt_pos {d : Nat} (t : DTree d) : 1 ≤ cntT t := cnt_posD d t

end Go.Proofs.Ytdeogmkcomdbjaa
