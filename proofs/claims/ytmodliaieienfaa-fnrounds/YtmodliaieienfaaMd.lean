
/- Members and tables: what the specification says of them, as plain functions. It holds over every program. -/
import Derived.Test.YtmodliaieienfaaTb1
import Derived.Test.YtmodliaieienfaaSum0
namespace Go.Proofs.Ytmodliaieienfaa
open Go.RowKit

/-- It may be a member. -/
def memB (m : DMem) : Bool := decide (0 ≤ m.id) && decide (m.id < 12) && decide (0 ≤ m.st) && decide (m.st ≤ 3) && decide (0 ≤ m.life) && decide (m.life ≤ 1000)
/-- Where the member is, from k on. -/
def findM (id : Int) : List DMem → Nat → Int
  | [], _ => -1
  | t :: ts, k => if t.id = id then (k : Int) else findM id ts (k + 1)
theorem findM_none (id : Int) : ∀ (ts : List DMem) (k : Nat), (∀ (i : Nat) (t : DMem), ts[i]? = some t → t.id ≠ id) → findM id ts k = -1
  | [], _, _ => rfl
  | t :: ts, k, h => by
    have h0 := h 0 t rfl
    unfold findM
    rw [if_neg h0]
    exact findM_none id ts (k + 1) (fun i u hu => h (i + 1) u (by simpa using hu))
theorem findM_some (id : Int) : ∀ (ts : List DMem) (k i : Nat) (t : DMem), ts[i]? = some t → t.id = id → (∀ (j : Nat) (u : DMem), j < i → ts[j]? = some u → u.id ≠ id) → findM id ts k = ((k + i : Nat) : Int)
  | [], _, _, _, h, _, _ => by simp at h
  | t :: ts, k, 0, u, h, e, _ => by
    simp only [List.getElem?_cons_zero, Option.some.injEq] at h
    subst h
    unfold findM
    rw [if_pos e]
    rfl
  | t :: ts, k, i + 1, u, h, e, hn => by
    have h0 := hn 0 t (by omega) rfl
    unfold findM
    rw [if_neg h0, findM_some id ts (k + 1) i u (by simpa using h) e (fun j v hj hv => hn (j + 1) v (by omega) (by simpa using hv))]
    omega
/-- Where the member is: -1 where there is none. -/
def placeM (ts : List DMem) (id : Int) : Int := findM id ts 0
theorem placeM_none {ts : List DMem} {id : Int} (h : ∀ (i : Nat) (t : DMem), ts[i]? = some t → t.id ≠ id) : placeM ts id = -1 := findM_none id ts 0 h
theorem placeM_some {ts : List DMem} {id : Int} {i : Nat} {t : DMem} (h : ts[i]? = some t) (e : t.id = id) (hn : ∀ (j : Nat) (u : DMem), j < i → ts[j]? = some u → u.id ≠ id) : placeM ts id = (i : Int) := by
  have := findM_some id ts 0 i t h e hn
  simpa [placeM] using this
theorem placeM_cases (ts : List DMem) (id : Int) : (placeM ts id = -1 ∧ ∀ (i : Nat) (t : DMem), ts[i]? = some t → t.id ≠ id) ∨ ∃ (i : Nat) (t : DMem), ts[i]? = some t ∧ t.id = id ∧ (∀ (j : Nat) (u : DMem), j < i → ts[j]? = some u → u.id ≠ id) ∧ placeM ts id = (i : Int) := by
  by_cases h : ∀ (i : Nat) (t : DMem), ts[i]? = some t → t.id ≠ id
  · exact .inl ⟨placeM_none h, h⟩
  · right
    have : ∃ i : Nat, ∃ t, ts[i]? = some t ∧ t.id = id := by
      refine Classical.byContradiction fun h' => h fun i t ht e => h' ⟨i, t, ht, e⟩
    obtain ⟨i, hi⟩ := this
    have hmin : ∃ i : Nat, (∃ t, ts[i]? = some t ∧ t.id = id) ∧ ∀ j, j < i → ¬ ∃ t, ts[j]? = some t ∧ t.id = id := by
      induction i using Nat.strongRecOn with
      | _ i ih =>
        by_cases hx : ∃ j, j < i ∧ ∃ t, ts[j]? = some t ∧ t.id = id
        · obtain ⟨j, hj, hjt⟩ := hx
          exact ih j hj hjt
        · exact ⟨i, hi, fun j hj hh => hx ⟨j, hj, hh⟩⟩
    obtain ⟨i, ⟨t, ht, e⟩, hn⟩ := hmin
    have hn' : ∀ (j : Nat) (u : DMem), j < i → ts[j]? = some u → u.id ≠ id := fun j u hj hu e => hn j hj ⟨u, hu, e⟩
    exact ⟨i, t, ht, e, hn', placeM_some ht e hn'⟩

/-- The member at i may be there. -/
def MemAt (ts : List DMem) (i : Nat) : Prop := ∀ t, ts[i]? = some t → memB t = true ∧ ∀ p, 0 < i → ts[i - 1]? = some p → p.id < t.id
/-- It may be its own: alive, left, or in its last life. -/
def ownB (t : DMem) : Bool := decide (t.st = 0) || decide (t.st = 3) || decide (t.life = 1000)
/-- It may be a table. -/
def TabP (T : DTab) : Prop := T.mems.length ≤ 12 ∧ (∀ i, i < T.mems.length → MemAt T.mems i) ∧ ∃ (i : Nat) (t : DMem), T.mems[i]? = some t ∧ t.id = T.self ∧ (∀ (j : Nat) (u : DMem), j < i → T.mems[j]? = some u → u.id ≠ T.self) ∧ ownB t = true
/-- What is said newer. -/
def beatsB (a b : DMem) : Bool := decide (a.id = b.id) && (decide (b.life < a.life) || (decide (a.life = b.life) && decide (b.st < a.st)))

end Go.Proofs.Ytmodliaieienfaa
