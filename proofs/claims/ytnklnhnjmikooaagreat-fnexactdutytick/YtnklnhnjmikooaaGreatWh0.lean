
/- Wheels of timers as data, and how their values read in memory. It holds over every program. -/
import Derived.Test.YtnklnhnjmikooaaGreatTo0
namespace Go.Proofs.YtnklnhnjmikooaaGreat
open Go.RowKit

structure DTim where
  id : Int
  due : Int
structure DWheel where
  now : Int
  tms : List DTim

def VTims (w : World) (v : Value) (ts : List DTim) : Prop := ∃ C, SL w 2 v ts.length C ∧ ∀ i r, ts[i]? = some r → C i 0 = .int .i64 r.id ∧ C i 1 = .int .i64 r.due
def VWheel (w : World) (v : Value) (W : DWheel) : Prop := ∃ tv, v = .agg #[.int .i64 W.now, tv] ∧ VTims w tv W.tms
theorem VTims.ext {w w' : World} {v : Value} {ts : List DTim} (h : VTims w v ts) (e : Ext w w') : VTims w' v ts := by
  obtain ⟨C, h1, h2⟩ := h
  exact ⟨C, h1.ext e, h2⟩
theorem VWheel.ext {w w' : World} {v : Value} {W : DWheel} (h : VWheel w v W) (e : Ext w w') : VWheel w' v W := by
  obtain ⟨tv, hv, h1⟩ := h
  exact ⟨tv, hv, h1.ext e⟩
theorem VTims.shape {w : World} {v : Value} {ts : List DTim} (h : VTims w v ts) : ∃ a cap, v = .slice a ts.length cap := by
  obtain ⟨C, ⟨a, cap, hv, _⟩, _⟩ := h
  exact ⟨a, cap, hv⟩

/-- The one rings ahead of the other. -/
def aheadB (a b : DTim) : Bool := decide (a.due < b.due) || (decide (a.due = b.due) && decide (a.id < b.id))

/-- The timer at i may be there. -/
def TimAt (now : Int) (ts : List DTim) (i : Nat) : Prop := ∀ t, ts[i]? = some t → (0 ≤ t.id ∧ t.id ≤ 2147483647) ∧ (now + 1 ≤ t.due ∧ t.due ≤ 2000000) ∧ (∀ p, 0 < i → ts[i - 1]? = some p → aheadB p t = true) ∧ (∀ (j : Nat) (p : DTim), j < i → ts[j]? = some p → p.id ≠ t.id)
def WheelP (W : DWheel) : Prop := (0 ≤ W.now ∧ W.now ≤ 1000000) ∧ W.tms.length ≤ 40 ∧ ∀ i, i < W.tms.length → TimAt W.now W.tms i

/-- Where the timer is, from k on. -/
def findT (id : Int) : List DTim → Nat → Int
  | [], _ => -1
  | t :: ts, k => if t.id = id then (k : Int) else findT id ts (k + 1)
theorem findT_none (id : Int) : ∀ (ts : List DTim) (k : Nat), (∀ (i : Nat) (t : DTim), ts[i]? = some t → t.id ≠ id) → findT id ts k = -1
  | [], _, _ => rfl
  | t :: ts, k, h => by
    have h0 := h 0 t rfl
    unfold findT
    rw [if_neg h0]
    exact findT_none id ts (k + 1) (fun i u hu => h (i + 1) u (by simpa using hu))
theorem findT_some (id : Int) : ∀ (ts : List DTim) (k i : Nat) (t : DTim), ts[i]? = some t → t.id = id → (∀ (j : Nat) (u : DTim), j < i → ts[j]? = some u → u.id ≠ id) → findT id ts k = ((k + i : Nat) : Int)
  | [], _, _, _, h, _, _ => by simp at h
  | t :: ts, k, 0, u, h, e, _ => by
    simp only [List.getElem?_cons_zero, Option.some.injEq] at h
    subst h
    unfold findT
    rw [if_pos e]
    rfl
  | t :: ts, k, i + 1, u, h, e, hn => by
    have h0 := hn 0 t (by omega) rfl
    unfold findT
    rw [if_neg h0, findT_some id ts (k + 1) i u (by simpa using h) e (fun j v hj hv => hn (j + 1) v (by omega) (by simpa using hv))]
    omega
/-- Where the timer is: -1 where there is none. -/
def placeT (ts : List DTim) (id : Int) : Int := findT id ts 0
theorem placeT_none {ts : List DTim} {id : Int} (h : ∀ (i : Nat) (t : DTim), ts[i]? = some t → t.id ≠ id) : placeT ts id = -1 := findT_none id ts 0 h
theorem placeT_some {ts : List DTim} {id : Int} {i : Nat} {t : DTim} (h : ts[i]? = some t) (e : t.id = id) (hn : ∀ (j : Nat) (u : DTim), j < i → ts[j]? = some u → u.id ≠ id) : placeT ts id = (i : Int) := by
  have := findT_some id ts 0 i t h e hn
  simpa [placeT] using this
theorem placeT_cases (ts : List DTim) (id : Int) : (placeT ts id = -1 ∧ ∀ (i : Nat) (t : DTim), ts[i]? = some t → t.id ≠ id) ∨ ∃ (i : Nat) (t : DTim), ts[i]? = some t ∧ t.id = id ∧ (∀ (j : Nat) (u : DTim), j < i → ts[j]? = some u → u.id ≠ id) ∧ placeT ts id = (i : Int) := by
  by_cases h : ∀ (i : Nat) (t : DTim), ts[i]? = some t → t.id ≠ id
  · exact .inl ⟨placeT_none h, h⟩
  · right
    have : ∃ i : Nat, ∃ t, ts[i]? = some t ∧ t.id = id := by
      refine Classical.byContradiction fun h' => h fun i t ht e => h' ⟨i, t, ht, e⟩
    obtain ⟨i, hi⟩ := this
    have hmin : ∃ i : Nat, (∃ t, ts[i]? = some t ∧ t.id = id) ∧ ∀ j, j < i → ¬ ∃ t, ts[j]? = some t ∧ t.id = id := by
      induction i using Nat.strongRecOn with
      | _ i ih =>
        by_cases hx : ∃ j, j < i ∧ ∃ t, ts[j]? = some t ∧ t.id = id
        · obtain ⟨j, hj, hjt⟩ := hx
          exact ih j hj hjt
        · exact ⟨i, hi, fun j hj hh => hx ⟨j, hj, hh⟩⟩
    obtain ⟨i, ⟨t, ht, e⟩, hn⟩ := hmin
    have hn' : ∀ (j : Nat) (u : DTim), j < i → ts[j]? = some u → u.id ≠ id := fun j u hj hu e => hn j hj ⟨u, hu, e⟩
    exact ⟨i, t, ht, e, hn', placeT_some ht e hn'⟩

end Go.Proofs.YtnklnhnjmikooaaGreat
