
/- The contract of the program's WheelStop. -/
import Derived.Test.YtgafnajnndbofaaHpI
namespace Go.Proofs.Ytgafnajnndbofaa
open Go.RowKit

/-- The wheel without this timer, and whether there was one. -/
def stopD (c : Bool) (D : DWheel) (id : Int) : DWheel × Bool := if c then (if placeT D.tms id < 0 then (D, false) else (⟨D.now, D.tms.eraseIdx (placeT D.tms id).toNat⟩, true)) else (⟨0, []⟩, false)
/-- A wheel and a bool, in memory of its own. -/
def ResW (R : DWheel × Bool) (w : World) (e : Ending) (w' : World) : Prop := ∃ tv, e = .returned (.tuple #[.agg #[.int .i64 R.1.now, tv], .bool R.2]) ∧ OwT w' w.heap.size tv R.1.tms ∧ Below w.heap.size w w'

theorem perm_erase {ts ts' : List DTim} {i : Nat} {t : DTim} (ht : ts[i]? = some t) (p : (t :: ts').Perm ts) : ts'.Perm (ts.eraseIdx i) := by
  obtain ⟨hl, rfl⟩ := List.getElem?_eq_some_iff.1 ht
  have h1 : ts = ts.take i ++ ts[i] :: ts.drop (i + 1) := by rw [List.getElem_cons_drop]; exact (List.take_append_drop i ts).symm
  have h2 : (ts[i] :: ts').Perm (ts[i] :: (ts.take i ++ ts.drop (i + 1))) := p.trans (by
    have h3 := List.perm_middle (a := ts[i]) (l₁ := ts.take i) (l₂ := ts.drop (i + 1))
    rw [← h1] at h3
    exact h3)
  rw [List.eraseIdx_eq_take_drop_succ]
  exact h2.cons_inv
theorem SortT.erase {ts : List DTim} (h : SortT ts) (i : Nat) : SortT (ts.eraseIdx i) := List.Pairwise.sublist (List.eraseIdx_sublist ts i) h
/-- What is told in the end, in order. -/
theorem stop_end {D : DWheel} {id : Int} {b : Bool} {ts' tk : List DTim} (hD : WheelP D) (hs : StopP D.tms id b ts') (hk : SortT tk) (hp : tk.Perm ts') : stopD true D id = (⟨D.now, tk⟩, b) := by
  have g := wheel_good hD
  rcases hs with ⟨rfl, h1, rfl⟩ | ⟨rfl, i, t, h1, h2, h3, h4⟩
  · have : tk = D.tms := sort_uniq hk (wheel_sort hD) (g.perm hp) hp
    subst this
    unfold stopD
    rw [if_pos rfl, h1, if_pos (by omega)]
  · have hp' := hp.trans (perm_erase h2 h4)
    have : tk = D.tms.eraseIdx i := sort_uniq hk ((wheel_sort hD).erase i) (fun x hx => g x (List.mem_of_mem_eraseIdx (hp'.mem_iff.1 hx))) hp'
    subst this
    unfold stopD
    rw [if_pos rfl, h1, if_neg (by omega)]
    simp

end Go.Proofs.Ytgafnajnndbofaa
