
/- Members that ascend, and where one would have to be put: plain. It holds over every program. -/
import Derived.Test.YtmodliaieienfaaMd
namespace Go.Proofs.Ytmodliaieienfaa
open Go.RowKit

/-- Their names ascend. -/
def AscM (ls : List DMem) : Prop := ∀ (i j : Nat) (a b : DMem), i < j → ls[i]? = some a → ls[j]? = some b → a.id < b.id
theorem ascM_of {ls : List DMem} (h : ∀ i, i < ls.length → MemAt ls i) : AscM ls := by
  have key : ∀ (d i : Nat) (a b : DMem), ls[i]? = some a → ls[i + 1 + d]? = some b → a.id < b.id := by
    intro d
    induction d with
    | zero =>
      intro i a b ha hb
      exact (h (i + 1) (List.getElem?_eq_some_iff.1 hb).1 b hb).2 a (by omega) (by simpa using ha)
    | succ d ih =>
      intro i a b ha hb
      have hlt := (List.getElem?_eq_some_iff.1 hb).1
      obtain ⟨c, hc⟩ : ∃ c, ls[i + 1 + d]? = some c := ⟨_, List.getElem?_eq_getElem (by omega)⟩
      have h1 := ih i a c ha hc
      have h2 := (h (i + 1 + (d + 1)) hlt b hb).2 c (by omega) (by rw [show i + 1 + (d + 1) - 1 = i + 1 + d by omega]; exact hc)
      omega
  intro i j a b hij ha hb
  exact key (j - i - 1) i a b ha (by rw [show i + 1 + (j - i - 1) = j by omega]; exact hb)
/-- How many stand ahead of the place for id. -/
def insK (ts : List DMem) (id : Int) : Nat := (ts.takeWhile fun t => decide (t.id < id)).length
theorem insK_at {ts : List DMem} {id : Int} {k : Nat} (h1 : ∀ (j : Nat) u, j < k → ts[j]? = some u → u.id < id) (h2 : k = ts.length ∨ ∃ u, ts[k]? = some u ∧ ¬ u.id < id) (hk : k ≤ ts.length) : insK ts id = k := by
  unfold insK
  induction ts generalizing k with
  | nil => simp at hk; simp [hk]
  | cons t ts ih =>
    match k with
    | 0 =>
      rcases h2 with h2 | ⟨u, hu, hn⟩
      · simp at h2
      · simp only [List.getElem?_cons_zero, Option.some.injEq] at hu
        subst hu
        rw [List.takeWhile_cons, if_neg (by simpa using hn)]
        rfl
    | k + 1 =>
      have h0 := h1 0 t (by omega) rfl
      rw [List.takeWhile_cons, if_pos (by simpa using h0), List.length_cons]
      rw [ih (k := k) (fun j u hj hu => h1 (j + 1) u (by omega) (by simpa using hu)) (by
        rcases h2 with h2 | ⟨u, hu, hn⟩
        · exact .inl (by simpa using h2)
        · exact .inr ⟨u, by simpa using hu, hn⟩) (by simpa using hk)]

end Go.Proofs.Ytmodliaieienfaa
