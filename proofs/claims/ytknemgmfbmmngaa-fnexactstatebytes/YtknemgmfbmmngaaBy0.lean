/- States as bytes: the lists. -/
import Derived.Test.YtknemgmfbmmngaaPi
import Derived.Test.YtknemgmfbmmngaaSt0
namespace Go.Proofs.Ytknemgmfbmmngaa
open Go.RowKit

/-- The bytes of a row behind xs. -/
def b9row (xs : List Int) (r : DRow) : List Int := textL (textL xs r.key) r.val ++ numL r.turned ++ numL r.holder
def b9tomb (xs : List Int) (r : DTomb) : List Int := textL xs r.key ++ numL r.index
def b9sess (xs : List Int) (r : DSess) : List Int := xs ++ numL r.id ++ numL (yesI r.del)
def b9last (xs : List Int) (r : DLast) : List Int := xs ++ numL r.client ++ numL r.req ++ numL r.code ++ numL r.index
/-- A list's length, then its elements, behind xs. -/
def b9list {α : Type} (f : List Int → α → List Int) (xs : List Int) (rs : List α) : List Int := rs.foldl f (xs ++ numL (rs.length : Int))
/-- The bytes of a state. -/
def b9state (S : DState) : List Int := b9list b9last (b9list b9sess (b9list b9tomb (b9list b9row ([] ++ numL S.index ++ numL S.lost) S.rows) S.tombs) S.sess) S.lasts

theorem fold_next {α : Type} (f : List Int → α → List Int) (xs : List Int) (rs : List α) (k : Nat) (d : α) (h : rs[k]? = some d) : (rs.take (k + 1)).foldl f xs = f ((rs.take k).foldl f xs) d := by
  obtain ⟨hk, he⟩ := List.getElem?_eq_some_iff.1 h
  rw [List.take_succ_eq_append_getElem hk, List.foldl_append, he]
  rfl
theorem fold_le {α : Type} (f : List Int → α → List Int) (c : Nat) (hf : ∀ xs x, (f xs x).length ≤ xs.length + c) : ∀ (rs : List α) (xs : List Int), (rs.foldl f xs).length ≤ xs.length + c * rs.length
  | [], xs => by simp
  | r :: rs, xs => by
    have h1 := fold_le f c hf rs (f xs r)
    have h2 := hf xs r
    simp only [List.foldl_cons, List.length_cons, Nat.mul_add]
    omega
theorem b9row_le (xs : List Int) (r : DRow) : (b9row xs r).length ≤ xs.length + 60 := by
  unfold b9row
  have h1 := putL_le (textL (textL xs r.key) r.val ++ numL r.turned) r.holder
  have h2 := putL_le (textL (textL xs r.key) r.val) r.turned
  have h3 := textL_le (textL xs r.key) r.val
  have h4 := textL_le xs r.key
  omega
theorem b9tomb_le (xs : List Int) (r : DTomb) : (b9tomb xs r).length ≤ xs.length + 30 := by
  unfold b9tomb
  have h1 := putL_le (textL xs r.key) r.index
  have h2 := textL_le xs r.key
  omega
theorem b9sess_le (xs : List Int) (r : DSess) : (b9sess xs r).length ≤ xs.length + 10 := by
  unfold b9sess
  have h1 := putL_le (xs ++ numL r.id) (yesI r.del)
  have h2 := putL_le xs r.id
  omega
theorem b9last_le (xs : List Int) (r : DLast) : (b9last xs r).length ≤ xs.length + 20 := by
  unfold b9last
  have h1 := putL_le (xs ++ numL r.client ++ numL r.req ++ numL r.code) r.index
  have h2 := putL_le (xs ++ numL r.client ++ numL r.req) r.code
  have h3 := putL_le (xs ++ numL r.client) r.req
  have h4 := putL_le xs r.client
  omega
theorem b9list_le {α : Type} (f : List Int → α → List Int) (c : Nat) (hf : ∀ xs x, (f xs x).length ≤ xs.length + c) (xs : List Int) (rs : List α) : (b9list f xs rs).length ≤ xs.length + 5 + c * rs.length := by
  unfold b9list
  have h1 := fold_le f c hf rs (xs ++ numL (rs.length : Int))
  have h2 := putL_le xs (rs.length : Int)
  omega
/-- How great a state is whose bytes are asked for. -/
structure StW (S : DState) : Prop where
  rows : S.rows.length ≤ 20
  tombs : S.tombs.length ≤ 10
  sess : S.sess.length ≤ 8
  lasts : S.lasts.length ≤ 4
  row : ∀ (i : Nat) (r : DRow), S.rows[i]? = some r → r.key.length ≤ 20 ∧ r.val.length ≤ 20
  tomb : ∀ (i : Nat) (r : DTomb), S.tombs[i]? = some r → r.key.length ≤ 20
theorem b9state_le {S : DState} (h : StW S) : (b9state S).length ≤ 2000 := by
  unfold b9state
  have h0 := putL_le ([] ++ numL S.index) S.lost
  have h00 := putL_le [] S.index
  have e0 : ([] : List Int).length = 0 := rfl
  have h1 := b9list_le b9row 60 b9row_le ([] ++ numL S.index ++ numL S.lost) S.rows
  have h2 := b9list_le b9tomb 30 b9tomb_le (b9list b9row ([] ++ numL S.index ++ numL S.lost) S.rows) S.tombs
  have h3 := b9list_le b9sess 10 b9sess_le (b9list b9tomb (b9list b9row ([] ++ numL S.index ++ numL S.lost) S.rows) S.tombs) S.sess
  have h4 := b9list_le b9last 20 b9last_le (b9list b9sess (b9list b9tomb (b9list b9row ([] ++ numL S.index ++ numL S.lost) S.rows) S.tombs) S.sess) S.lasts
  have := h.rows
  have := h.tombs
  have := h.sess
  have := h.lasts
  omega

end Go.Proofs.Ytknemgmfbmmngaa
