/- The longest key that a text begins with: plain. -/
import Derived.Test.YtdeogmkcomdbjaaTq0
namespace Go.Proofs.Ytdeogmkcomdbjaa
open Go.RowKit

/-- The last of them that the text begins with. -/
def lastP (ls : List (List Int)) (text : List Int) : Option (List Int) := (ls.filter fun x => hasB text x).getLast?
def longO : Option (List Int) → List Int × Bool
  | some x => (x, true)
  | none => ([], false)
def longK (ls : List (List Int)) (text : List Int) : List Int × Bool := longO (lastP ls text)
def longTD {d : Nat} (t : DTree d) (text : List Int) (h : Decidable (okT t) := Classical.propDecidable (okT t)) : List Int × Bool := if tB (okT t) h then longK (keysT t []) text else ([], false)
theorem has_pre {text x : List Int} (h : hasB text x = true) : ∃ r, text = x ++ r := by
  unfold hasB at h
  obtain ⟨h1, h2⟩ := (com_pre text x).1 (of_decide_eq_true h)
  exact ⟨text.drop x.length, by conv => lhs; rw [← List.take_append_drop x.length text, h2]⟩
theorem pre_not_gt {text x : List Int} (h : hasB text x = true) : ltK text x = false := by
  obtain ⟨r, rfl⟩ := has_pre h
  have := ltK_app x r []
  rw [List.append_nil] at this
  rw [this]
  exact ltK_to_nil r
theorem pre_len {text x y : List Int} (hx : hasB text x = true) (hy : hasB text y = true) (h : ltK x y = true) : x.length < y.length := by
  rcases Nat.lt_or_ge x.length y.length with h1 | h1
  · exact h1
  · exfalso
    obtain ⟨r, e1⟩ := has_pre hx
    obtain ⟨q, e2⟩ := has_pre hy
    have h2 : x.take y.length = y := by
      have : (x ++ r).take y.length = (y ++ q).take y.length := by rw [← e1, ← e2]
      rw [List.take_append_of_le_length h1, List.take_left'] at this
      · exact this
      · rfl
    have h3 : x = y ++ x.drop y.length := by conv => lhs; rw [← List.take_append_drop y.length x, h2]
    have h4 := ltK_app y (x.drop y.length) []
    rw [List.append_nil, ← h3, ltK_to_nil] at h4
    rw [h] at h4
    cases h4
theorem last_step {ls : List (List Int)} {text x : List Int} {k : Nat} (h : ls[k]? = some x) : lastP (ls.take (k + 1)) text = if hasB text x then some x else lastP (ls.take k) text := by
  unfold lastP
  rw [List.take_add_one, h, List.filter_append]
  cases hb : hasB text x
  · simp [hb]
  · simp [hb]
theorem last_stop {ls : List (List Int)} {text x : List Int} {k : Nat} (ha : ls.Pairwise (fun x y => ltK x y = true)) (h : ls[k]? = some x) (hx : ltK text x = true) : lastP ls text = lastP (ls.take k) text := by
  unfold lastP
  conv => lhs; rw [← List.take_append_drop k ls]
  rw [List.filter_append]
  have : (ls.drop k).filter (fun y => hasB text y) = [] := by
    rw [List.filter_eq_nil_iff]
    intro y hy hb
    have h2 := pre_not_gt hb
    obtain ⟨j, hj⟩ := List.getElem?_of_mem hy
    rw [List.getElem?_drop] at hj
    by_cases e : j = 0
    · subst e
      rw [Nat.add_zero, h] at hj
      cases hj
      rw [hx] at h2
      cases h2
    · rw [List.pairwise_iff_getElem] at ha
      obtain ⟨h3, rfl⟩ := List.getElem?_eq_some_iff.1 h
      obtain ⟨h4, rfl⟩ := List.getElem?_eq_some_iff.1 hj
      have := ltK_trans hx (ha k (k + j) h3 h4 (by omega))
      rw [this] at h2
      cases h2
  rw [this, List.append_nil]
theorem last_all {ls : List (List Int)} {text : List Int} {k : Nat} (h : k = ls.length) : lastP (ls.take k) text = lastP ls text := by rw [List.take_of_length_le (by omega)]
theorem last_has {ls : List (List Int)} {text x : List Int} (h : lastP ls text = some x) : hasB text x = true ∧ x ∈ ls := by
  have := List.mem_of_getLast? h
  rw [List.mem_filter] at this
  exact ⟨this.2, this.1⟩

theorem keys_lenX : ∀ (d : Nat) (t : DTree d) (ah : List Int) (B : Nat), ah.length + szTD d t ≤ B → ∀ x ∈ keysTD d t ah, x.length ≤ B
  | 0, _, _, _, _ => fun x hx => by cases hx
  | d + 1, (e, h, x, n, kid), ah, B, hb => by
    have hb' : ah.length + (e.length + (n + sumN n (fun i => szTD d (kid i)))) ≤ B := hb
    intro z hz
    simp only [keysTD] at hz
    rcases List.mem_append.1 hz with hz | hz
    · cases h
      · simp at hz
      · simp only [if_true, List.mem_singleton] at hz
        subst hz
        rw [List.length_append]
        omega
    · have : ∀ m, m ≤ n → ∀ z ∈ flatN m (fun i => keysTD d (kid i) (ah ++ e)), z.length ≤ B := by
        intro m
        induction m with
        | zero => intro _ z hz; cases hz
        | succ m ih =>
          intro hm z hz
          rcases List.mem_append.1 hz with hz | hz
          · exact ih (by omega) z hz
          · exact keys_lenX d (kid m) (ah ++ e) B (by
              have := sumN_mem (fun i => szTD d (kid i)) (show m < n by omega)
              rw [List.length_append]
              (try simp only at this)
              omega) z hz
      exact this n (Nat.le_refl _) z hz

end Go.Proofs.Ytdeogmkcomdbjaa
