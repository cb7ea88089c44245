/- The keys that begin with a text, where one goes on until one is past it: plain. -/
import Derived.Test.YtdeogmkcomdbjaaTq1
import Derived.Test.YtdeogmkcomdbjaaTl0
namespace Go.Proofs.Ytdeogmkcomdbjaa
open Go.RowKit

def keysPD {d : Nat} (t : DTree d) (p : List Int) (h : Decidable (okT t) := Classical.propDecidable (okT t)) : List (List Int) := if tB (okT t) h then keysP t [] p else []
theorem filt_step {ls : List (List Int)} {p x : List Int} {k : Nat} (h : ls[k]? = some x) : (ls.take (k + 1)).filter (fun x => hasB x p) = (ls.take k).filter (fun x => hasB x p) ++ (if hasB x p then [x] else []) := by
  rw [List.take_add_one, h, List.filter_append]
  cases hb : hasB x p <;> simp [hb]
theorem has_iff {x p : List Int} : hasB x p = true ↔ ∃ r, x = p ++ r := by
  constructor
  · exact has_pre
  · rintro ⟨r, rfl⟩
    unfold hasB
    exact decide_eq_true ((com_pre _ _).2 ⟨by simp, by simp⟩)
/-- What is past a text and does not begin with it is past all that begin with it. -/
theorem past : ∀ (p x y : List Int), (∀ z ∈ p, 0 ≤ z ∧ z ≤ 255) → (∀ z ∈ x, 0 ≤ z ∧ z ≤ 255) → ltK p x = true → hasB x p = false → hasB y p = true → ltK y x = true
  | [], x, _, _, _, _, hx, _ => by rw [hasB_nil] at hx; cases hx
  | a :: p, [], _, _, _, h, _, _ => by rw [ltK_to_nil] at h; cases h
  | a :: p, b :: x, y, hrp, hrx, h, hx, hy => by
    obtain ⟨r, rfl⟩ := has_iff.1 hy
    rw [ltK_eq] at h ⊢
    simp only [b8, List.map_cons, Op.bytesLess, List.cons_append, Bool.or_eq_true, Bool.and_eq_true, decide_eq_true_eq, beq_iff_eq] at h ⊢
    rcases h with h | ⟨h1, h2⟩
    · exact .inl h
    · have e : a = b := by
        have h5 := congrArg UInt8.toNat h1
        rw [UInt8.toNat_ofNat', UInt8.toNat_ofNat'] at h5
        have h6 := hrp a (List.mem_cons_self ..)
        have h7 := hrx b (List.mem_cons_self ..)
        omega
      refine .inr ⟨h1, ?_⟩
      have ih := past p x (p ++ r) (fun z hz => hrp z (List.mem_cons_of_mem _ hz)) (fun z hz => hrx z (List.mem_cons_of_mem _ hz)) (by rw [ltK_eq]; exact h2)
      subst e
      have h3 : hasB x p = false := by
        cases h4 : hasB x p
        · rfl
        · obtain ⟨q, rfl⟩ := has_iff.1 h4
          have : hasB (a :: (p ++ q)) (a :: p) = true := has_iff.2 ⟨q, rfl⟩
          rw [this] at hx
          cases hx
      have h5 := ih h3 (has_iff.2 ⟨r, rfl⟩)
      rw [ltK_eq] at h5
      exact h5
theorem filt_stop {ls : List (List Int)} {p x : List Int} {k : Nat} (ha : ls.Pairwise (fun x y => ltK x y = true)) (hrp : ∀ z ∈ p, 0 ≤ z ∧ z ≤ 255) (hrx : ∀ z ∈ x, 0 ≤ z ∧ z ≤ 255) (h : ls[k]? = some x) (hb : hasB x p = false) (hx : ltK p x = true) : ls.filter (fun x => hasB x p) = (ls.take k).filter (fun x => hasB x p) := by
  conv => lhs; rw [← List.take_append_drop k ls]
  rw [List.filter_append]
  have : (ls.drop k).filter (fun y => hasB y p) = [] := by
    rw [List.filter_eq_nil_iff]
    intro y hy hby
    have h2 := past p x y hrp hrx hx hb hby
    obtain ⟨j, hj⟩ := List.getElem?_of_mem hy
    rw [List.getElem?_drop] at hj
    by_cases e : j = 0
    · subst e
      rw [Nat.add_zero, h] at hj
      cases hj
      rw [hb] at hby
      cases hby
    · rw [List.pairwise_iff_getElem] at ha
      obtain ⟨h3, rfl⟩ := List.getElem?_eq_some_iff.1 h
      obtain ⟨h4, rfl⟩ := List.getElem?_eq_some_iff.1 hj
      have h5 := ltK_trans (ha k (k + j) h3 h4 (by omega)) h2
      rw [ltK_irr] at h5
      cases h5
  rw [this, List.append_nil]

/-- No two texts lie in one block. -/
def Apart (F : List Value) : Prop := ∀ (i j : Nat) (f g : Value), F[i]? = some f → F[j]? = some g → i ≠ j → f.ownBlock = none ∨ f.ownBlock ≠ g.ownBlock
theorem apart_nil : Apart [] := fun i j f g h => by simp at h
theorem apart_add {F : List Value} {u : Value} {b : Nat} (h : Apart F) (hF : ∀ (i : Nat) (f : Value), F[i]? = some f → ∀ k, f.ownBlock = some k → k < b) (hu : ∀ k, u.ownBlock = some k → b ≤ k) : Apart (F ++ [u]) := by
  intro i j f g hf hg hij
  have hlen : ∀ {i : Nat} {f : Value}, (F ++ [u])[i]? = some f → (i < F.length ∧ F[i]? = some f) ∨ (i = F.length ∧ f = u) := fun {i f} h => by
    by_cases hi : i < F.length
    · rw [List.getElem?_append_left hi] at h
      exact .inl ⟨hi, h⟩
    · have h1 := (List.getElem?_eq_some_iff.1 h).1
      simp at h1
      have h2 : i = F.length := by omega
      subst h2
      simp at h
      exact .inr ⟨rfl, h.symm⟩
  have ne : ∀ {i : Nat} {f : Value}, F[i]? = some f → f.ownBlock = none ∨ f.ownBlock ≠ u.ownBlock := fun {i f} h1 => by
    cases hk : f.ownBlock with
    | none => exact .inl rfl
    | some k =>
      right
      intro e
      have h2 := hF i f h1 k hk
      have h3 := hu k e.symm
      omega
  rcases hlen hf with ⟨_, h1⟩ | ⟨h1, rfl⟩
  · rcases hlen hg with ⟨_, h2⟩ | ⟨_, rfl⟩
    · exact h i j f g h1 h2 hij
    · exact ne h1
  · rcases hlen hg with ⟨_, h2⟩ | ⟨h2, _⟩
    · rcases ne h2 with h3 | h3
      · cases hk : f.ownBlock with
        | none => exact .inl rfl
        | some k => right; rw [h3]; simp
      · exact .inr (Ne.symm h3)
    · omega

end Go.Proofs.Ytdeogmkcomdbjaa
