/- The key behind a text: plain. -/
import Derived.Test.YtdeogmkcomdbjaaTk0
import Derived.Test.YtdeogmkcomdbjaaTe8
import Derived.Test.YtdeogmkcomdbjaaCmp4
namespace Go.Proofs.Ytdeogmkcomdbjaa
open Go.RowKit

theorem cmpB_gt : ∀ (a b : List UInt8), 0 < Lib.compareBytes a b ↔ Op.bytesLess b a = true
  | [], [] => by simp [Lib.compareBytes, Op.bytesLess]
  | [], _ :: _ => by simp [Lib.compareBytes, Op.bytesLess]
  | _ :: _, [] => by simp [Lib.compareBytes, Op.bytesLess]
  | x :: a, y :: b => by
    have ih := cmpB_gt a b
    unfold Lib.compareBytes Op.bytesLess
    by_cases h : x < y
    · have h' : ¬ y < x := fun h2 => UInt8.lt_irrefl _ (UInt8.lt_trans h h2)
      have hne : ¬ y = x := fun e => by subst e; exact UInt8.lt_irrefl _ h
      simp [h, h', hne]
    · by_cases h' : y < x
      · simp [h, h']
      · have he : x = y := UInt8.le_antisymm (UInt8.not_lt.1 h') (UInt8.not_lt.1 h)
        subst he
        simp [h, ih]
theorem cmpK_gt (xs ys : List Int) : decide (cmpK xs ys > 0) = ltK ys xs := by
  have h : cmpK xs ys > 0 ↔ ltK ys xs = true := by
    show 0 < cmpK xs ys ↔ _
    rw [cmpK, cmpB_gt, ltK, ByteArray.toList_eq, ByteArray.toList_eq]
  cases hb : ltK ys xs
  · exact decide_eq_false (fun hh => by have := h.1 hh; rw [hb] at this; cases this)
  · exact decide_eq_true (h.2 hb)
theorem bl_tri : ∀ (a b : List UInt8), (!(Op.bytesLess a b || (a == b))) = Op.bytesLess b a
  | [], [] => by simp [Op.bytesLess]
  | [], _ :: _ => by simp [Op.bytesLess]
  | _ :: _, [] => by simp [Op.bytesLess]
  | x :: a, y :: b => by
    have ih := bl_tri a b
    simp only [Op.bytesLess]
    by_cases h : x < y
    · have h' : ¬ y < x := fun h2 => UInt8.lt_irrefl _ (UInt8.lt_trans h h2)
      have hne : ¬ y = x := fun e => by subst e; exact UInt8.lt_irrefl _ h
      simp [h, h', hne]
    · by_cases h' : y < x
      · have hne : ¬ x = y := fun e => by subst e; exact UInt8.lt_irrefl _ h'
        simp [h, h', hne]
      · have he : x = y := UInt8.le_antisymm (UInt8.not_lt.1 h') (UInt8.not_lt.1 h)
        subst he
        simpa [h] using ih
/-- The first of them behind the text. -/
def nextK (ls : List (List Int)) (key : List Int) : List Int × Bool :=
  match ls.find? (fun x => ltK key x) with
  | some x => (x, true)
  | none => ([], false)
def nextTD {d : Nat} (t : DTree d) (key : List Int) (h : Decidable (okT t) := Classical.propDecidable (okT t)) : List Int × Bool := if tB (okT t) h then nextK (keysT t []) key else ([], false)
theorem find_at {α : Type} {p : α → Bool} {ls : List α} {k : Nat} {x : α} (h : ls[k]? = some x) (hp : p x = true) (hn : ∀ j y, j < k → ls[j]? = some y → p y = false) : ls.find? p = some x := by
  induction ls generalizing k with
  | nil => simp at h
  | cons a ls ih =>
    cases k with
    | zero =>
      simp only [List.getElem?_cons_zero, Option.some.injEq] at h
      subst h
      exact List.find?_cons_of_pos hp
    | succ k =>
      have h0 := hn 0 a (by omega) rfl
      rw [List.find?_cons_of_neg (by simp [h0])]
      exact ih (by simpa using h) (fun j y hj hy => hn (j + 1) y (by omega) (by simpa using hy))
theorem find_none {α : Type} {p : α → Bool} {ls : List α} (hn : ∀ (j : Nat) (y : α), ls[j]? = some y → p y = false) : ls.find? p = none := by
  rw [List.find?_eq_none]
  intro x hx
  obtain ⟨j, hj⟩ := List.getElem?_of_mem hx
  simp [hn j x hj]

/-- Keys are bytes. -/
theorem keys_rngD {w : World} : ∀ (d : Nat) (t : DTree d) (v : Value) (ah : List Int), VTreeD w d t v → (∀ y ∈ ah, 0 ≤ y ∧ y ≤ 255) → ∀ x ∈ keysTD d t ah, ∀ y ∈ x, 0 ≤ y ∧ y ≤ 255
  | 0, _, _, _, ht, _ => False.elim ht
  | d + 1, (e, h, x, n, kid), v, ah, ht, ha => by
    obtain ⟨ev, kv, hv, ⟨_, _, _, hr, _⟩, C, _, hk⟩ := ht
    have hb : ∀ y ∈ ah ++ e, 0 ≤ y ∧ y ≤ 255 := fun y hy => (List.mem_append.1 hy).elim (ha y) (hr.rng y)
    intro z hz
    simp only [keysTD] at hz
    rcases List.mem_append.1 hz with hz | hz
    · cases h
      · simp at hz
      · simp only [if_true, List.mem_singleton] at hz
        subst hz
        exact hb
    · have : ∀ m, m ≤ n → ∀ z ∈ flatN m (fun i => keysTD d (kid i) (ah ++ e)), ∀ y ∈ z, 0 ≤ y ∧ y ≤ 255 := by
        intro m
        induction m with
        | zero => intro _ z hz; cases hz
        | succ m ih =>
          intro hm z hz
          rcases List.mem_append.1 hz with hz | hz
          · exact ih (by omega) z hz
          · exact keys_rngD d (kid m) _ (ah ++ e) (hk m (by omega)) hb z hz
      exact this n (Nat.le_refl _) z hz
theorem keys_rng {w : World} {d : Nat} {t : DTree d} {v : Value} {ah x : List Int} (ht : VTree w t v) (ha : ∀ y ∈ ah, 0 ≤ y ∧ y ≤ 255) (hx : x ∈ keysT t ah) : ∀ y ∈ x, 0 ≤ y ∧ y ≤ 255 := keys_rngD d t v ah ht ha x hx

end Go.Proofs.Ytdeogmkcomdbjaa
