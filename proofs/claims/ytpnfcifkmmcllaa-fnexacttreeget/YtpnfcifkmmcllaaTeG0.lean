/- What a tree has at a key. It holds over every program. -/
import Derived.Test.YtpnfcifkmmcllaaTe4
import Derived.Test.YtpnfcifkmmcllaaHasX
namespace Go.Proofs.Ytpnfcifkmmcllaa
open Go.RowKit

/-- The first below n of which p tells true. -/
def firstN (p : Nat → Bool) : Nat → Option Nat
  | 0 => none
  | n + 1 => match firstN p n with
    | some i => some i
    | none => if p n then some n else none
theorem firstN_none {p : Nat → Bool} : ∀ {n : Nat}, (∀ j, j < n → p j = false) → firstN p n = none
  | 0, _ => rfl
  | n + 1, h => by
    simp only [firstN, firstN_none (n := n) (fun j hj => h j (by omega)), h n (by omega)]
    rfl
theorem firstN_some {p : Nat → Bool} {i : Nat} (hi : p i = true) (h : ∀ j, j < i → p j = false) : ∀ {n : Nat}, i < n → firstN p n = some i
  | 0, h0 => absurd h0 (by omega)
  | n + 1, h0 => by
    by_cases e : i = n
    · subst e
      simp only [firstN, firstN_none h, hi]
      rfl
    · simp only [firstN, firstN_some hi h (show i < n by omega)]

/-- What stands at a key, counted from behind the part's edge. -/
def getKD : (d : Nat) → DTree d → List Int → Int × Bool
  | 0, _, _ => (0, false)
  | d + 1, (_, h, x, n, kid), key => if key.length = 0 then (x, h) else match firstN (fun i => hasB key (edT (kid i))) n with
    | some i => getKD d (kid i) (key.drop (edT (kid i)).length)
    | none => (0, false)
abbrev getK {d : Nat} (t : DTree d) (key : List Int) : Int × Bool := getKD d t key
/-- The same, the edge itself being a beginning of the key or not. -/
def getS {d : Nat} (t : DTree d) (key : List Int) : Int × Bool := if hasB key (edT t) = true then getK t (key.drop (edT t).length) else (0, false)

theorem getK_end {d : Nat} {e : List Int} {h : Bool} {x : Int} {n : Nat} {kid : Nat → DTree d} {key : List Int} (hk : key.length = 0) : getK (DTree.node e h x n kid) key = (x, h) := by
  show (if key.length = 0 then (x, h) else _) = _
  rw [if_pos hk]
theorem getK_kid {d : Nat} {e : List Int} {h : Bool} {x : Int} {n : Nat} {kid : Nat → DTree d} {key : List Int} (hk : key.length ≠ 0) {i : Nat} (hi : i < n) (hp : hasB key (edT (kid i)) = true) (hb : ∀ j, j < i → hasB key (edT (kid j)) = false) : getK (DTree.node e h x n kid) key = getK (kid i) (key.drop (edT (kid i)).length) := by
  show (if key.length = 0 then (x, h) else match firstN (fun i => hasB key (edT (kid i))) n with | some i => getKD d (kid i) (key.drop (edT (kid i)).length) | none => (0, false)) = _
  rw [if_neg hk, firstN_some (p := fun i => hasB key (edT (kid i))) hp hb hi]
theorem getK_none {d : Nat} {e : List Int} {h : Bool} {x : Int} {n : Nat} {kid : Nat → DTree d} {key : List Int} (hk : key.length ≠ 0) (hb : ∀ j, j < n → hasB key (edT (kid j)) = false) : getK (DTree.node e h x n kid) key = (0, false) := by
  show (if key.length = 0 then (x, h) else match firstN (fun i => hasB key (edT (kid i))) n with | some i => getKD d (kid i) (key.drop (edT (kid i)).length) | none => (0, false)) = _
  rw [if_neg hk, firstN_none (p := fun i => hasB key (edT (kid i))) hb]

theorem hasB_iff (xs ys : List Int) : hasB xs ys = true ↔ ys.length ≤ xs.length ∧ xs.take ys.length = ys := by
  unfold hasB
  rw [decide_eq_true_eq, com_pre]
/-- What begins with a text that is not empty has its first byte. -/
theorem hasB_fst {key ed : List Int} (h : hasB key ed = true) (hne : ed.length ≠ 0) : ed.getD 0 0 = key.getD 0 0 := by
  obtain ⟨h1, h2⟩ := (hasB_iff _ _).1 h
  have : ed.getD 0 0 = (key.take ed.length).getD 0 0 := by rw [h2]
  rw [this]
  simp only [List.getD_eq_getElem?_getD, List.getElem?_take_of_lt (show 0 < ed.length by omega)]

theorem ed_ne {d : Nat} {t : DTree d} (h : ownOk false t) : (edT t).length ≠ 0 := by
  match d, t, h with
  | 0, _, h => exact False.elim h
  | d + 1, (e, h', x, n, kid), h => exact h.2.1 rfl

theorem up_lt {e : List Int} {h : Bool} {x : Int} {n : Nat} {d : Nat} {kid : Nat → DTree d} (hg : kidsG (DTree.node e h x n kid)) : ∀ (j i : Nat), i < j → j < n → fstT (kid i) < fstT (kid j)
  | 0, i, h1, _ => absurd h1 (by omega)
  | j + 1, i, h1, h2 => by
    have hs := hg.2 j h2
    by_cases e : i = j
    · subst e; exact hs
    · have := up_lt hg j i (by omega) (by omega)
      omega

/-- By the first byte alone the kid is found. -/
theorem getS_found {e : List Int} {h : Bool} {x : Int} {n : Nat} {d : Nat} {kid : Nat → DTree d} {key : List Int} (hg : kidsG (DTree.node e h x n kid)) (hk : key.length ≠ 0) {i : Nat} (hi : i < n) (hf : fstT (kid i) = key.getD 0 0) : getK (DTree.node e h x n kid) key = getS (kid i) key := by
  have hno : ∀ j, j < n → j ≠ i → hasB key (edT (kid j)) = false := fun j hj hne => by
    cases hb : hasB key (edT (kid j)) with
    | false => rfl
    | true =>
      exfalso
      have h1 : fstT (kid j) = key.getD 0 0 := hasB_fst hb (ed_ne (hg.1 j hj).1)
      by_cases hl : j < i
      · have := up_lt hg i j hl hi
        omega
      · have := up_lt hg j i (by omega) hj
        omega
  unfold getS
  cases hb : hasB key (edT (kid i)) with
  | true => rw [if_pos rfl]; exact getK_kid hk hi hb (fun j hj => hno j (by omega) (by omega))
  | false =>
    rw [if_neg (by simp)]
    exact getK_none hk (fun j hj => by
      by_cases e : j = i
      · subst e; exact hb
      · exact hno j hj e)
theorem getS_none {e : List Int} {h : Bool} {x : Int} {n : Nat} {d : Nat} {kid : Nat → DTree d} {key : List Int} (hg : kidsG (DTree.node e h x n kid)) (hk : key.length ≠ 0) (hf : ∀ i, i < n → fstT (kid i) ≠ key.getD 0 0) : getK (DTree.node e h x n kid) key = (0, false) :=
  getK_none hk (fun j hj => by
    cases hb : hasB key (edT (kid j)) with
    | false => rfl
    | true => exact absurd (hasB_fst hb (ed_ne (hg.1 j hj).1)) (hf j hj))

/-- A slice of bytes from a place on. -/
theorem RV.sub {w : World} {a : Option Addr} {n c : Nat} {xs : List Int} (h : RV w (.slice a n c) xs) (p : Nat) (hp : p ≤ n) : RV w (.slice (a.map fun x => x.add p) (n - p) (c - p)) (xs.drop p) := by
  obtain ⟨a', c', hv, hr, h1, h2⟩ := h
  simp only [Value.slice.injEq] at hv
  obtain ⟨rfl, rfl, rfl⟩ := hv
  refine ⟨_, _, by rw [List.length_drop], ⟨rfl, fun i hi => ?_, fun x hx => hr.rng x (List.mem_of_mem_drop hx)⟩, by rw [List.length_drop]; omega, by omega⟩
  rw [List.length_drop] at hi
  obtain ⟨b, o, ha, hb, hc⟩ := hr.pos (by omega)
  subst ha
  refine ⟨b, o + p, by simp [Addr.add_lit], ?_⟩
  rw [Nat.add_assoc, hc (p + i) (by omega)]
  simp [List.getD_eq_getElem?_getD, List.getElem?_drop]
theorem RV.sub0 {w : World} {a : Option Addr} {n c : Nat} {xs : List Int} (h : RV w (.slice a n c) xs) (p : Nat) (hp : n ≤ p) : RV w (.slice a 0 0) (xs.drop p) := by
  obtain ⟨a', c', hv, hr, h1, h2⟩ := h
  simp only [Value.slice.injEq] at hv
  obtain ⟨rfl, rfl, rfl⟩ := hv
  have : xs.drop p = [] := List.drop_of_length_le hp
  rw [this]
  exact ⟨_, 0, rfl, Rd.nil _ _, Nat.le_refl _, Nat.zero_le _⟩

end Go.Proofs.Ytpnfcifkmmcllaa
