/- Numbers and texts read from bytes: plain mathematics, and what a slice of a slice reads as. It holds over every program. -/
import Derived.Test.YtbkifmbkmjjbnabBytes
namespace Go.Proofs.Ytbkifmbkmjjbnab
open Go.RowKit

/-- Reading on: f bytes may still come; i have been read, they say A; S is the next one's scale. -/
def dec : Nat → Nat → Int → Int → List Int → Int → Int × Int
  | 0, _, _, _, _, _ => (0, -1)
  | _ + 1, _, _, _, [], _ => (0, -1)
  | f + 1, i, A, S, c :: r, t =>
    if 128 ≤ c then dec f (i + 1) (A + c % 128 * S) (S * 128) r t
    else if (c = 0 ∧ 0 < i) ∨ 2147483647 < A + c % 128 * S then (0, -1) else (A + c % 128 * S, t + i + 1)

/-- The number that stands in xs from t on, and the place behind it. -/
def gn (xs : List Int) (t : Int) : Int × Int := if t < 0 then (0, -1) else dec 5 0 0 1 (xs.drop t.toNat) t

def pairV (p : Int × Int) : Value := .tuple #[.int .i64 p.1, .int .i64 p.2]

theorem dec_go {f i : Nat} {A S c t : Int} {r : List Int} (h : 128 ≤ c) : dec (f + 1) i A S (c :: r) t = dec f (i + 1) (A + c % 128 * S) (S * 128) r t := by
  rw [dec, if_pos h]
theorem dec_bad {f i : Nat} {A S c t : Int} {r : List Int} (h : c < 128) (h2 : (c = 0 ∧ 0 < i) ∨ 2147483647 < A + c % 128 * S) : dec (f + 1) i A S (c :: r) t = (0, -1) := by
  rw [dec, if_neg (by omega), if_pos h2]
theorem dec_ok {f i : Nat} {A S c t : Int} {r : List Int} (h : c < 128) (h2 : ¬ ((c = 0 ∧ 0 < i) ∨ 2147483647 < A + c % 128 * S)) : dec (f + 1) i A S (c :: r) t = (A + c % 128 * S, t + i + 1) := by
  rw [dec, if_neg (by omega), if_neg h2]
theorem dec_nil {f i : Nat} {A S t : Int} : dec f i A S [] t = (0, -1) := by
  cases f <;> rfl

theorem drop_at (xs : List Int) (j n : Nat) (hl : xs.length = n) (h : j < n) : xs.drop j = xs.getD j 0 :: xs.drop (j + 1) := by
  rw [List.drop_eq_getElem_cons (by omega)]
  simp [List.getD, show j < xs.length by omega]
theorem rng_at {xs : List Int} (h : ∀ x ∈ xs, 0 ≤ x ∧ x ≤ 255) (j : Nat) (hj : j < xs.length) : 0 ≤ xs.getD j 0 ∧ xs.getD j 0 ≤ 255 := by
  have := h (xs[j]) (List.getElem_mem hj)
  simpa [List.getD, hj] using this

theorem and127 (c : Int) (h0 : 0 ≤ c) (h1 : c ≤ 255) : bits .and .u8 c 127 = c % 128 := bits_mask .u8 8 (by decide) wraps_u8 7 (by decide) c h0 (by omega)
theorem wraps_i64 (n : Int) (h₀ : 0 ≤ n) (h₁ : n < 2 ^ 63) : IntKind.i64.wrap n = n := by rw [IntKind.wrap_i64]; omega
theorem or_join (i : Nat) (A y : Int) (hy0 : 0 ≤ y) (hy : y % 2 ^ i = 0) (hy1 : y < 2 ^ 63) (hA0 : 0 ≤ A) (hA : A < 2 ^ i) (hA1 : A < 2 ^ 63) : bits .or .i64 A y = A + y := by
  have hc : bits .or .i64 A y = bits .or .i64 y A := by simp only [bits, BitVec.or_comm]
  rw [hc, bits_join .i64 63 (by decide) wraps_i64 i y A hy0 hy hy1 hA0 hA hA1]
  omega

theorem ret_pair {a b : Int} {p : Int × Int} (h : p = (a, b)) : Ending.returned (.tuple #[.int .i64 a, .int .i64 b]) = .returned (pairV p) := by rw [h]; rfl

theorem gn_neg (xs : List Int) (t : Int) (h : t < 0) : gn xs t = (0, -1) := by unfold gn; rw [if_pos h]
theorem gn_past (xs : List Int) (t : Nat) (h : xs.length ≤ t) : gn xs t = (0, -1) := by
  unfold gn
  rw [if_neg (by omega), Int.toNat_natCast, List.drop_of_length_le h, dec_nil]

/-- 128 to the k, up to 5. -/
def p128 : Nat → Int
  | 0 => 1
  | 1 => 128
  | 2 => 16384
  | 3 => 2097152
  | 4 => 268435456
  | _ => 34359738368

theorem dec_facts (f i : Nat) (A S : Int) (l : List Int) (t : Int) (hA : 0 ≤ A) (hS : 0 ≤ S) (hl : ∀ x ∈ l, 0 ≤ x ∧ x ≤ 255) :
    dec f i A S l t = (0, -1) ∨ (0 ≤ (dec f i A S l t).1 ∧ (dec f i A S l t).1 ≤ 2147483647 ∧ t + i < (dec f i A S l t).2 ∧ (dec f i A S l t).2 ≤ t + i + l.length) := by
  induction f generalizing i A S l with
  | zero => exact .inl rfl
  | succ f ih =>
    cases l with
    | nil => exact .inl rfl
    | cons c r =>
      have hc := hl c (List.mem_cons_self ..)
      have hcS : 0 ≤ c % 128 * S := Int.mul_nonneg (by omega) hS
      by_cases h : 128 ≤ c
      · rw [dec_go h]
        rcases ih (i + 1) (A + c % 128 * S) (S * 128) r (by omega) (by omega) (fun x hx => hl x (List.mem_cons_of_mem _ hx)) with e | ⟨e1, e2, e3, e4⟩
        · exact .inl e
        · right
          simp only [List.length_cons]
          exact ⟨e1, e2, by omega, by omega⟩
      · by_cases h2 : (c = 0 ∧ 0 < i) ∨ 2147483647 < A + c % 128 * S
        · exact .inl (dec_bad (by omega) h2)
        · rw [dec_ok (by omega) h2]
          right
          simp only [List.length_cons]
          exact ⟨by omega, by omega, by omega, by omega⟩

theorem gn_facts (xs : List Int) (t : Int) (hl : ∀ x ∈ xs, 0 ≤ x ∧ x ≤ 255) :
    gn xs t = (0, -1) ∨ (0 ≤ (gn xs t).1 ∧ (gn xs t).1 ≤ 2147483647 ∧ 0 ≤ t ∧ t < (gn xs t).2 ∧ (gn xs t).2 ≤ xs.length) := by
  unfold gn
  by_cases h : t < 0
  · rw [if_pos h]; exact .inl rfl
  · rw [if_neg h]
    by_cases hx : xs.length ≤ t.toNat
    · rw [List.drop_of_length_le hx, dec_nil]; exact .inl rfl
    · rcases dec_facts 5 0 0 1 (xs.drop t.toNat) t (by omega) (by omega) (fun x hx => hl x (List.mem_of_mem_drop hx)) with e | ⟨e1, e2, e3, e4⟩
      · exact .inl e
      · right
        rw [List.length_drop] at e4
        exact ⟨e1, e2, by omega, by omega, by omega⟩

/-- The text that stands in xs from t on, and the place behind it. -/
def gt (xs : List Int) (t : Int) : List Int × Int :=
  if (gn xs t).2 < 0 ∨ 20 < (gn xs t).1 ∨ (xs.length : Int) - (gn xs t).2 < (gn xs t).1 then ([], -1)
  else ((xs.drop (gn xs t).2.toNat).take (gn xs t).1.toNat, (gn xs t).2 + (gn xs t).1)

theorem rd_sub {w : World} {b o n : Nat} {xs : List Int} (hr : Rd w (some ⟨b, o, none⟩) n xs) (p k : Nat) (h : p + k ≤ n) : Rd w (some ⟨b, o + p, none⟩) k ((xs.drop p).take k) := by
  refine ⟨by have := hr.len; simp; omega, fun i hi => ⟨b, o + p, rfl, ?_⟩, fun x hx => hr.rng x (List.mem_of_mem_drop (List.mem_of_mem_take hx))⟩
  obtain ⟨b', o', e, _, hc⟩ := hr.pos (by omega)
  simp only [Option.some.injEq, Addr.mk.injEq, and_true] at e
  obtain ⟨rfl, rfl⟩ := e
  rw [Nat.add_assoc, hc (p + i) (by omega)]
  have := hr.len
  simp [List.getD, hi, show p + i < xs.length by omega]

theorem gt_rng (xs : List Int) (t : Int) (hl : ∀ x ∈ xs, 0 ≤ x ∧ x ≤ 255) : ∀ x ∈ (gt xs t).1, 0 ≤ x ∧ x ≤ 255 := by
  unfold gt
  split
  · intro x hx; cases hx
  · intro x hx; exact hl x (List.mem_of_mem_drop (List.mem_of_mem_take hx))

theorem gt_len (xs : List Int) (t : Int) : (gt xs t).1.length ≤ 20 := by
  unfold gt
  split
  · simp
  · rename_i h
    simp only [List.length_take]
    omega

/-- The ways through GetText, told by numbers: the number is m, the place behind it p. -/
theorem gt_cases (xs : List Int) (t : Int) (hl : ∀ x ∈ xs, 0 ≤ x ∧ x ≤ 255) :
    (∃ m p : Int, gn xs t = (m, p) ∧ (p < 0 ∨ 0 ≤ p ∧ 20 < m ∨ 0 ≤ p ∧ m ≤ 20 ∧ (xs.length : Int) - p < m) ∧ gt xs t = ([], -1) ∧ -1 ≤ p ∧ p ≤ xs.length ∧ 0 ≤ m ∧ m ≤ 2147483647) ∨
    (∃ m p : Nat, gn xs t = ((m : Int), (p : Int)) ∧ m ≤ 20 ∧ 0 < p ∧ p + m ≤ xs.length ∧ gt xs t = ((xs.drop p).take m, (p : Int) + m)) := by
  have hf := gn_facts xs t hl
  obtain ⟨m, p, e⟩ : ∃ m p, gn xs t = (m, p) := ⟨_, _, rfl⟩
  rw [e] at hf
  simp only at hf
  unfold gt
  rw [e]
  simp only
  have hb : -1 ≤ p ∧ p ≤ xs.length ∧ 0 ≤ m ∧ m ≤ 2147483647 := by
    rcases hf with hf | hf
    · simp only [Prod.mk.injEq] at hf; omega
    · omega
  by_cases h : p < 0 ∨ 20 < m ∨ (xs.length : Int) - p < m
  · left
    exact ⟨m, p, rfl, by omega, by rw [if_pos h], hb⟩
  · right
    have hp : 0 < p := by
      rcases hf with hf | hf
      · simp only [Prod.mk.injEq] at hf; omega
      · omega
    obtain ⟨m, rfl⟩ := Int.eq_ofNat_of_zero_le (show 0 ≤ m by omega)
    obtain ⟨p, rfl⟩ := Int.eq_ofNat_of_zero_le (show 0 ≤ p by omega)
    exact ⟨m, p, rfl, by omega, by omega, by omega, by rw [if_neg h]; simp⟩

def GtPost (xs : List Int) (t : Int) (w : World) (e : Ending) (w' : World) : Prop :=
  ∃ v, e = .returned (.tuple #[v, .int .i64 (gt xs t).2]) ∧ Ow w' w.heap.size v (gt xs t).1 ∧ Below w.heap.size w w'

end Go.Proofs.Ytbkifmbkmjjbnab
