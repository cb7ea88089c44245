/- Contracts of GetNum at every place, and of GetText: the specification's and the program's. -/
import Derived.Test.YtbkifmbkmjjbnaiGet
import Derived.Test.YtbkifmbkmjjbnaiConc
namespace Go.Proofs.Ytbkifmbkmjjbnai
open Go.RowKit

theorem dec_facts (f i : Nat) (A S : Int) (l : List Int) (t : Int) (hA : 0 ≤ A) (hS : 0 ≤ S) (hl : ∀ x ∈ l, 0 ≤ x ∧ x ≤ 255) :
    dec f i A S l t = (0, -1) ∨ (0 ≤ (dec f i A S l t).1 ∧ (dec f i A S l t).1 ≤ 2147483647 ∧ t + i < (dec f i A S l t).2 ∧ (dec f i A S l t).2 ≤ t + i + l.length) := by
  induction f generalizing i A S l with
  | zero => exact .inl rfl
  | succ f ih =>
    cases l with
    | nil => exact .inl rfl
    | cons c r =>
      have hc := hl c (List.mem_cons_self ..)
      have hcS : 0 ≤ c % 128 * S := Int.mul_nonneg (by omega) hS
      by_cases h : 128 ≤ c
      · rw [dec_go h]
        rcases ih (i + 1) (A + c % 128 * S) (S * 128) r (by omega) (by omega) (fun x hx => hl x (List.mem_cons_of_mem _ hx)) with e | ⟨e1, e2, e3, e4⟩
        · exact .inl e
        · right
          simp only [List.length_cons]
          exact ⟨e1, e2, by omega, by omega⟩
      · by_cases h2 : (c = 0 ∧ 0 < i) ∨ 2147483647 < A + c % 128 * S
        · exact .inl (dec_bad (by omega) h2)
        · rw [dec_ok (by omega) h2]
          right
          simp only [List.length_cons]
          exact ⟨by omega, by omega, by omega, by omega⟩

theorem gn_facts (xs : List Int) (t : Int) (hl : ∀ x ∈ xs, 0 ≤ x ∧ x ≤ 255) :
    gn xs t = (0, -1) ∨ (0 ≤ (gn xs t).1 ∧ (gn xs t).1 ≤ 2147483647 ∧ 0 ≤ t ∧ t < (gn xs t).2 ∧ (gn xs t).2 ≤ xs.length) := by
  unfold gn
  by_cases h : t < 0
  · rw [if_pos h]; exact .inl rfl
  · rw [if_neg h]
    by_cases hx : xs.length ≤ t.toNat
    · rw [List.drop_of_length_le hx, dec_nil]; exact .inl rfl
    · rcases dec_facts 5 0 0 1 (xs.drop t.toNat) t (by omega) (by omega) (fun x hx => hl x (List.mem_of_mem_drop hx)) with e | ⟨e1, e2, e3, e4⟩
      · exact .inl e
      · right
        rw [List.length_drop] at e4
        exact ⟨e1, e2, by omega, by omega, by omega⟩

set_option maxHeartbeats 1000000 in
theorem sGet (a : Option Addr) (n cap : Nat) (xs : List Int) (t : Int) (w : World) (hr : Rd w a n xs) (hn : n ≤ 2097152) (ht1 : t ≤ 9223372036854775807) :
    Calls Try.prog 14 #[.slice a n cap, .int .i64 t] w fun e w' => e = .returned (pairV (gn xs t)) ∧ w' = w := by
  by_cases h0 : t < 0
  · have HG : Hid (gn xs t = (0, -1)) := gn_neg xs t h0
    go_enter Try.func14, Try.ntmps14
    go_wp2
    go_ret2
    exact ⟨ret_pair HG.out, rfl⟩
  · obtain ⟨t, rfl⟩ := Int.eq_ofNat_of_zero_le (show 0 ≤ t by omega)
    by_cases ht : t < n
    · obtain ⟨b, o, rfl, _, _⟩ := hr.pos (by omega)
      exact sGet_in b o n cap xs t w hr hn ht
    · have HG : Hid (gn xs t = (0, -1)) := gn_past xs t (by have := hr.len; omega)
      have h0' : ¬ ((t : Int) < 0) := by omega
      have hge : ¬ (0 : Int) < (n : Int) - (t : Int) := by omega
      go_enter Try.func14, Try.ntmps14
      go_wp2
      refine wp_loop_rounds 1 ?_
      rw [rounds_succ]
      go_wp2
      go_ret2
      exact ⟨ret_pair HG.out, rfl⟩

set_option maxHeartbeats 1000000 in
theorem iGet (a : Option Addr) (n cap : Nat) (xs : List Int) (t : Int) (w : World) (hr : Rd w a n xs) (hn : n ≤ 2097152) (hcap : n ≤ cap) (hcap2 : cap ≤ 9223372036854775807) (ht1 : t ≤ 9223372036854775807) :
    Calls Try.prog 15 #[.slice a n cap, .int .i64 t] w fun e w' => e = .returned (pairV (gn xs t)) ∧ w' = w := by
  by_cases h0 : t < 0
  · have HG : Hid (gn xs t = (0, -1)) := gn_neg xs t h0
    go_enter Try.func15, Try.ntmps15
    go_wp2
    go_ret2
    exact ⟨ret_pair HG.out, rfl⟩
  · obtain ⟨t, rfl⟩ := Int.eq_ofNat_of_zero_le (show 0 ≤ t by omega)
    by_cases ht : t < n
    · obtain ⟨b, o, rfl, _, _⟩ := hr.pos (by omega)
      by_cases h5 : n ≤ t + 5
      · exact iGet_a b o n cap xs t w hr hn hcap hcap2 ht h5
      · exact iGet_b b o n cap xs t w hr hn hcap hcap2 ht (by omega)
    · have HG : Hid (gn xs t = (0, -1)) := gn_past xs t (by have := hr.len; omega)
      have h0' : ¬ ((t : Int) < 0) := by omega
      have hge : (n : Int) ≤ (t : Int) := by omega
      go_enter Try.func15, Try.ntmps15
      go_wp2
      go_ret2
      exact ⟨ret_pair HG.out, rfl⟩

/-- The text that stands in xs from t on, and the place behind it. -/
def gt (xs : List Int) (t : Int) : List Int × Int :=
  if (gn xs t).2 < 0 ∨ 20 < (gn xs t).1 ∨ (xs.length : Int) - (gn xs t).2 < (gn xs t).1 then ([], -1)
  else ((xs.drop (gn xs t).2.toNat).take (gn xs t).1.toNat, (gn xs t).2 + (gn xs t).1)

theorem rd_sub {w : World} {b o n : Nat} {xs : List Int} (hr : Rd w (some ⟨b, o, none⟩) n xs) (p k : Nat) (h : p + k ≤ n) : Rd w (some ⟨b, o + p, none⟩) k ((xs.drop p).take k) := by
  refine ⟨by have := hr.len; simp; omega, fun i hi => ⟨b, o + p, rfl, ?_⟩, fun x hx => hr.rng x (List.mem_of_mem_drop (List.mem_of_mem_take hx))⟩
  obtain ⟨b', o', e, _, hc⟩ := hr.pos (by omega)
  simp only [Option.some.injEq, Addr.mk.injEq, and_true] at e
  obtain ⟨rfl, rfl⟩ := e
  rw [Nat.add_assoc, hc (p + i) (by omega)]
  have := hr.len
  simp [List.getD, hi, show p + i < xs.length by omega]

theorem gt_rng (xs : List Int) (t : Int) (hl : ∀ x ∈ xs, 0 ≤ x ∧ x ≤ 255) : ∀ x ∈ (gt xs t).1, 0 ≤ x ∧ x ≤ 255 := by
  unfold gt
  split
  · intro x hx; cases hx
  · intro x hx; exact hl x (List.mem_of_mem_drop (List.mem_of_mem_take hx))

theorem gt_len (xs : List Int) (t : Int) : (gt xs t).1.length ≤ 20 := by
  unfold gt
  split
  · simp
  · rename_i h
    simp only [List.length_take]
    omega

/-- The ways through GetText, told by numbers: the number is m, the place behind it p. -/
theorem gt_cases (xs : List Int) (t : Int) (hl : ∀ x ∈ xs, 0 ≤ x ∧ x ≤ 255) :
    (∃ m p : Int, gn xs t = (m, p) ∧ (p < 0 ∨ 0 ≤ p ∧ 20 < m ∨ 0 ≤ p ∧ m ≤ 20 ∧ (xs.length : Int) - p < m) ∧ gt xs t = ([], -1) ∧ -1 ≤ p ∧ p ≤ xs.length ∧ 0 ≤ m ∧ m ≤ 2147483647) ∨
    (∃ m p : Nat, gn xs t = ((m : Int), (p : Int)) ∧ m ≤ 20 ∧ 0 < p ∧ p + m ≤ xs.length ∧ gt xs t = ((xs.drop p).take m, (p : Int) + m)) := by
  have hf := gn_facts xs t hl
  obtain ⟨m, p, e⟩ : ∃ m p, gn xs t = (m, p) := ⟨_, _, rfl⟩
  rw [e] at hf
  simp only at hf
  unfold gt
  rw [e]
  simp only
  have hb : -1 ≤ p ∧ p ≤ xs.length ∧ 0 ≤ m ∧ m ≤ 2147483647 := by
    rcases hf with hf | hf
    · simp only [Prod.mk.injEq] at hf; omega
    · omega
  by_cases h : p < 0 ∨ 20 < m ∨ (xs.length : Int) - p < m
  · left
    exact ⟨m, p, rfl, by omega, by rw [if_pos h], hb⟩
  · right
    have hp : 0 < p := by
      rcases hf with hf | hf
      · simp only [Prod.mk.injEq] at hf; omega
      · omega
    obtain ⟨m, rfl⟩ := Int.eq_ofNat_of_zero_le (show 0 ≤ m by omega)
    obtain ⟨p, rfl⟩ := Int.eq_ofNat_of_zero_le (show 0 ≤ p by omega)
    exact ⟨m, p, rfl, by omega, by omega, by omega, by rw [if_neg h]; simp⟩

end Go.Proofs.Ytbkifmbkmjjbnai
