/- What was put is got, and bytes that are read are just the number's: plain mathematics of numbers and texts as bytes. It holds over every program. -/
import Derived.Test.YtbkifmbkmjjbnabGet0
namespace Go.Proofs.Ytbkifmbkmjjbnab
open Go.RowKit

theorem split_mul (n S : Int) : n % 128 * S + n / 128 * (S * 128) = n * S := by
  have h : n / 128 * 128 + n % 128 = n := by omega
  have e : n / 128 * (S * 128) = n / 128 * 128 * S := by
    rw [Int.mul_comm S 128, ← Int.mul_assoc]
  rw [e, ← Int.add_mul, Int.add_comm, h]

theorem dec_enc (g f i : Nat) (A S n t : Int) (r : List Int) (hf : g < f) (hn0 : 0 ≤ n) (hn1 : n < pow128 g) (hb : A + n * S ≤ 2147483647) (hi : 0 < i → n ≠ 0) :
    dec f i A S (encF g n ++ r) t = (A + n * S, t + i + (encF g n).length) := by
  induction g generalizing f i A S n with
  | zero =>
    obtain ⟨f, rfl⟩ : ∃ k, f = k + 1 := ⟨f - 1, by omega⟩
    simp only [pow128] at hn1
    have e : n % 128 = n := by omega
    have h1 := dec_ok (f := f) (i := i) (A := A) (S := S) (c := n) (t := t) (r := r) (by omega) (by rw [e]; omega)
    rw [e] at h1
    simpa [encF] using h1
  | succ g ih =>
    obtain ⟨f, rfl⟩ : ∃ k, f = k + 1 := ⟨f - 1, by omega⟩
    by_cases h : 127 < n
    · have e : (n % 128 + 128) % 128 = n % 128 := by omega
      have hs := split_mul n S
      rw [encF, if_pos h, List.cons_append, dec_go (by omega), e]
      rw [ih f (i + 1) (A + n % 128 * S) (S * 128) (n / 128) (by omega) (by omega) (by simp only [pow128] at hn1; omega) (by omega) (fun _ => by omega)]
      simp only [List.length_cons, Prod.mk.injEq]
      constructor
      · omega
      · omega
    · have e : n % 128 = n := by omega
      have h1 := dec_ok (f := f) (i := i) (A := A) (S := S) (c := n) (t := t) (r := r) (by omega) (by rw [e]; omega)
      rw [e] at h1
      rw [encF, if_neg h]
      simpa using h1

/-- A number's bytes, wherever they stand, are read as the number. -/
theorem gn_put (bs r : List Int) (n : Int) (h0 : 0 ≤ n) (h1 : n ≤ 2147483647) : gn (bs ++ numL n ++ r) bs.length = (n, (bs.length : Int) + (numL n).length) := by
  have hN : numL n = encF 4 n := by unfold numL; rw [if_pos ⟨h0, h1⟩]
  unfold gn
  rw [if_neg (by omega), Int.toNat_natCast, List.append_assoc, List.drop_left, hN, dec_enc 4 5 0 0 1 n bs.length r (by omega) h0 (by simp only [pow128]; omega) (by omega) (by omega)]
  simp

/-- Whatever bytes are read as a number are just its bytes. -/
theorem dec_inv (f i : Nat) (A S : Int) (l : List Int) (t : Int) (hl : ∀ x ∈ l, 0 ≤ x ∧ x ≤ 255) (hs : 0 ≤ (dec f i A S l t).2) :
    ∃ (n : Int) (g : Nat), g < f ∧ 0 ≤ n ∧ n < pow128 g ∧ (dec f i A S l t).1 = A + n * S ∧ (0 < i → n ≠ 0) ∧ (dec f i A S l t).2 = t + i + (encF g n).length ∧ encF g n = l.take (encF g n).length := by
  induction f generalizing i A S l with
  | zero => simp [dec] at hs
  | succ f ih =>
    cases l with
    | nil => simp [dec] at hs
    | cons c r =>
      have hc := hl c (List.mem_cons_self ..)
      by_cases h : 128 ≤ c
      · rw [dec_go h] at hs ⊢
        obtain ⟨n, g, hg, hn0, hn1, e1, e2, e3, e4⟩ := ih (i + 1) (A + c % 128 * S) (S * 128) r (fun x hx => hl x (List.mem_cons_of_mem _ hx)) hs
        have hnz := e2 (by omega)
        have hm : (n * 128 + c % 128) % 128 = c % 128 := by omega
        have hd : (n * 128 + c % 128) / 128 = n := by omega
        have he : encF (g + 1) (n * 128 + c % 128) = c :: encF g n := by
          rw [encF, if_pos (by omega), hm, hd, show c % 128 + 128 = c by omega]
        have hsm := split_mul (n * 128 + c % 128) S
        rw [hm, hd] at hsm
        refine ⟨n * 128 + c % 128, g + 1, by omega, by omega, by simp only [pow128]; omega, by rw [e1]; omega, fun _ => by omega, ?_, ?_⟩
        · rw [e3, he]
          simp only [List.length_cons]
          omega
        · rw [he]
          simp only [List.length_cons, List.take_succ_cons]
          rw [← e4]
      · by_cases h2 : (c = 0 ∧ 0 < i) ∨ 2147483647 < A + c % 128 * S
        · rw [dec_bad (by omega) h2] at hs
          simp at hs
        · rw [dec_ok (by omega) h2] at hs ⊢
          have e : c % 128 = c := by omega
          refine ⟨c, 0, by omega, hc.1, by simp only [pow128]; omega, by rw [e], fun hi => by omega, by simp [encF], by simp [encF]⟩

theorem encF_more (g : Nat) (n : Int) (h : n < pow128 g) : encF (g + 1) n = encF g n := by
  induction g generalizing n with
  | zero =>
    simp only [pow128] at h
    show (if 127 < n then (n % 128 + 128) :: encF 0 (n / 128) else [n]) = [n]
    rw [if_neg (by omega)]
  | succ g ih =>
    rw [encF]
    conv => rhs; rw [encF]
    by_cases h1 : 127 < n
    · rw [if_pos h1, if_pos h1, ih (n / 128) (by simp only [pow128] at h; omega)]
    · rw [if_neg h1, if_neg h1]
theorem pow_mono (g : Nat) : pow128 g ≤ pow128 (g + 1) := by
  induction g with
  | zero => simp [pow128]
  | succ g ih => simp only [pow128] at ih ⊢; omega
theorem encF_upto (g d : Nat) (n : Int) (h : n < pow128 g) : encF (g + d) n = encF g n := by
  have hle : ∀ k, pow128 g ≤ pow128 (g + k) := fun k => by
    induction k with
    | zero => exact Int.le_refl _
    | succ k ih => exact Int.le_trans ih (pow_mono _)
  induction d with
  | zero => rfl
  | succ d ih => rw [← Nat.add_assoc, encF_more (g + d) n (by have := hle d; omega), ih]

theorem gn_inv (xs : List Int) (t : Int) (hl : ∀ x ∈ xs, 0 ≤ x ∧ x ≤ 255) (hs : 0 ≤ (gn xs t).2) :
    0 ≤ t ∧ xs.take t.toNat ++ numL (gn xs t).1 = xs.take (gn xs t).2.toNat := by
  have hf := gn_facts xs t hl
  have ht : 0 ≤ t := by
    rcases hf with hf | hf
    · rw [hf] at hs; simp at hs
    · exact hf.2.2.1
  refine ⟨ht, ?_⟩
  have hk : 0 ≤ (gn xs t).1 ∧ (gn xs t).1 ≤ 2147483647 ∧ (gn xs t).2 ≤ xs.length := by
    rcases hf with hf | hf
    · rw [hf] at hs; simp at hs
    · exact ⟨hf.1, hf.2.1, hf.2.2.2.2⟩
  have hN : numL (gn xs t).1 = encF 4 (gn xs t).1 := by unfold numL; rw [if_pos ⟨hk.1, hk.2.1⟩]
  rw [hN]
  have hg : gn xs t = dec 5 0 0 1 (xs.drop t.toNat) t := by unfold gn; rw [if_neg (by omega)]
  rw [hg] at hs ⊢
  obtain ⟨n, g, hg5, hn0, hn1, e1, _, e3, e4⟩ := dec_inv 5 0 0 1 (xs.drop t.toNat) t (fun x hx => hl x (List.mem_of_mem_drop hx)) hs
  have e1' : (dec 5 0 0 1 (xs.drop t.toNat) t).1 = n := by omega
  have h4 : encF 4 n = encF g n := by
    have := encF_upto g (4 - g) n hn1
    rwa [show g + (4 - g) = 4 by omega] at this
  rw [e1', h4]
  have e3' : (dec 5 0 0 1 (xs.drop t.toNat) t).2.toNat = t.toNat + (encF g n).length := by omega
  rw [e3', List.take_add, ← e4]

/-- A text's bytes, wherever they stand, are read as the text. -/
theorem gt_put (cs ts : List Int) (h : ts.length ≤ 20) : gt (textL cs ts) cs.length = (ts, ((textL cs ts).length : Int)) := by
  have hT : textL cs ts = cs ++ numL ts.length ++ ts := by unfold textL; rw [if_pos h]
  have hg := gn_put cs ts ts.length (by omega) (by omega)
  unfold gt
  rw [hT, hg]
  simp only [List.length_append]
  rw [if_neg (by omega)]
  simp only [Prod.mk.injEq]
  refine ⟨?_, by omega⟩
  have e : ((cs.length : Int) + ((numL (ts.length : Int)).length : Int)).toNat = (cs ++ numL ts.length).length := by simp; omega
  rw [e, List.drop_left, Int.toNat_natCast, List.take_of_length_le (Nat.le_refl _)]

end Go.Proofs.Ytbkifmbkmjjbnab
