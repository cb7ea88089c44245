
/- What FnChecks says, told of data. -/
import Derived.Test.YtihlinhfnlfdmaaKd1
import Derived.Test.YtihlinhfnlfdmaaWs13
namespace Go.Proofs.Ytihlinhfnlfdmaa
open Go.RowKit

/-- A check that passed, and failed so often since. -/
def fI (C : DChk) (i : Nat) : DChk := ⟨C.name, C.ttl, C.most, if (i : Int) = 0 then 0 else if (i : Int) < C.most then 1 else 2, 0, i⟩
theorem fI_zero (C : DChk) : fI C 0 = (passD C).1 := rfl
theorem fI_ok {C : DChk} (h : chkB C = true) (i : Nat) (hi : (i : Int) ≤ C.most) : chkB (fI C i) = true := by
  rw [chkB_iff] at h ⊢
  obtain ⟨h0, a, b, c, d, e, f, g⟩ := h
  refine ⟨h0, a, b, ?_, ⟨Int.le_refl _, by show (0 : Int) ≤ 1000; omega⟩, ⟨by show (0 : Int) ≤ (i : Int); omega, hi⟩, fun h1 h2 => ?_, fun h1 => ?_⟩
  · simp only [fI]
    split
    · omega
    · split <;> omega
  · have h1' : 0 < C.ttl := h1
    have h2' : C.ttl ≤ 0 := h2
    omega
  · simp only [fI] at h1 ⊢
    split at h1
    · assumption
    · split at h1 <;> omega
theorem fI_low {C : DChk} (i : Nat) (hi : (i : Int) < C.most) : ((fI C i).st == 2) = false := by
  simp only [fI]
  rw [if_pos hi]
  by_cases h : (i : Int) = 0
  · rw [if_pos h]; rfl
  · rw [if_neg h]; rfl
theorem fI_top {C : DChk} (h : chkB C = true) (i : Nat) (hi : (i : Int) = C.most) : (fI C i).st = 2 := by
  have := chkB_num h
  simp only [fI]
  rw [if_neg (by omega), if_neg (by omega)]
theorem fI_next {C : DChk} (h : chkB C = true) (i : Nat) (hi : (i : Int) < C.most) : (failPD (fI C i)).1 = fI C (i + 1) := by
  unfold failPD
  rw [fI_ok h i (by omega)]
  have e1 : min ((i : Int) + 1) C.most = ((i + 1 : Nat) : Int) := by omega
  have e2 : failS (fI C i) = (fI C (i + 1)).st := by
    unfold failS
    by_cases hm : C.most ≤ (i : Int) + 1
    · have hl : (fI C i).most ≤ (fI C i).fails + 1 := hm
      rw [if_pos (.inl hl)]
      exact (fI_top h (i + 1) (by omega)).symm
    · have hl : ¬ ((fI C i).most ≤ (fI C i).fails + 1 ∨ (fI C i).st = 2) := by
        intro h'
        rcases h' with h' | h'
        · exact hm h'
        · have := fI_low (C := C) i hi
          rw [h'] at this
          exact absurd this (by decide)
      rw [if_neg hl]
      simp only [fI]
      rw [if_neg (by omega), if_pos (by omega)]
  show (⟨C.name, C.ttl, C.most, failS (fI C i), 0, min ((i : Int) + 1) C.most⟩ : DChk) = ⟨C.name, C.ttl, C.most, (fI C (i + 1)).st, 0, ((i + 1 : Nat) : Int)⟩
  rw [e1, e2]
theorem worst_two {P F : DChk} (hp : chkB P = true) (hf : chkB F = true) (h0 : P.st = 0) (h2 : F.st = 2) : worstF 0 [P, F] = 2 := by
  simp only [worstF]
  rw [hp, hf, h0, h2]
  rfl
/-- What a tick of a check tells. -/
theorem tick_tells {C : DChk} {n : Int} (ht : (tickD C n).2 = true) : (tickD C n).1.st = 2 ∧ C.st ≠ 2 := by
  unfold tickD at ht ⊢
  split at ht
  · cases ht
  · rename_i h0
    rw [if_neg h0]
    split at ht
    · rename_i h1
      rw [if_pos h1]
      exact ⟨rfl, by simpa using ht⟩
    · cases ht
/-- What a tick of a check that passed tells. -/
theorem tick_passed {C : DChk} {n : Int} (h : chkB C = true) : (tickD (passD C).1 n).2 = (decide (0 < C.ttl) && decide (C.ttl ≤ n)) ∧ (tickD (passD C).1 n).2 = ((tickD (passD C).1 n).1.st == 2) := by
  have hb := chkB_num h
  by_cases h0 : C.ttl = 0
  · have e : tickD (passD C).1 n = ((passD C).1, false) := if_pos h0
    rw [e, h0]
    exact ⟨rfl, rfl⟩
  · have hA : tickA (passD C).1 n = min n 1000 := by
      unfold tickA
      simp only [passD]
      omega
    by_cases h1 : C.ttl ≤ n
    · have e : tickD (passD C).1 n = (⟨C.name, C.ttl, C.most, 2, tickA (passD C).1 n, 0⟩, true) := (if_neg h0).trans (if_pos (by rw [hA]; show C.ttl ≤ _; omega))
      rw [e]
      refine ⟨?_, rfl⟩
      rw [decide_eq_true (by omega : 0 < C.ttl), decide_eq_true h1]
      rfl
    · have e : tickD (passD C).1 n = (⟨C.name, C.ttl, C.most, 0, tickA (passD C).1 n, 0⟩, false) := (if_neg h0).trans (if_neg (by rw [hA]; show ¬ (C.ttl ≤ _); omega))
      rw [e]
      refine ⟨?_, rfl⟩
      rw [decide_eq_false h1]
      simp

end Go.Proofs.Ytihlinhfnlfdmaa
