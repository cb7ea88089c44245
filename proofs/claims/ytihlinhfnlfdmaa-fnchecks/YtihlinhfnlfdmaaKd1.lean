
/- What holds of drawn checks: plain. -/
import Derived.Test.YtihlinhfnlfdmaaCk7o
namespace Go.Proofs.Ytihlinhfnlfdmaa
open Go.RowKit

theorem chkB_iff (C : DChk) : chkB C = true ↔ keyB C.name = true ∧ (0 ≤ C.ttl ∧ C.ttl ≤ 1000) ∧ (1 ≤ C.most ∧ C.most ≤ 5) ∧ (0 ≤ C.st ∧ C.st ≤ 2) ∧ (0 ≤ C.age ∧ C.age ≤ 1000) ∧ (0 ≤ C.fails ∧ C.fails ≤ C.most) ∧ (0 < C.ttl → C.ttl ≤ C.age → C.st = 2) ∧ (C.st = 0 → C.fails = 0) := by
  unfold chkB
  generalize keyB C.name = kb
  simp only [Bool.and_eq_true, Bool.or_eq_true, Bool.not_eq_true', Bool.and_eq_false_iff, decide_eq_true_eq, decide_eq_false_iff_not, Bool.not_eq_false']
  cases kb
  · simp
  · simp only [true_and]
    omega
/-- A check, or the zero value. -/
def GoodC (C : DChk) : Prop := C.name.length ≤ 20 ∧ (chkB C = true ∨ C = zeroChk)
theorem good_zero : GoodC zeroChk := ⟨by simp [zeroChk], .inr rfl⟩
theorem good_new (ts : List Int) (t m : Int) (h : ts.length ≤ 20) : GoodC (newPD ts t m).1 := by
  unfold newPD
  cases hc : chkB ⟨ts, t, m, 2, 0, 0⟩
  · exact good_zero
  · exact ⟨h, .inl hc⟩
theorem pass_ok {C : DChk} (h : chkB C = true) : chkB (passD C).1 = true := by
  rw [chkB_iff] at h ⊢
  obtain ⟨h0, a, b, c, d, e, f, g⟩ := h
  exact ⟨h0, a, b, ⟨Int.le_refl _, by show (0 : Int) ≤ 2; omega⟩, ⟨Int.le_refl _, by show (0 : Int) ≤ 1000; omega⟩, ⟨Int.le_refl _, by show (0 : Int) ≤ C.most; omega⟩, fun h1 h2 => by have h1' : 0 < C.ttl := h1; have h2' : C.ttl ≤ 0 := h2; omega, fun _ => rfl⟩
theorem fail_ok {C : DChk} (h : chkB C = true) : chkB (failD C).1 = true := by
  rw [chkB_iff] at h ⊢
  simp only [failD, failS]
  obtain ⟨h0, a, b, c, d, e, f, g⟩ := h
  refine ⟨h0, a, b, ?_, d, ?_, ?_, ?_⟩
  · split <;> omega
  · omega
  · intro h1 h2
    rw [if_pos (.inr (f h1 h2))]
  · intro h1
    split at h1 <;> omega
theorem tick_okC {C : DChk} {n : Int} (h : chkB C = true) (hn : 0 ≤ n) : chkB (tickD C n).1 = true := by
  have h' := h
  rw [chkB_iff] at h
  unfold tickD
  split
  · exact h'
  · have hA : 0 ≤ tickA C n ∧ tickA C n ≤ 1000 := by unfold tickA; omega
    split
    · rw [chkB_iff]
      obtain ⟨h0, a, b, c, d, e, f, g⟩ := h
      exact ⟨h0, a, b, ⟨by show (0 : Int) ≤ 2; omega, Int.le_refl _⟩, hA, e, fun _ _ => rfl, fun h1 => absurd h1 (by show ¬ ((2 : Int) = 0); omega)⟩
    · rw [chkB_iff]
      obtain ⟨h0, a, b, c, d, e, f, g⟩ := h
      exact ⟨h0, a, b, c, hA, e, fun _ h2 => absurd h2 (by assumption), g⟩
theorem good_pass {C : DChk} (h : GoodC C) : GoodC (passPD C).1 := by
  unfold passPD
  cases hc : chkB C
  · exact good_zero
  · exact ⟨h.1, .inl (pass_ok hc)⟩
theorem good_fail {C : DChk} (h : GoodC C) : GoodC (failPD C).1 := by
  unfold failPD
  cases hc : chkB C
  · exact good_zero
  · exact ⟨h.1, .inl (fail_ok hc)⟩
theorem tickD_name (C : DChk) (n : Int) : (tickD C n).1.name = C.name := by
  unfold tickD
  split
  · rfl
  · split <;> rfl
theorem good_tick {C : DChk} (n : Int) (h : GoodC C) (hn : 0 ≤ n) : GoodC (tickD C n).1 := by
  refine ⟨by rw [tickD_name]; exact h.1, ?_⟩
  rcases h.2 with hc | rfl
  · exact .inl (tick_okC hc hn)
  · exact .inr rfl

end Go.Proofs.Ytihlinhfnlfdmaa
