
/- The specification's CheckOk. -/
import Derived.Test.YtjkhadaoldbceaaCk1
namespace Go.Proofs.Ytjkhadaoldbceaa
open Go.RowKit

set_option maxHeartbeats 2000000 in
theorem sCheckOkV (v : Value) (C : DChk) (w : World) (h : VChk w v C) :
    Calls Try.prog 38 #[v] w fun e w' => e = .returned (.bool (chkB C)) ∧ Below w.heap.size w w' := by
  have hE : ∀ w : World, ∀ o, Ext w (w.alloc o) := fun w o => World.grownBy_alloc _ _ _
  have hB : ∀ w : World, ∀ o, Below w.heap.size w (w.alloc o) := fun w o => (Below.refl _ w).alloc (Nat.le_refl _) _
  have HM : Hid (chkB C = chkB C) := rfl
  obtain ⟨ov, rfl, ho⟩ := h
  obtain ⟨os, t, m, s, a, f⟩ := C
  have HN : Hid (chkB ⟨os, t, m, s, a, f⟩ = (keyB os && decide (0 ≤ t) && decide (t ≤ 1000) && decide (1 ≤ m) && decide (m ≤ 5) && decide (0 ≤ s) && decide (s ≤ 2) && decide (0 ≤ a) && decide (a ≤ 1000) && decide (0 ≤ f) && decide (f ≤ m) && !(decide (0 < t) && decide (t ≤ a) && !decide (s = 2)) && (!decide (s = 0) || decide (f = 0)))) := rfl
  clear HM
  generalize chkB ⟨os, t, m, s, a, f⟩ = mb at HN ⊢
  simp only at ho ⊢
  go_enter Try.func38, Try.ntmps38
  cases h0 : keyB os
  · have HK : Hid (mb = false) := by show _ = _; rw [HN.out, h0]; simp
    go_wp2_with (go_at_call 44; refine (l2keyV ov os _ (ho.ext (hE _ _))).mono ?_; rintro e w1 ⟨rfl, rfl⟩; rw [h0])
    go_ret
    exact ⟨by rw [HK.out]; rfl, hB _ _⟩
  · have h2t : (s != 2) = true → s ≠ 2 := by simp
    have h2f : (s != 2) = false → s = 2 := by simp
    go_wp2_with (go_at_call 44; refine (l2keyV ov os _ (ho.ext (hE _ _))).mono ?_; rintro e w1 ⟨rfl, rfl⟩; rw [h0])
    all_goals
      go_ret
      have HX : mb = _ := HN.out
      rw [h0] at HX
      clear HN
      have HL : ∀ x : Bool, (x = true ↔ (true && decide (0 ≤ t) && decide (t ≤ 1000) && decide (1 ≤ m) && decide (m ≤ 5) && decide (0 ≤ s) && decide (s ≤ 2) && decide (0 ≤ a) && decide (a ≤ 1000) && decide (0 ≤ f) && decide (f ≤ m) && !(decide (0 < t) && decide (t ≤ a) && !decide (s = 2)) && (!decide (s = 0) || decide (f = 0))) = true) → Ending.returned (Value.bool x) = Ending.returned (Value.bool mb) := fun x h => by rw [HX, Bool.eq_iff_iff.2 h]
      clear HX
      first
      | refine ⟨HL false ?_, hB _ _⟩
      | refine ⟨HL (f == 0) ?_, hB _ _⟩
      | refine ⟨HL true ?_, hB _ _⟩
      simp only [Bool.and_eq_true, Bool.or_eq_true, Bool.not_eq_true', Bool.and_eq_false_iff, decide_eq_true_eq, decide_eq_false_iff_not, Bool.not_eq_false', beq_iff_eq, Bool.false_eq_true, true_and, false_iff, true_iff]
      first
      | omega
      | (have h2 := h2t (by assumption); omega)
      | (have h2 := h2f (by assumption); omega)

end Go.Proofs.Ytjkhadaoldbceaa
