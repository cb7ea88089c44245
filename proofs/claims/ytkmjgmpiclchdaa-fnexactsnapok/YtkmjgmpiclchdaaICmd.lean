/- The contract of the program's CmdOk. -/
import Derived.Test.YtkmjgmpiclchdaaIOp
import Derived.Test.YtkmjgmpiclchdaaCm2
namespace Go.Proofs.Ytkmjgmpiclchdaa
open Go.RowKit

set_option maxHeartbeats 2000000 in
theorem iCmdOkV (v : Value) (d : DCmd) (w : World) (h : VCmd w v d) :
    Calls Try.prog 19 #[v] w fun e w' => e = .returned (.bool (cmdB d)) ∧ Below w.heap.size w w' := by
  obtain ⟨kv, vv, rfl, rk, rv⟩ := h
  obtain ⟨client, req, op⟩ := d
  obtain ⟨kind, ky, vl, n⟩ := op
  simp only at rk rv ⊢
  have hE : ∀ w : World, ∀ o, Ext w (w.alloc o) := fun w o => World.grownBy_alloc _ _ _
  have hB : ∀ w : World, ∀ o, Below w.heap.size w (w.alloc o) := fun w o => (Below.refl _ w).alloc (Nat.le_refl _) _
  have HO : Hid (∀ o, Calls Try.prog 45 #[.agg #[.int .i64 kind, kv, vv, .int .i64 n]] (w.alloc o) fun e w' => e = .returned (.bool (opB ⟨kind, ky, vl, n⟩)) ∧ Below (w.alloc o).heap.size (w.alloc o) w') :=
    fun o => iOpOkV _ ⟨kind, ky, vl, n⟩ _ ⟨kv, vv, rfl, rk.ext (hE _ _), rv.ext (hE _ _)⟩
  by_cases hm : client = -1
  · subst hm
    have HC : Hid (cmdB ⟨-1, req, ⟨kind, ky, vl, n⟩⟩ = (decide (req = 0) && decide (kind = 0) && opB ⟨kind, ky, vl, n⟩)) := if_pos rfl
    generalize opB ⟨kind, ky, vl, n⟩ = ob at HO HC
    by_cases h1 : req = 0
    · by_cases h2 : kind = 0
      · subst h1 h2
        go_enter Try.func19, Try.ntmps19
        go_wp2_with (go_at_call 45; refine (HO.out _).mono ?_; rintro e w1 ⟨rfl, b1⟩)
        go_ret
        exact ⟨by rw [HC.out]; simp, (hB _ _).trans (b1.mono (by simp))⟩
      · subst h1
        have h2' : (kind == 0) = false := by simpa using h2
        go_enter Try.func19, Try.ntmps19
        go_wp2
        go_ret
        exact ⟨by rw [HC.out]; simp [h2], hB _ _⟩
    · have h1' : (req == 0) = false := by simpa using h1
      go_enter Try.func19, Try.ntmps19
      go_wp2
      go_ret
      exact ⟨by rw [HC.out]; simp [h1], hB _ _⟩
  · have hm' : (client == -1) = false := by simpa using hm
    obtain ⟨c1, h1⟩ : ∃ c, c = inB client 0 3 := ⟨_, rfl⟩
    obtain ⟨c2, h2⟩ : ∃ c, c = inB req 1 1000000 := ⟨_, rfl⟩
    have HC : Hid (cmdB ⟨client, req, ⟨kind, ky, vl, n⟩⟩ = (c1 && c2 && opB ⟨kind, ky, vl, n⟩)) := by
      show (if client = -1 then _ else decide (0 ≤ client) && decide (client < 4) && decide (1 ≤ req) && decide (req ≤ 1000000) && opB ⟨kind, ky, vl, n⟩) = _
      rw [if_neg hm, h1, h2, Bool.eq_iff_iff]
      simp only [inB, Bool.and_eq_true, decide_eq_true_eq]
      generalize opB ⟨kind, ky, vl, n⟩ = ob
      cases ob
      · simp
      · simp only [and_true]; omega
    have H1 : Hid (c1 = inB client 0 3) := h1
    have H2 : Hid (c2 = inB req 1 1000000) := h2
    clear h1 h2
    generalize opB ⟨kind, ky, vl, n⟩ = ob at HO HC
    cases c1
    · go_enter Try.func19, Try.ntmps19
      go_wp2_with (go_at_call 39; refine (withinV _ _ _ _).mono ?_; rintro e w2 ⟨rfl, rfl⟩; first | rw [← H1.out] | rw [← H2.out])
      go_ret
      exact ⟨by rw [HC.out]; simp, hB _ _⟩
    · cases c2
      · go_enter Try.func19, Try.ntmps19
        go_wp2_with (go_at_call 39; refine (withinV _ _ _ _).mono ?_; rintro e w2 ⟨rfl, rfl⟩; first | rw [← H1.out] | rw [← H2.out])
        go_ret
        exact ⟨by rw [HC.out]; simp, hB _ _⟩
      · go_enter Try.func19, Try.ntmps19
        go_wp2_with (first
          | (go_at_call 39; refine (withinV _ _ _ _).mono ?_; rintro e w2 ⟨rfl, rfl⟩; first | rw [← H1.out] | rw [← H2.out])
          | (go_at_call 45; refine (HO.out _).mono ?_; rintro e w1 ⟨rfl, b1⟩))
        go_ret
        exact ⟨by rw [HC.out]; simp, (hB _ _).trans (b1.mono (by simp))⟩

end Go.Proofs.Ytkmjgmpiclchdaa
