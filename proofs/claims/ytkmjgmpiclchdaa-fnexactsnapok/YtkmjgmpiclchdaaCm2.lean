/- The contract of the specification's CmdOk. -/
import Derived.Test.YtkmjgmpiclchdaaOp3
import Derived.Test.YtkmjgmpiclchdaaCm1
namespace Go.Proofs.Ytkmjgmpiclchdaa
open Go.RowKit

/-- It may be a command. -/
def cmdB (d : DCmd) : Bool :=
  if d.client = -1 then decide (d.req = 0) && decide (d.op.kind = 0) && opB d.op
  else decide (0 ≤ d.client) && decide (d.client < 4) && decide (1 ≤ d.req) && decide (d.req ≤ 1000000) && opB d.op

set_option maxHeartbeats 2000000 in
theorem cmdOkV (v : Value) (d : DCmd) (w : World) (h : VCmd w v d) :
    Calls Try.prog 12 #[v] w fun e w' => e = .returned (.bool (cmdB d)) ∧ Below w.heap.size w w' := by
  obtain ⟨kv, vv, rfl, rk, rv⟩ := h
  obtain ⟨client, req, op⟩ := d
  obtain ⟨kind, ky, vl, n⟩ := op
  simp only at rk rv ⊢
  have hE : ∀ w : World, ∀ o, Ext w (w.alloc o) := fun w o => World.grownBy_alloc _ _ _
  have hB : ∀ w : World, ∀ o, Below w.heap.size w (w.alloc o) := fun w o => (Below.refl _ w).alloc (Nat.le_refl _) _
  have HO : Hid (∀ o, Calls Try.prog 33 #[.agg #[.int .i64 kind, kv, vv, .int .i64 n]] (w.alloc o) fun e w' => e = .returned (.bool (opB ⟨kind, ky, vl, n⟩)) ∧ Below (w.alloc o).heap.size (w.alloc o) w') :=
    fun o => opOkV _ ⟨kind, ky, vl, n⟩ _ ⟨kv, vv, rfl, rk.ext (hE _ _), rv.ext (hE _ _)⟩
  by_cases hm : client = -1
  · subst hm
    by_cases h1 : req = 0
    · subst h1
      by_cases h2 : kind = 0
      · subst h2
        have HC : Hid (cmdB ⟨-1, 0, ⟨0, ky, vl, n⟩⟩ = opB ⟨0, ky, vl, n⟩) := rfl
        generalize opB ⟨0, ky, vl, n⟩ = ob at HO HC
        go_enter Try.func12, Try.ntmps12
        go_wp2_with (go_at_call 33; refine (HO.out _).mono ?_; rintro e w1 ⟨rfl, b1⟩)
        go_ret
        exact ⟨by rw [HC.out]; rfl, (hB _ _).trans (b1.mono (by simp))⟩
      · have HC : Hid (cmdB ⟨-1, 0, ⟨kind, ky, vl, n⟩⟩ = false) := by
          show (if (-1 : Int) = -1 then decide ((0 : Int) = 0) && decide (kind = 0) && opB ⟨kind, ky, vl, n⟩ else _) = false
          rw [if_pos rfl, decide_eq_false h2]
          simp
        have h2' : (kind == 0) = false := by simpa using h2
        go_enter Try.func12, Try.ntmps12
        go_wp2
        go_ret
        exact ⟨by rw [HC.out]; rfl, hB _ _⟩
    · have HC : Hid (cmdB ⟨-1, req, ⟨kind, ky, vl, n⟩⟩ = false) := by
        show (if (-1 : Int) = -1 then decide (req = 0) && decide (kind = 0) && opB ⟨kind, ky, vl, n⟩ else _) = false
        rw [if_pos rfl, decide_eq_false h1]
        simp
      have h1' : (req == 0) = false := by simpa using h1
      go_enter Try.func12, Try.ntmps12
      go_wp2
      go_ret
      exact ⟨by rw [HC.out]; rfl, hB _ _⟩
  · have hm' : (client == -1) = false := by simpa using hm
    by_cases hok : 0 ≤ client ∧ client < 4 ∧ 1 ≤ req ∧ req ≤ 1000000
    · obtain ⟨a1, a2, a3, a4⟩ := hok
      have HC : Hid (cmdB ⟨client, req, ⟨kind, ky, vl, n⟩⟩ = opB ⟨kind, ky, vl, n⟩) := by
        show (if client = -1 then _ else decide (0 ≤ client) && decide (client < 4) && decide (1 ≤ req) && decide (req ≤ 1000000) && opB ⟨kind, ky, vl, n⟩) = _
        rw [if_neg hm, decide_eq_true a1, decide_eq_true a2, decide_eq_true a3, decide_eq_true a4]
        rfl
      generalize opB ⟨kind, ky, vl, n⟩ = ob at HO HC
      go_enter Try.func12, Try.ntmps12
      go_wp2_with (go_at_call 33; refine (HO.out _).mono ?_; rintro e w1 ⟨rfl, b1⟩)
      go_ret
      exact ⟨by rw [HC.out]; rfl, (hB _ _).trans (b1.mono (by simp))⟩
    · have HC : Hid (cmdB ⟨client, req, ⟨kind, ky, vl, n⟩⟩ = false) := by
        show (if client = -1 then _ else decide (0 ≤ client) && decide (client < 4) && decide (1 ≤ req) && decide (req ≤ 1000000) && opB ⟨kind, ky, vl, n⟩) = _
        rw [if_neg hm]
        have : (decide (0 ≤ client) && decide (client < 4) && decide (1 ≤ req) && decide (req ≤ 1000000)) = false := by simp; omega
        rw [this]
        rfl
      clear HO
      by_cases a1 : 0 ≤ client
      · by_cases a2 : client < 4
        · by_cases a3 : 1 ≤ req
          · have a4 : ¬ req ≤ 1000000 := by omega
            have d4 : decide (req ≤ 1000000) = false := decide_eq_false a4
            clear hok
            go_enter Try.func12, Try.ntmps12
            go_wp2
            go_ret
            exact ⟨by rw [HC.out]; rfl, hB _ _⟩
          · have d3 : decide (1 ≤ req) = false := decide_eq_false a3
            clear hok
            go_enter Try.func12, Try.ntmps12
            go_wp2
            go_ret
            exact ⟨by rw [HC.out]; rfl, hB _ _⟩
        · have d2 : decide (client < 4) = false := decide_eq_false a2
          clear hok
          go_enter Try.func12, Try.ntmps12
          go_wp2
          go_ret
          exact ⟨by rw [HC.out]; rfl, hB _ _⟩
      · have d1 : decide (0 ≤ client) = false := decide_eq_false a1
        clear hok
        go_enter Try.func12, Try.ntmps12
        go_wp2
        go_ret
        exact ⟨by rw [HC.out]; rfl, hB _ _⟩

end Go.Proofs.Ytkmjgmpiclchdaa
