/- The contract of the program's MsgOk, whole. -/
import Derived.Test.YtplgnohncdfgcalMsG
namespace Go.Proofs.Ytplgnohncdfgcal
open Go.RowKit

/-- What the program says of a message. -/
def saysB (M : DMsg) : Bool := if M.kind = 0 then saysAsk M else if M.kind = 1 then saysVote M else if M.kind = 2 then saysAdd M else if M.kind = 3 then saysAck M else false

set_option maxHeartbeats 4000000 in
theorem iMsgOkB (v : Value) (M : DMsg) (w : World) (h : VMsg w v M) :
    Calls Try.prog 25 #[v] w fun e w' => e = .returned (.bool (saysB M)) ∧ Below w.heap.size w w' := by
  obtain ⟨iv, rfl, h⟩ := h
  by_cases k0 : M.kind = 0
  · have e : saysB M = saysAsk M := if_pos k0
    rw [e, k0]
    exact iMsgOkAsk M iv w h
  by_cases k1 : M.kind = 1
  · have e : saysB M = saysVote M := by unfold saysB; rw [if_neg k0, if_pos k1]
    rw [e, k1]
    exact iMsgOkVote M iv w h
  by_cases k2 : M.kind = 2
  · have e : saysB M = saysAdd M := by unfold saysB; rw [if_neg k0, if_neg k1, if_pos k2]
    rw [e, k2]
    exact iMsgOkAdd M iv w h
  by_cases k3 : M.kind = 3
  · have e : saysB M = saysAck M := by unfold saysB; rw [if_neg k0, if_neg k1, if_neg k2, if_pos k3]
    rw [e, k3]
    exact iMsgOkAck M iv w h
  have HS : Hid (saysB M = false) := by show _ = _; unfold saysB; rw [if_neg k0, if_neg k1, if_neg k2, if_neg k3]
  obtain ⟨ia, ic, rfl⟩ : ∃ a c, iv = .slice a M.items.length c := by
    obtain ⟨C, ⟨a, cap, e, _⟩, _⟩ := h
    exact ⟨a, cap, e⟩
  have d0 : (M.kind == 0) = false := by simpa using k0
  have d1 : (M.kind == 1) = false := by simpa using k1
  have d2 : (M.kind == 2) = false := by simpa using k2
  have d3 : (M.kind == 3) = false := by simpa using k3
  have f0 : ((0 : Int) == M.kind) = false := by rw [beq_eq_false_iff_ne]; omega
  have f1 : ((1 : Int) == M.kind) = false := by rw [beq_eq_false_iff_ne]; omega
  have f2 : ((2 : Int) == M.kind) = false := by rw [beq_eq_false_iff_ne]; omega
  have f3 : ((3 : Int) == M.kind) = false := by rw [beq_eq_false_iff_ne]; omega
  clear k0 k1 k2 k3 h
  have hB : ∀ w : World, ∀ o, Below w.heap.size w (w.alloc o) := fun w o => (Below.refl _ w).alloc (Nat.le_refl _) _
  have HN : Hid (∀ W : World, Calls Try.prog 70 #[.agg #[.int .i64 M.kind, .int .i64 M.from_, .int .i64 M.to, .int .i64 M.term, .int .i64 M.prev, .int .i64 M.prevTerm, .slice ia M.items.length ic, .int .i64 M.commit, .bool M.yes]] W fun e w' => e = .returned (.nilIface) ∧ Below W.heap.size W w') := by
    intro W
    go_enter Try.func70, Try.ntmps70
    go_wp2
    go_ret
    exact ⟨rfl, hB _ _⟩
  go_enter Try.func25, Try.ntmps25
  go_wp2_with (go_at_call 70; refine (HN.out _).mono ?_; rintro e w2 ⟨rfl, b2⟩)
  go_ret
  exact ⟨by rw [HS.out]; rfl, (hB _ _).trans (b2.mono (by simp))⟩

end Go.Proofs.Ytplgnohncdfgcal
