/- The specification's small tests of a server. -/
import Derived.Test.YtdcbajejgphlgaaNdB
import Derived.Test.YtdcbajejgphlgaaIt2
import Derived.Test.YtdcbajejgphlgaaSum0
namespace Go.Proofs.Ytdcbajejgphlgaa
open Go.RowKit

set_option maxHeartbeats 2000000 in
theorem l4serversV (n : Int) (w : World) : Calls Try.prog 34 #[.int .i64 n] w fun e w' => e = .returned (.bool (decide (1 ≤ n) && decide (n ≤ 5))) ∧ w' = w := by
  by_cases h1 : 1 ≤ n
  · go_enter Try.func34, Try.ntmps34
    go_wp2
    go_ret
    exact ⟨by simp [h1], rfl⟩
  · have d1 : decide (1 ≤ n) = false := decide_eq_false h1
    go_enter Try.func34, Try.ntmps34
    go_wp2
    go_ret
    exact ⟨rfl, rfl⟩
set_option maxHeartbeats 2000000 in
theorem l4whoV (n s : Int) (w : World) : Calls Try.prog 36 #[.int .i64 n, .int .i64 s] w fun e w' => e = .returned (.bool (decide (-1 ≤ n) && decide (n < s))) ∧ w' = w := by
  by_cases h1 : -1 ≤ n
  · go_enter Try.func36, Try.ntmps36
    go_wp2
    go_ret
    exact ⟨by simp [h1], rfl⟩
  · have d1 : decide (-1 ≤ n) = false := decide_eq_false h1
    go_enter Try.func36, Try.ntmps36
    go_wp2
    go_ret
    exact ⟨rfl, rfl⟩
set_option maxHeartbeats 2000000 in
theorem l3termN (n : Int) (w : World) : Calls Try.prog 35 #[.int .i64 n] w fun e w' => e = .returned (.bool (decide (0 ≤ n) && decide (n ≤ 100000))) ∧ w' = w := by
  by_cases h1 : 0 ≤ n
  · go_enter Try.func35, Try.ntmps35
    go_wp2
    go_ret
    exact ⟨by simp [h1], rfl⟩
  · have d1 : decide (0 ≤ n) = false := decide_eq_false h1
    go_enter Try.func35, Try.ntmps35
    go_wp2
    go_ret
    exact ⟨rfl, rfl⟩

/-- Item number i may follow in the log. -/
def NItemAt (M : DNode) (i : Nat) : Prop := ∀ d, M.log[i]? = some d → itemB d = true ∧ d.term ≤ M.term ∧ (∀ p, 0 < i → M.log[i - 1]? = some p → p.term ≤ d.term)
def NHeadP (M : DNode) (s : Int) : Prop := (1 ≤ s ∧ s ≤ 5) ∧ (0 ≤ M.id ∧ M.id < s) ∧ (0 ≤ M.term ∧ M.term ≤ 100000) ∧ (-1 ≤ M.vote ∧ M.vote < s) ∧ M.log.length ≤ 400 ∧ (0 ≤ M.commit ∧ M.commit ≤ M.log.length) ∧ (0 ≤ M.role ∧ M.role ≤ 2) ∧ (-1 ≤ M.lead ∧ M.lead < s) ∧ (0 ≤ M.wait ∧ M.wait ≤ 20) ∧ (M.votes.length : Int) = s ∧ (M.next.length : Int) = s ∧ (M.mat.length : Int) = s
def NRoleP (M : DNode) : Prop := M.role ≠ 0 → 1 ≤ M.term ∧ M.vote = M.id
/-- What is kept of server number i. -/
def NEntryAt (M : DNode) (i : Nat) : Prop := ∀ b n m, M.votes[i]? = some b → M.next[i]? = some n → M.mat[i]? = some m → (M.role = 2 → (1 ≤ n ∧ n ≤ M.log.length + 1) ∧ (0 ≤ m ∧ m ≤ M.log.length)) ∧ (M.role ≠ 2 → n = 0 ∧ m = 0) ∧ (M.role = 0 → b = false)
def NLeadP (M : DNode) : Prop := M.role = 2 → M.lead = M.id
/-- It may be a server. -/
def NodeP (M : DNode) (s : Int) : Prop := NHeadP M s ∧ (∀ i, i < M.log.length → NItemAt M i) ∧ NRoleP M ∧ (∀ i, i < M.votes.length → NEntryAt M i) ∧ NLeadP M

end Go.Proofs.Ytdcbajejgphlgaa
