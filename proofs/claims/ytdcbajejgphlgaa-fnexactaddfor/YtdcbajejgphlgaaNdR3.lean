/- The program's roleOk: no role at all. -/
import Derived.Test.YtdcbajejgphlgaaNdR
namespace Go.Proofs.Ytdcbajejgphlgaa
open Go.RowKit

set_option linter.unusedSimpArgs false in
set_option linter.unusedVariables false in
set_option maxHeartbeats 40000000 in
set_option maxRecDepth 100000 in
theorem roleOkV3 (M : DNode) (s : Int) (v : Value) (w : World) (h : VNode w v M) (hr0 : ¬ M.role = 0) (hr1 : ¬ M.role = 1) (hr2 : ¬ M.role = 2) :
    Calls Try.prog 43 #[v, .int .i64 s] w fun e w' => e = .returned (.bool false) ∧ Below w.heap.size w w' := by
  have hB : ∀ w : World, ∀ o, Below w.heap.size w (w.alloc o) := fun w o => (Below.refl _ w).alloc (Nat.le_refl _) _
  obtain ⟨lv, bv, nv, mv, rfl, hi, hbv, hnv, hmv⟩ := h
  obtain ⟨ia, ic, rfl⟩ := items_shape hi
  obtain ⟨ba, bc, rfl⟩ := vl_shape hbv
  obtain ⟨na, nc, rfl⟩ := vl_shape hnv
  obtain ⟨ma, mc, rfl⟩ := vl_shape hmv
  clear hi hbv hnv hmv
  generalize M.votes.length = n1
  generalize M.next.length = n2
  generalize M.mat.length = n3
  generalize M.log.length = n
  have p0 : (M.role == 0) = false := by simpa using hr0
  have p1 : (M.role == 1) = false := by simpa using hr1
  have p2 : (M.role == 2) = false := by simpa using hr2
  clear hr0 hr1 hr2
  cases u1 : ((n1 : Int) != s)
  case true =>
    go_enter Try.func43, Try.ntmps43
    go_wp2
    go_ret
    exact ⟨rfl, hB _ _⟩
  cases u2 : ((n2 : Int) != s)
  case true =>
    go_enter Try.func43, Try.ntmps43
    go_wp2
    go_ret
    exact ⟨rfl, hB _ _⟩
  cases u3 : ((n3 : Int) != s)
  case true =>
    go_enter Try.func43, Try.ntmps43
    go_wp2
    go_ret
    exact ⟨rfl, hB _ _⟩
  cases g1 : decide (1 ≤ M.term)
  case false =>
    go_enter Try.func43, Try.ntmps43
    go_wp2
    go_ret
    exact ⟨rfl, hB _ _⟩
  cases g2 : (M.vote == M.id)
  case false =>
    go_enter Try.func43, Try.ntmps43
    go_wp2
    go_ret
    exact ⟨rfl, hB _ _⟩
  go_enter Try.func43, Try.ntmps43
  go_wp2
  go_ret
  exact ⟨rfl, hB _ _⟩

end Go.Proofs.Ytdcbajejgphlgaa
