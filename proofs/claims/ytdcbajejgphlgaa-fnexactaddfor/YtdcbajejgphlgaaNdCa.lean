/- The specification's NodeOk: a head that may not be is refused (part). -/
import Derived.Test.YtdcbajejgphlgaaNdC0
namespace Go.Proofs.Ytdcbajejgphlgaa
open Go.RowKit

set_option linter.unusedVariables false in
set_option linter.unusedSimpArgs false in
set_option maxHeartbeats 40000000 in
set_option maxRecDepth 100000 in
theorem sNH1 (M : DNode) (s : Int) (v : Value) (w : World) (h : VNode w v M)  (f1 : (decide (1 ≤ s) && decide (s ≤ 5)) = false) :
    Calls Try.prog 16 #[v, .int .i64 s] w fun e w' => e = .returned (.bool false) ∧ Below w.heap.size w w' := by
  have hB : ∀ w : World, ∀ o, Below w.heap.size w (w.alloc o) := fun w o => (Below.refl _ w).alloc (Nat.le_refl _) _
  obtain ⟨lv, bv, nv, mv, rfl, hi, hb, hn, hm⟩ := h
  obtain ⟨ia, ic, rfl⟩ := items_shape hi
  obtain ⟨ba, bc, rfl⟩ := vl_shape hb
  obtain ⟨na, nc, rfl⟩ := vl_shape hn
  obtain ⟨ma, mc, rfl⟩ := vl_shape hm
  clear hi hb hn hm
  generalize M.log.length = n at *
  generalize M.votes.length = n1 at *
  generalize M.next.length = n2 at *
  generalize M.mat.length = n3 at *
  go_enter Try.func16, Try.ntmps16
  go_wp2_with (first
      | (go_at_call 34; refine (l4serversV _ _).mono ?_; rintro e wq ⟨rfl, rfl⟩; rw [f1])
      | (go_at_call 35; refine (l3termN _ _).mono ?_; rintro e wq ⟨rfl, rfl⟩; rw [f4])
      | (go_at_call 36; refine (l4whoV _ _ _).mono ?_; rintro e wq ⟨rfl, rfl⟩; first | rw [f5] | rw [f11]))
  go_ret
  exact ⟨rfl, hB _ _⟩

set_option linter.unusedVariables false in
set_option linter.unusedSimpArgs false in
set_option maxHeartbeats 40000000 in
set_option maxRecDepth 100000 in
theorem sNH2 (M : DNode) (s : Int) (v : Value) (w : World) (h : VNode w v M) (f1 : (decide (1 ≤ s) && decide (s ≤ 5)) = true) (f2 : decide (M.id < 0) = true) :
    Calls Try.prog 16 #[v, .int .i64 s] w fun e w' => e = .returned (.bool false) ∧ Below w.heap.size w w' := by
  have hB : ∀ w : World, ∀ o, Below w.heap.size w (w.alloc o) := fun w o => (Below.refl _ w).alloc (Nat.le_refl _) _
  obtain ⟨lv, bv, nv, mv, rfl, hi, hb, hn, hm⟩ := h
  obtain ⟨ia, ic, rfl⟩ := items_shape hi
  obtain ⟨ba, bc, rfl⟩ := vl_shape hb
  obtain ⟨na, nc, rfl⟩ := vl_shape hn
  obtain ⟨ma, mc, rfl⟩ := vl_shape hm
  clear hi hb hn hm
  generalize M.log.length = n at *
  generalize M.votes.length = n1 at *
  generalize M.next.length = n2 at *
  generalize M.mat.length = n3 at *
  go_enter Try.func16, Try.ntmps16
  go_wp2_with (first
      | (go_at_call 34; refine (l4serversV _ _).mono ?_; rintro e wq ⟨rfl, rfl⟩; rw [f1])
      | (go_at_call 35; refine (l3termN _ _).mono ?_; rintro e wq ⟨rfl, rfl⟩; rw [f4])
      | (go_at_call 36; refine (l4whoV _ _ _).mono ?_; rintro e wq ⟨rfl, rfl⟩; first | rw [f5] | rw [f11]))
  go_ret
  exact ⟨rfl, hB _ _⟩

set_option linter.unusedVariables false in
set_option linter.unusedSimpArgs false in
set_option maxHeartbeats 40000000 in
set_option maxRecDepth 100000 in
theorem sNH3 (M : DNode) (s : Int) (v : Value) (w : World) (h : VNode w v M) (f1 : (decide (1 ≤ s) && decide (s ≤ 5)) = true) (f2 : decide (M.id < 0) = false) (f3 : decide (s ≤ M.id) = true) :
    Calls Try.prog 16 #[v, .int .i64 s] w fun e w' => e = .returned (.bool false) ∧ Below w.heap.size w w' := by
  have hB : ∀ w : World, ∀ o, Below w.heap.size w (w.alloc o) := fun w o => (Below.refl _ w).alloc (Nat.le_refl _) _
  obtain ⟨lv, bv, nv, mv, rfl, hi, hb, hn, hm⟩ := h
  obtain ⟨ia, ic, rfl⟩ := items_shape hi
  obtain ⟨ba, bc, rfl⟩ := vl_shape hb
  obtain ⟨na, nc, rfl⟩ := vl_shape hn
  obtain ⟨ma, mc, rfl⟩ := vl_shape hm
  clear hi hb hn hm
  generalize M.log.length = n at *
  generalize M.votes.length = n1 at *
  generalize M.next.length = n2 at *
  generalize M.mat.length = n3 at *
  go_enter Try.func16, Try.ntmps16
  go_wp2_with (first
      | (go_at_call 34; refine (l4serversV _ _).mono ?_; rintro e wq ⟨rfl, rfl⟩; rw [f1])
      | (go_at_call 35; refine (l3termN _ _).mono ?_; rintro e wq ⟨rfl, rfl⟩; rw [f4])
      | (go_at_call 36; refine (l4whoV _ _ _).mono ?_; rintro e wq ⟨rfl, rfl⟩; first | rw [f5] | rw [f11]))
  go_ret
  exact ⟨rfl, hB _ _⟩

set_option linter.unusedVariables false in
set_option linter.unusedSimpArgs false in
set_option maxHeartbeats 40000000 in
set_option maxRecDepth 100000 in
theorem sNH4 (M : DNode) (s : Int) (v : Value) (w : World) (h : VNode w v M) (f1 : (decide (1 ≤ s) && decide (s ≤ 5)) = true) (f2 : decide (M.id < 0) = false) (f3 : decide (s ≤ M.id) = false) (f4 : (decide (0 ≤ M.term) && decide (M.term ≤ 100000)) = false) :
    Calls Try.prog 16 #[v, .int .i64 s] w fun e w' => e = .returned (.bool false) ∧ Below w.heap.size w w' := by
  have hB : ∀ w : World, ∀ o, Below w.heap.size w (w.alloc o) := fun w o => (Below.refl _ w).alloc (Nat.le_refl _) _
  obtain ⟨lv, bv, nv, mv, rfl, hi, hb, hn, hm⟩ := h
  obtain ⟨ia, ic, rfl⟩ := items_shape hi
  obtain ⟨ba, bc, rfl⟩ := vl_shape hb
  obtain ⟨na, nc, rfl⟩ := vl_shape hn
  obtain ⟨ma, mc, rfl⟩ := vl_shape hm
  clear hi hb hn hm
  generalize M.log.length = n at *
  generalize M.votes.length = n1 at *
  generalize M.next.length = n2 at *
  generalize M.mat.length = n3 at *
  go_enter Try.func16, Try.ntmps16
  go_wp2_with (first
      | (go_at_call 34; refine (l4serversV _ _).mono ?_; rintro e wq ⟨rfl, rfl⟩; rw [f1])
      | (go_at_call 35; refine (l3termN _ _).mono ?_; rintro e wq ⟨rfl, rfl⟩; rw [f4])
      | (go_at_call 36; refine (l4whoV _ _ _).mono ?_; rintro e wq ⟨rfl, rfl⟩; first | rw [f5] | rw [f11]))
  go_ret
  exact ⟨rfl, hB _ _⟩

set_option linter.unusedVariables false in
set_option linter.unusedSimpArgs false in
set_option maxHeartbeats 40000000 in
set_option maxRecDepth 100000 in
theorem sNH5 (M : DNode) (s : Int) (v : Value) (w : World) (h : VNode w v M) (f1 : (decide (1 ≤ s) && decide (s ≤ 5)) = true) (f2 : decide (M.id < 0) = false) (f3 : decide (s ≤ M.id) = false) (f4 : (decide (0 ≤ M.term) && decide (M.term ≤ 100000)) = true) (f5 : (decide (-1 ≤ M.vote) && decide (M.vote < s)) = false) :
    Calls Try.prog 16 #[v, .int .i64 s] w fun e w' => e = .returned (.bool false) ∧ Below w.heap.size w w' := by
  have hB : ∀ w : World, ∀ o, Below w.heap.size w (w.alloc o) := fun w o => (Below.refl _ w).alloc (Nat.le_refl _) _
  obtain ⟨lv, bv, nv, mv, rfl, hi, hb, hn, hm⟩ := h
  obtain ⟨ia, ic, rfl⟩ := items_shape hi
  obtain ⟨ba, bc, rfl⟩ := vl_shape hb
  obtain ⟨na, nc, rfl⟩ := vl_shape hn
  obtain ⟨ma, mc, rfl⟩ := vl_shape hm
  clear hi hb hn hm
  generalize M.log.length = n at *
  generalize M.votes.length = n1 at *
  generalize M.next.length = n2 at *
  generalize M.mat.length = n3 at *
  go_enter Try.func16, Try.ntmps16
  go_wp2_with (first
      | (go_at_call 34; refine (l4serversV _ _).mono ?_; rintro e wq ⟨rfl, rfl⟩; rw [f1])
      | (go_at_call 35; refine (l3termN _ _).mono ?_; rintro e wq ⟨rfl, rfl⟩; rw [f4])
      | (go_at_call 36; refine (l4whoV _ _ _).mono ?_; rintro e wq ⟨rfl, rfl⟩; first | rw [f5] | rw [f11]))
  go_ret
  exact ⟨rfl, hB _ _⟩

set_option linter.unusedVariables false in
set_option linter.unusedSimpArgs false in
set_option maxHeartbeats 40000000 in
set_option maxRecDepth 100000 in
theorem sNH6 (M : DNode) (s : Int) (v : Value) (w : World) (h : VNode w v M) (f1 : (decide (1 ≤ s) && decide (s ≤ 5)) = true) (f2 : decide (M.id < 0) = false) (f3 : decide (s ≤ M.id) = false) (f4 : (decide (0 ≤ M.term) && decide (M.term ≤ 100000)) = true) (f5 : (decide (-1 ≤ M.vote) && decide (M.vote < s)) = true) (f6 : decide (400 < (M.log.length : Int)) = true) :
    Calls Try.prog 16 #[v, .int .i64 s] w fun e w' => e = .returned (.bool false) ∧ Below w.heap.size w w' := by
  have hB : ∀ w : World, ∀ o, Below w.heap.size w (w.alloc o) := fun w o => (Below.refl _ w).alloc (Nat.le_refl _) _
  obtain ⟨lv, bv, nv, mv, rfl, hi, hb, hn, hm⟩ := h
  obtain ⟨ia, ic, rfl⟩ := items_shape hi
  obtain ⟨ba, bc, rfl⟩ := vl_shape hb
  obtain ⟨na, nc, rfl⟩ := vl_shape hn
  obtain ⟨ma, mc, rfl⟩ := vl_shape hm
  clear hi hb hn hm
  generalize M.log.length = n at *
  generalize M.votes.length = n1 at *
  generalize M.next.length = n2 at *
  generalize M.mat.length = n3 at *
  go_enter Try.func16, Try.ntmps16
  go_wp2_with (first
      | (go_at_call 34; refine (l4serversV _ _).mono ?_; rintro e wq ⟨rfl, rfl⟩; rw [f1])
      | (go_at_call 35; refine (l3termN _ _).mono ?_; rintro e wq ⟨rfl, rfl⟩; rw [f4])
      | (go_at_call 36; refine (l4whoV _ _ _).mono ?_; rintro e wq ⟨rfl, rfl⟩; first | rw [f5] | rw [f11]))
  go_ret
  exact ⟨rfl, hB _ _⟩

end Go.Proofs.Ytdcbajejgphlgaa
