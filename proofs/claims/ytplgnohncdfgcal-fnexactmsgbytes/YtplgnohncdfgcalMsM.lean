/- The specification's MsgOk: a place without a term, or a term without a place, of a kind that asks for both. -/
import Derived.Test.YtplgnohncdfgcalMsC0
import Derived.Test.YtplgnohncdfgcalMsP
namespace Go.Proofs.Ytplgnohncdfgcal
open Go.RowKit
set_option linter.unusedSimpArgs false in
set_option maxHeartbeats 40000000 in
set_option maxRecDepth 100000 in
theorem sMsgD (M : DMsg) (v : Value) (w : World) (h : VMsg w v M) (hg : MHeadP M) (hz0 : (!(M.prev == 0) == (M.prevTerm == 0)) = true) (hk3 : (M.kind != 3) = true) (hk1 : (M.kind != 1) = true) :
    Calls Try.prog 23 #[v] w fun e w' => e = .returned (.bool false) ∧ Below w.heap.size w w' := by
  have hB : ∀ w : World, ∀ o, Below w.heap.size w (w.alloc o) := fun w o => (Below.refl _ w).alloc (Nat.le_refl _) _
  obtain ⟨iv, rfl, hi⟩ := h
  obtain ⟨ia, ic, rfl⟩ := items_shape hi
  clear hi
  obtain ⟨⟨q1, q2⟩, ⟨q3, q4⟩, ⟨q5, q6⟩, hg5, ⟨q7, q8⟩, ⟨hp81, hp82⟩, ⟨q9, q10⟩, q11, ⟨q12, q13⟩, q14, q15⟩ := hg
  have HX : Hid (∀ p : Int, 0 ≤ p → p ≤ 400 → IntKind.i64.wrap (400 - p) = 400 - p) := fun p h1 h2 => by rw [IntKind.wrap_i64]; omega
  generalize M.items.length = n at q14 q15 ⊢
  have f1 : decide (M.kind < 0) = false := by simp; omega
  have f2 : decide (3 < M.kind) = false := by simp; omega
  have f3 : (decide (0 ≤ M.from_) && decide (M.from_ < 5)) = true := by simp; omega
  have f4 : (decide (0 ≤ M.to) && decide (M.to < 5)) = true := by simp; omega
  have f5 : (M.from_ == M.to) = false := by simpa using hg5
  have f6 : decide (M.term < 1) = false := by simp; omega
  have f7 : (decide (0 ≤ M.term) && decide (M.term ≤ 100000)) = true := by simp; omega
  have f8 : (decide (0 ≤ M.prev) && decide (M.prev ≤ 400)) = true := by simp; omega
  have f9 : (decide (0 ≤ M.prevTerm) && decide (M.prevTerm ≤ 100000)) = true := by simp; omega
  have f10 : decide (M.term < M.prevTerm) = false := by simp; omega
  have f11 : (decide (0 ≤ M.commit) && decide (M.commit ≤ 400)) = true := by simp; omega
  have f12 : decide (4 < (n : Int)) = false := by simp; omega
  have f13 : decide (400 - M.prev < (n : Int)) = false := by simp; omega
  clear q1 q2 q3 q4 q5 q6 hg5 q7 q8 q9 q10 q11 q12 q13 q14 q15
  go_enter Try.func23, Try.ntmps23
  go_wp2_with (first
      | (go_at_call 66; refine (l3serverV _ _).mono ?_; rintro e wq ⟨rfl, rfl⟩; first | rw [f3] | rw [f4])
      | (go_at_call 67; refine (l3termV _ _).mono ?_; rintro e wq ⟨rfl, rfl⟩; first | rw [f7] | rw [f9])
      | (go_at_call 68; refine (l3placeV _ _).mono ?_; rintro e wq ⟨rfl, rfl⟩; first | rw [f8] | rw [f11]))
  go_ret
  exact ⟨rfl, hB _ _⟩

end Go.Proofs.Ytplgnohncdfgcal
