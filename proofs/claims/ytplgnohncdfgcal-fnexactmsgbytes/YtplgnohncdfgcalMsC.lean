/- The specification's MsgOk: a head that may not be is refused. -/
import Derived.Test.YtplgnohncdfgcalMsC0
import Derived.Test.YtplgnohncdfgcalMsP
namespace Go.Proofs.Ytplgnohncdfgcal
open Go.RowKit

set_option maxHeartbeats 40000000 in
set_option maxRecDepth 100000 in
theorem sMsgHead (M : DMsg) (v : Value) (w : World) (h : VMsg w v M) (hbad : ¬ MHeadP M) :
    Calls Try.prog 23 #[v] w fun e w' => e = .returned (.bool false) ∧ Below w.heap.size w w' := by
  have hB : ∀ w : World, ∀ o, Below w.heap.size w (w.alloc o) := fun w o => (Below.refl _ w).alloc (Nat.le_refl _) _
  obtain ⟨iv, rfl, hi⟩ := h
  obtain ⟨ia, ic, rfl⟩ := items_shape hi
  have HBAD : Hid (¬ MHeadP M) := hbad
  unfold MHeadP at HBAD
  clear hi hbad
  generalize M.items.length = n at HBAD ⊢
  have HX : Hid (∀ p : Int, 0 ≤ p → p ≤ 400 → IntKind.i64.wrap (400 - p) = 400 - p) := fun p h1 h2 => by rw [IntKind.wrap_i64]; omega
  cases f1 : decide (M.kind < 0)
  case true =>
    clear HBAD
    go_enter Try.func23, Try.ntmps23
    go_wp2_with (first
      | (go_at_call 66; refine (l3serverV _ _).mono ?_; rintro e wq ⟨rfl, rfl⟩; first | rw [f3] | rw [f4])
      | (go_at_call 67; refine (l3termV _ _).mono ?_; rintro e wq ⟨rfl, rfl⟩; first | rw [f7] | rw [f9])
      | (go_at_call 68; refine (l3placeV _ _).mono ?_; rintro e wq ⟨rfl, rfl⟩; first | rw [f8] | rw [f11]))
    go_ret
    exact ⟨rfl, hB _ _⟩
  cases f2 : decide (3 < M.kind)
  case true =>
    clear HBAD
    go_enter Try.func23, Try.ntmps23
    go_wp2_with (first
      | (go_at_call 66; refine (l3serverV _ _).mono ?_; rintro e wq ⟨rfl, rfl⟩; first | rw [f3] | rw [f4])
      | (go_at_call 67; refine (l3termV _ _).mono ?_; rintro e wq ⟨rfl, rfl⟩; first | rw [f7] | rw [f9])
      | (go_at_call 68; refine (l3placeV _ _).mono ?_; rintro e wq ⟨rfl, rfl⟩; first | rw [f8] | rw [f11]))
    go_ret
    exact ⟨rfl, hB _ _⟩
  cases f3 : (decide (0 ≤ M.from_) && decide (M.from_ < 5))
  case false =>
    clear HBAD
    go_enter Try.func23, Try.ntmps23
    go_wp2_with (first
      | (go_at_call 66; refine (l3serverV _ _).mono ?_; rintro e wq ⟨rfl, rfl⟩; first | rw [f3] | rw [f4])
      | (go_at_call 67; refine (l3termV _ _).mono ?_; rintro e wq ⟨rfl, rfl⟩; first | rw [f7] | rw [f9])
      | (go_at_call 68; refine (l3placeV _ _).mono ?_; rintro e wq ⟨rfl, rfl⟩; first | rw [f8] | rw [f11]))
    go_ret
    exact ⟨rfl, hB _ _⟩
  cases f4 : (decide (0 ≤ M.to) && decide (M.to < 5))
  case false =>
    clear HBAD
    go_enter Try.func23, Try.ntmps23
    go_wp2_with (first
      | (go_at_call 66; refine (l3serverV _ _).mono ?_; rintro e wq ⟨rfl, rfl⟩; first | rw [f3] | rw [f4])
      | (go_at_call 67; refine (l3termV _ _).mono ?_; rintro e wq ⟨rfl, rfl⟩; first | rw [f7] | rw [f9])
      | (go_at_call 68; refine (l3placeV _ _).mono ?_; rintro e wq ⟨rfl, rfl⟩; first | rw [f8] | rw [f11]))
    go_ret
    exact ⟨rfl, hB _ _⟩
  cases f5 : (M.from_ == M.to)
  case true =>
    clear HBAD
    go_enter Try.func23, Try.ntmps23
    go_wp2_with (first
      | (go_at_call 66; refine (l3serverV _ _).mono ?_; rintro e wq ⟨rfl, rfl⟩; first | rw [f3] | rw [f4])
      | (go_at_call 67; refine (l3termV _ _).mono ?_; rintro e wq ⟨rfl, rfl⟩; first | rw [f7] | rw [f9])
      | (go_at_call 68; refine (l3placeV _ _).mono ?_; rintro e wq ⟨rfl, rfl⟩; first | rw [f8] | rw [f11]))
    go_ret
    exact ⟨rfl, hB _ _⟩
  cases f6 : decide (M.term < 1)
  case true =>
    clear HBAD
    go_enter Try.func23, Try.ntmps23
    go_wp2_with (first
      | (go_at_call 66; refine (l3serverV _ _).mono ?_; rintro e wq ⟨rfl, rfl⟩; first | rw [f3] | rw [f4])
      | (go_at_call 67; refine (l3termV _ _).mono ?_; rintro e wq ⟨rfl, rfl⟩; first | rw [f7] | rw [f9])
      | (go_at_call 68; refine (l3placeV _ _).mono ?_; rintro e wq ⟨rfl, rfl⟩; first | rw [f8] | rw [f11]))
    go_ret
    exact ⟨rfl, hB _ _⟩
  cases f7 : (decide (0 ≤ M.term) && decide (M.term ≤ 100000))
  case false =>
    clear HBAD
    go_enter Try.func23, Try.ntmps23
    go_wp2_with (first
      | (go_at_call 66; refine (l3serverV _ _).mono ?_; rintro e wq ⟨rfl, rfl⟩; first | rw [f3] | rw [f4])
      | (go_at_call 67; refine (l3termV _ _).mono ?_; rintro e wq ⟨rfl, rfl⟩; first | rw [f7] | rw [f9])
      | (go_at_call 68; refine (l3placeV _ _).mono ?_; rintro e wq ⟨rfl, rfl⟩; first | rw [f8] | rw [f11]))
    go_ret
    exact ⟨rfl, hB _ _⟩
  cases f8 : (decide (0 ≤ M.prev) && decide (M.prev ≤ 400))
  case false =>
    clear HBAD
    go_enter Try.func23, Try.ntmps23
    go_wp2_with (first
      | (go_at_call 66; refine (l3serverV _ _).mono ?_; rintro e wq ⟨rfl, rfl⟩; first | rw [f3] | rw [f4])
      | (go_at_call 67; refine (l3termV _ _).mono ?_; rintro e wq ⟨rfl, rfl⟩; first | rw [f7] | rw [f9])
      | (go_at_call 68; refine (l3placeV _ _).mono ?_; rintro e wq ⟨rfl, rfl⟩; first | rw [f8] | rw [f11]))
    go_ret
    exact ⟨rfl, hB _ _⟩
  cases f9 : (decide (0 ≤ M.prevTerm) && decide (M.prevTerm ≤ 100000))
  case false =>
    clear HBAD
    go_enter Try.func23, Try.ntmps23
    go_wp2_with (first
      | (go_at_call 66; refine (l3serverV _ _).mono ?_; rintro e wq ⟨rfl, rfl⟩; first | rw [f3] | rw [f4])
      | (go_at_call 67; refine (l3termV _ _).mono ?_; rintro e wq ⟨rfl, rfl⟩; first | rw [f7] | rw [f9])
      | (go_at_call 68; refine (l3placeV _ _).mono ?_; rintro e wq ⟨rfl, rfl⟩; first | rw [f8] | rw [f11]))
    go_ret
    exact ⟨rfl, hB _ _⟩
  cases f10 : decide (M.term < M.prevTerm)
  case true =>
    clear HBAD
    go_enter Try.func23, Try.ntmps23
    go_wp2_with (first
      | (go_at_call 66; refine (l3serverV _ _).mono ?_; rintro e wq ⟨rfl, rfl⟩; first | rw [f3] | rw [f4])
      | (go_at_call 67; refine (l3termV _ _).mono ?_; rintro e wq ⟨rfl, rfl⟩; first | rw [f7] | rw [f9])
      | (go_at_call 68; refine (l3placeV _ _).mono ?_; rintro e wq ⟨rfl, rfl⟩; first | rw [f8] | rw [f11]))
    go_ret
    exact ⟨rfl, hB _ _⟩
  cases f11 : (decide (0 ≤ M.commit) && decide (M.commit ≤ 400))
  case false =>
    clear HBAD
    go_enter Try.func23, Try.ntmps23
    go_wp2_with (first
      | (go_at_call 66; refine (l3serverV _ _).mono ?_; rintro e wq ⟨rfl, rfl⟩; first | rw [f3] | rw [f4])
      | (go_at_call 67; refine (l3termV _ _).mono ?_; rintro e wq ⟨rfl, rfl⟩; first | rw [f7] | rw [f9])
      | (go_at_call 68; refine (l3placeV _ _).mono ?_; rintro e wq ⟨rfl, rfl⟩; first | rw [f8] | rw [f11]))
    go_ret
    exact ⟨rfl, hB _ _⟩
  cases f12 : decide (4 < (n : Int))
  case true =>
    clear HBAD
    go_enter Try.func23, Try.ntmps23
    go_wp2_with (first
      | (go_at_call 66; refine (l3serverV _ _).mono ?_; rintro e wq ⟨rfl, rfl⟩; first | rw [f3] | rw [f4])
      | (go_at_call 67; refine (l3termV _ _).mono ?_; rintro e wq ⟨rfl, rfl⟩; first | rw [f7] | rw [f9])
      | (go_at_call 68; refine (l3placeV _ _).mono ?_; rintro e wq ⟨rfl, rfl⟩; first | rw [f8] | rw [f11]))
    go_ret
    exact ⟨rfl, hB _ _⟩
  have hp8 : 0 ≤ M.prev ∧ M.prev ≤ 400 := by simpa using f8
  obtain ⟨hp81, hp82⟩ := hp8
  cases f13 : decide (400 - M.prev < (n : Int))
  case true =>
    clear HBAD
    go_enter Try.func23, Try.ntmps23
    go_wp2_with (first
      | (go_at_call 66; refine (l3serverV _ _).mono ?_; rintro e wq ⟨rfl, rfl⟩; first | rw [f3] | rw [f4])
      | (go_at_call 67; refine (l3termV _ _).mono ?_; rintro e wq ⟨rfl, rfl⟩; first | rw [f7] | rw [f9])
      | (go_at_call 68; refine (l3placeV _ _).mono ?_; rintro e wq ⟨rfl, rfl⟩; first | rw [f8] | rw [f11]))
    go_ret
    exact ⟨rfl, hB _ _⟩
  refine absurd ?_ HBAD.out
  simp at f1 f2 f3 f4 f5 f6 f7 f8 f9 f10 f11 f12 f13
  refine ⟨⟨by omega, by omega⟩, ⟨by omega, by omega⟩, ⟨by omega, by omega⟩, f5, ⟨by omega, by omega⟩, ⟨by omega, by omega⟩, ⟨by omega, by omega⟩, by omega, ⟨by omega, by omega⟩, by omega, by omega⟩

end Go.Proofs.Ytplgnohncdfgcal
