/- The program's MemberOk and selfOk. -/
import Derived.Test.YtfdklcmhafhbeaaMd
import Derived.Test.YtfdklcmhafhbeaaWi
namespace Go.Proofs.Ytfdklcmhafhbeaa
open Go.RowKit

theorem memB_in (m : DMem) : memB m = (inB m.id 0 11 && (inB m.st 0 3 && inB m.life 0 1000)) := by
  unfold memB inB
  rw [show decide (m.id < 12) = decide (m.id ≤ 11) by rw [decide_eq_decide]; omega]
  simp only [Bool.and_assoc]

set_option maxHeartbeats 2000000 in
theorem iMemberOkV (m : DMem) (w : World) :
    Calls Try.prog 54 #[.agg #[.int .i64 m.id, .int .i64 m.st, .int .i64 m.life]] w fun e w' => e = .returned (.bool (memB m)) ∧ Below w.heap.size w w' := by
  have hB : ∀ w : World, ∀ o, Below w.heap.size w (w.alloc o) := fun w o => (Below.refl _ w).alloc (Nat.le_refl _) _
  have HM : Hid (memB m = (inB m.id 0 11 && (inB m.st 0 3 && inB m.life 0 1000))) := memB_in m
  generalize memB m = mb at HM ⊢
  obtain ⟨i, s, l⟩ := m
  simp only at HM ⊢
  go_enter Try.func54, Try.ntmps54
  cases h1 : inB i 0 11
  · have HK : Hid (mb = false) := by show _ = _; rw [HM.out, h1]; rfl
    clear HM
    go_wp2_with (go_at_call 40; refine (withinV _ _ _ _).mono ?_; rintro e w1 ⟨rfl, rfl⟩; rw [h1])
    go_ret
    exact ⟨by rw [HK.out]; rfl, hB _ _⟩
  cases h2 : inB s 0 3
  · have HK : Hid (mb = false) := by show _ = _; rw [HM.out, h2]; simp
    clear HM
    go_wp2_with (go_at_call 40; refine (withinV _ _ _ _).mono ?_; rintro e w1 ⟨rfl, rfl⟩; first | rw [h1] | rw [h2])
    go_ret
    exact ⟨by rw [HK.out]; rfl, hB _ _⟩
  have HK : Hid (mb = inB l 0 1000) := by show _ = _; rw [HM.out, h1, h2]; simp
  obtain ⟨b3, h3⟩ : ∃ b3, inB l 0 1000 = b3 := ⟨_, rfl⟩
  rw [h3] at HK
  clear HM
  go_wp2_with (go_at_call 40; refine (withinV _ _ _ _).mono ?_; rintro e w1 ⟨rfl, rfl⟩; first | rw [h1] | rw [h2] | rw [h3])
  go_ret
  exact ⟨by rw [HK.out]; rfl, hB _ _⟩

set_option maxHeartbeats 2000000 in
theorem selfOkV (m : DMem) (w : World) :
    Calls Try.prog 56 #[.agg #[.int .i64 m.id, .int .i64 m.st, .int .i64 m.life]] w fun e w' => e = .returned (.bool (ownB m)) ∧ Below w.heap.size w w' := by
  have hB : ∀ w : World, ∀ o, Below w.heap.size w (w.alloc o) := fun w o => (Below.refl _ w).alloc (Nat.le_refl _) _
  have HO : Hid (ownB m = (decide (m.st = 0) || decide (m.st = 3) || decide (m.life = 1000))) := rfl
  generalize ownB m = ob at HO ⊢
  obtain ⟨ti, ts, tl⟩ := m
  simp only at HO ⊢
  go_enter Try.func56, Try.ntmps56
  by_cases e1 : ts = 0
  · have HR : Hid (ob = true) := by show _ = _; rw [HO.out, decide_eq_true e1]; simp
    subst e1
    go_wp2
    go_ret
    exact ⟨by rw [HR.out]; rfl, hB _ _⟩
  have e1' : (ts == 0) = false := by simpa using e1
  by_cases e2 : ts = 3
  · have HR : Hid (ob = true) := by show _ = _; rw [HO.out, decide_eq_true e2]; simp
    subst e2
    go_wp2
    go_ret
    exact ⟨by rw [HR.out]; rfl, hB _ _⟩
  have e2' : (ts == 3) = false := by simpa using e2
  have HR : Hid (ob = (tl == 1000)) := by show _ = _; rw [HO.out, decide_eq_false e1, decide_eq_false e2]; simp; rfl
  generalize hd : (tl == 1000) = d at HR
  clear e1 e2
  go_wp2
  go_ret
  exact ⟨by rw [HR.out]; rfl, hB _ _⟩

end Go.Proofs.Ytfdklcmhafhbeaa
