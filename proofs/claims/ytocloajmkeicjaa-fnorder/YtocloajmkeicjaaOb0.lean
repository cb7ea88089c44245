/- The program's Beats, told of numbers; it is an order. -/
import Derived.Test.YtocloajmkeicjaaElMem0
import Derived.Test.YtocloajmkeicjaaInf
import Derived.Test.YtocloajmkeicjaaVal0
namespace Go.Proofs.Ytocloajmkeicjaa
open Go.RowKit

/-- Newer: by name, life and state. -/
def bt (ai aS al bi bS bl : Int) : Bool := decide (ai = bi) && (decide (bl < al) || (decide (al = bl) && decide (bS < aS)))
theorem bt_iff {ai aS al bi bS bl : Int} : bt ai aS al bi bS bl = true ↔ ai = bi ∧ (bl < al ∨ (al = bl ∧ bS < aS)) := by
  simp only [bt, Bool.and_eq_true, Bool.or_eq_true, decide_eq_true_eq]
theorem bt_no {ai aS al bi bS bl : Int} (h : ¬ (ai = bi ∧ (bl < al ∨ (al = bl ∧ bS < aS)))) : bt ai aS al bi bS bl = false := by
  cases e : bt ai aS al bi bS bl
  · rfl
  · exact absurd (bt_iff.1 e) h

set_option maxHeartbeats 2000000 in
theorem beatsI (ai aS al bi bS bl : Int) (w : World) :
    Calls Try.prog 10 #[.agg #[.int .i64 ai, .int .i64 aS, .int .i64 al], .agg #[.int .i64 bi, .int .i64 bS, .int .i64 bl]] w fun e w' => e = .returned (.bool (bt ai aS al bi bS bl)) ∧ Below w.heap.size w w' := by
  have hB2 : ∀ o o', Below w.heap.size w ((w.alloc o).alloc o') := fun o o' => ((Below.refl _ w).alloc (Nat.le_refl _) _).alloc (by simp) _
  have HM : Hid (bt ai aS al bi bS bl = (decide (ai = bi) && (decide (bl < al) || (decide (al = bl) && decide (bS < aS))))) := rfl
  generalize bt ai aS al bi bS bl = bb at HM ⊢
  go_enter Try.func10, Try.ntmps10
  by_cases h1 : ai = bi
  case neg =>
    have HK : Hid (bb = false) := by show _ = _; rw [HM.out, decide_eq_false h1]; simp
    have h1' : (ai == bi) = false := by simpa using h1
    go_wp2
    go_ret
    exact ⟨by rw [HK.out]; rfl, hB2 _ _⟩
  subst h1
  by_cases h2 : bl < al
  · have HK : Hid (bb = true) := by show _ = _; rw [HM.out, decide_eq_true h2]; simp
    have h2' : decide (al > bl) = true := decide_eq_true h2
    go_wp2
    go_ret
    exact ⟨by rw [HK.out]; rfl, hB2 _ _⟩
  have h2' : decide (al > bl) = false := decide_eq_false h2
  by_cases h3 : al = bl
  case neg =>
    have HK : Hid (bb = false) := by show _ = _; rw [HM.out, decide_eq_false h2, decide_eq_false h3]; simp
    have h3' : (al == bl) = false := by simpa using h3
    go_wp2
    go_ret
    exact ⟨by rw [HK.out]; rfl, hB2 _ _⟩
  subst h3
  have HK : Hid (bb = decide (aS > bS)) := by show _ = _; rw [HM.out, decide_eq_false h2]; simp
  generalize hd : decide (aS > bS) = d at HK
  clear h2
  go_wp2
  go_ret
  exact ⟨by rw [HK.out]; rfl, hB2 _ _⟩

set_option maxHeartbeats 2000000 in
theorem beatsIV (ai aS al bi bS bl : Int) (w : World) :
    Calls Try.prog 6 #[.agg #[.int .i64 ai, .int .i64 aS, .int .i64 al], .agg #[.int .i64 bi, .int .i64 bS, .int .i64 bl]] w fun e w' => e = .returned (.bool (bt ai aS al bi bS bl)) ∧ Below w.heap.size w w' := by
  have hB2 : ∀ o o', Below w.heap.size w ((w.alloc o).alloc o') := fun o o' => ((Below.refl _ w).alloc (Nat.le_refl _) _).alloc (by simp) _
  go_enter Try.func6, Try.ntmps6
  go_wp2_with (go_at_call 10; refine (beatsI ai aS al bi bS bl _).mono ?_; rintro e w1 ⟨rfl, b1⟩)
  go_ret
  exact ⟨rfl, (hB2 _ _).trans (b1.mono (hB2 _ _).size)⟩

/-- A byte of the code, around its end. -/
theorem at0 (a : Option Addr) (n cap : Nat) (xs : List Int) (w : World) (hr : Rd w a n xs) (hm : n ≤ maxLen) : Calls Try.prog 5 #[.slice a n cap, .int .i64 0] w fun e w' => ∃ x : Int, 0 ≤ x ∧ x ≤ 255 ∧ e = .returned (.int .i64 x) ∧ w' = w := by
  have hml : n ≤ 9223372036854775807 := by unfold maxLen at hm; omega
  by_cases h0 : n = 0
  · subst h0
    go_enter Try.func5, Try.ntmps5
    go_wp2
    go_ret
    exact ⟨0, by omega, by omega, rfl, rfl⟩
  · obtain ⟨b, o, rfl, hbl, hc⟩ := hr.pos (by omega)
    have hc0 := hc 0 (by omega)
    obtain ⟨hr0, hr255⟩ : 0 ≤ xs.getD 0 0 ∧ xs.getD 0 0 ≤ 255 := by
      have hlx : 0 < xs.length := by have := hr.len; omega
      have := hr.rng (xs[0]) (List.getElem_mem hlx)
      simpa [List.getD, hlx] using this
    generalize xs.getD 0 0 = x at hc0 hr0 hr255
    rw [Nat.add_zero] at hc0
    have hn0 : ¬ ((n : Int) = 0) := by omega
    have hn1 : ((n : Int) == 0) = false := by simpa using hn0
    have hpos : 0 < n := by omega
    clear hc
    go_enter Try.func5, Try.ntmps5
    go_wp2
    go_ret
    exact ⟨x, hr0, hr255, rfl, rfl⟩

end Go.Proofs.Ytocloajmkeicjaa
