
/- Contracts of the small helpers of the exact statements: whether two texts of bytes are alike. -/
import Derived.Test.YtnklnhnjmikooaaGreatInf
namespace Go.Proofs.YtnklnhnjmikooaaGreat
open Go.RowKit

theorem ne_at {xs ys : List Int} {k : Nat} (h : xs.getD k 0 ≠ ys.getD k 0) : decide (xs = ys) = false := by
  rw [decide_eq_false_iff_not]
  rintro rfl
  exact h rfl

theorem eq_all {xs ys : List Int} (hl : xs.length = ys.length) (h : ∀ j, j < xs.length → xs.getD j 0 = ys.getD j 0) : xs = ys := by
  apply List.ext_getElem hl
  intro j h1 h2
  have := h j h1
  simpa [List.getD, h1, h2] using this

set_option maxHeartbeats 1000000 in
theorem eqB (a b : Option Addr) (n m c d : Nat) (xs ys : List Int) (w : World) (hr : Rd w a n xs) (hs : Rd w b m ys) (hn : n ≤ 2097152) :
    Calls Tryz.prog 96 #[.slice a n c, .slice b m d] w fun e w' => e = .returned (.bool (decide (xs = ys))) ∧ ∃ q, w' = w.drewN q := by
  by_cases hnm : n = m
  · subst hnm
    go_enter Tryz.func96, Tryz.ntmps96
    go_wp2
    go_loopw [5] (fun i wr => ∃ k q : Nat, k ≤ n ∧ i = .int .i64 k ∧ wr = w.drewN q ∧ Hid (∀ j, j < k → xs.getD j 0 = ys.getD j 0)) (fun i _ => n - (intOf i).toNat)
    case atStart => exact ⟨0, 0, Nat.zero_le _, rfl, rfl, fun j hj => absurd hj (by omega)⟩
    case round =>
      obtain ⟨k, q, hk, rfl, rfl, hall⟩ := hrel
      by_cases hlt : k < n
      · obtain ⟨b1, o1, rfl, hbl1, hc1⟩ := hr.pos (by omega)
        obtain ⟨b2, o2, rfl, hbl2, hc2⟩ := hs.pos (by omega)
        have hck1 := hc1 k hlt
        have hck2 := hc2 k hlt
        have hlt' : (k : Int) < (n : Int) := by omega
        have hall' : Hid (xs.getD k 0 = ys.getD k 0 → ∀ j, j < k + 1 → xs.getD j 0 = ys.getD j 0) := fun h j hj => by
          by_cases e : j = k
          · subst e; exact h
          · exact hall.out j (by omega)
        clear hc1 hc2
        by_cases he : xs.getD k 0 = ys.getD k 0
        · rw [he] at hck1
          have HE := hall'.out he
          have HE' : Hid (∀ j, j < k + 1 → xs.getD j 0 = ys.getD j 0) := HE
          clear HE hall' he hall
          go_wp2
          go_quiet (fail)
          go_wp2
          go_roundw
          case rel => exact ⟨k + 1, q + nq, by omega, by go_num, rfl, HE'⟩
          case measure => simp [intOf]; omega
        · have HN : Hid (decide (xs = ys) = false) := ne_at he
          obtain ⟨p, hp⟩ : ∃ p, p = xs.getD k 0 := ⟨_, rfl⟩
          obtain ⟨r, hr'⟩ : ∃ r, r = ys.getD k 0 := ⟨_, rfl⟩
          rw [← hp] at hck1 he
          rw [← hr'] at hck2 he
          have hpr : (p != r) = true := by simpa using he
          clear hp hr' hall' hall he
          go_wp2
          go_quiet (fail)
          go_wp2
          go_ret
          exact ⟨by rw [HN.out]; rfl, _, World.drewN_drewN _ _ _⟩
      · have hkn : k = n := by omega
        subst hkn
        go_wp2
        go_ret
        have e : xs = ys := eq_all (hr.len.trans hs.len.symm) (fun j hj => hall.out j (by have := hr.len; omega))
        exact ⟨by simp [e], _, rfl⟩
  · have hne : ((n : Int) == (m : Int)) = false := by simp; omega
    have e : decide (xs = ys) = false := by
      rw [decide_eq_false_iff_not]
      rintro rfl
      exact hnm (hr.len.symm.trans hs.len)
    have HE : Hid (decide (xs = ys) = false) := e
    clear e
    go_enter Tryz.func96, Tryz.ntmps96
    go_wp2
    go_ret
    exact ⟨by rw [HE.out]; rfl, 0, rfl⟩

end Go.Proofs.YtnklnhnjmikooaaGreat
