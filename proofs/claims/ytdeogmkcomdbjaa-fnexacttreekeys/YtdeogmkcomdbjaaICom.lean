/- The contract of the program's Common. -/
import Derived.Test.YtdeogmkcomdbjaaCom0
namespace Go.Proofs.Ytdeogmkcomdbjaa
open Go.RowKit

set_option maxHeartbeats 2000000 in
theorem iCom_a (a b : Option Addr) (n c m d : Nat) (xs ys : List Int) (w : World) (hr : Rd w a n xs) (hs : Rd w b m ys) (hn : n ≤ 2097152) (hm : m ≤ 2097152) (hnm : n ≤ m) :
    Calls Try.prog 46 #[.slice a n c, .slice b m d] w fun e w' => e = .returned (.int .i64 (com xs ys)) ∧ ∃ q, w' = w.drewN q := by
  have hnm' : (n : Int) ≤ (m : Int) := by omega
  go_enter Try.func46, Try.ntmps46
  go_wp2
  go_loopw [13] (fun i wr => ∃ k q : Nat, k ≤ n ∧ k ≤ m ∧ i = .int .i64 k ∧ wr = w.drewN q ∧ Hid (∀ j, j < k → xs.getD j 0 = ys.getD j 0)) (fun i _ => n - (intOf i).toNat)
  case atStart => exact ⟨0, 0, Nat.zero_le _, Nat.zero_le _, rfl, rfl, fun j hj => absurd hj (by omega)⟩
  case round =>
    obtain ⟨k, q, hk1, hk2, rfl, rfl, hall⟩ := hrel
    by_cases hlt : k < n ∧ k < m
    · obtain ⟨hk3, hk4⟩ := hlt
      obtain ⟨b1, o1, rfl, hbl1, hc1⟩ := hr.pos (by omega)
      obtain ⟨b2, o2, rfl, hbl2, hc2⟩ := hs.pos (by omega)
      have hck1 := hc1 k hk3
      have hck2 := hc2 k hk4
      have hlt1 : (k : Int) < (n : Int) := by omega
      have hlt2 : (k : Int) < (m : Int) := by omega
      clear hc1 hc2
      by_cases he : xs.getD k 0 = ys.getD k 0
      · have HE : Hid (∀ j, j < k + 1 → xs.getD j 0 = ys.getD j 0) := fun j hj => by
          by_cases e : j = k
          · subst e; exact he
          · exact hall.out j (by omega)
        rw [he] at hck1
        clear he hall
        go_wp2
        go_quiet (fail)
        go_wp2
        go_roundw
        case rel => exact ⟨k + 1, q + nq, by omega, by omega, by go_num, rfl, HE⟩
        case measure => simp [intOf]; omega
      · have HC : Hid (com xs ys = k) := com_at k xs ys (by have := hr.len; omega) (by have := hs.len; omega) hall.out (.inr (.inr he))
        obtain ⟨p, hp⟩ : ∃ p, p = xs.getD k 0 := ⟨_, rfl⟩
        obtain ⟨r, hr'⟩ : ∃ r, r = ys.getD k 0 := ⟨_, rfl⟩
        rw [← hp] at hck1 he
        rw [← hr'] at hck2 he
        have hpr : (p != r) = true := by simpa using he
        clear hp hr' hall he
        go_wp2
        go_quiet (fail)
        go_wp2
        go_ret
        exact ⟨by rw [HC.out]; rfl, _, World.drewN_drewN _ _ _⟩
    · have HC : Hid (com xs ys = k) := com_at k xs ys (by have := hr.len; omega) (by have := hs.len; omega) hall.out (by
        have := hr.len
        have := hs.len
        by_cases e : k = n
        · exact .inl (by omega)
        · exact .inr (.inl (by omega)))
      have hkM : k = n := by omega
      subst hkM
      clear hlt hall
      go_wp2
      go_ret
      exact ⟨by rw [HC.out]; rfl, _, rfl⟩

set_option maxHeartbeats 2000000 in
theorem iCom_b (a b : Option Addr) (n c m d : Nat) (xs ys : List Int) (w : World) (hr : Rd w a n xs) (hs : Rd w b m ys) (hn : n ≤ 2097152) (hm : m ≤ 2097152) (hnm : m < n) :
    Calls Try.prog 46 #[.slice a n c, .slice b m d] w fun e w' => e = .returned (.int .i64 (com xs ys)) ∧ ∃ q, w' = w.drewN q := by
  have hnm' : (m : Int) < (n : Int) := by omega
  go_enter Try.func46, Try.ntmps46
  go_wp2
  go_loopw [13] (fun i wr => ∃ k q : Nat, k ≤ n ∧ k ≤ m ∧ i = .int .i64 k ∧ wr = w.drewN q ∧ Hid (∀ j, j < k → xs.getD j 0 = ys.getD j 0)) (fun i _ => n - (intOf i).toNat)
  case atStart => exact ⟨0, 0, Nat.zero_le _, Nat.zero_le _, rfl, rfl, fun j hj => absurd hj (by omega)⟩
  case round =>
    obtain ⟨k, q, hk1, hk2, rfl, rfl, hall⟩ := hrel
    by_cases hlt : k < n ∧ k < m
    · obtain ⟨hk3, hk4⟩ := hlt
      obtain ⟨b1, o1, rfl, hbl1, hc1⟩ := hr.pos (by omega)
      obtain ⟨b2, o2, rfl, hbl2, hc2⟩ := hs.pos (by omega)
      have hck1 := hc1 k hk3
      have hck2 := hc2 k hk4
      have hlt1 : (k : Int) < (n : Int) := by omega
      have hlt2 : (k : Int) < (m : Int) := by omega
      clear hc1 hc2
      by_cases he : xs.getD k 0 = ys.getD k 0
      · have HE : Hid (∀ j, j < k + 1 → xs.getD j 0 = ys.getD j 0) := fun j hj => by
          by_cases e : j = k
          · subst e; exact he
          · exact hall.out j (by omega)
        rw [he] at hck1
        clear he hall
        go_wp2
        go_quiet (fail)
        go_wp2
        go_roundw
        case rel => exact ⟨k + 1, q + nq, by omega, by omega, by go_num, rfl, HE⟩
        case measure => simp [intOf]; omega
      · have HC : Hid (com xs ys = k) := com_at k xs ys (by have := hr.len; omega) (by have := hs.len; omega) hall.out (.inr (.inr he))
        obtain ⟨p, hp⟩ : ∃ p, p = xs.getD k 0 := ⟨_, rfl⟩
        obtain ⟨r, hr'⟩ : ∃ r, r = ys.getD k 0 := ⟨_, rfl⟩
        rw [← hp] at hck1 he
        rw [← hr'] at hck2 he
        have hpr : (p != r) = true := by simpa using he
        clear hp hr' hall he
        go_wp2
        go_quiet (fail)
        go_wp2
        go_ret
        exact ⟨by rw [HC.out]; rfl, _, World.drewN_drewN _ _ _⟩
    · have HC : Hid (com xs ys = k) := com_at k xs ys (by have := hr.len; omega) (by have := hs.len; omega) hall.out (by
        have := hr.len
        have := hs.len
        by_cases e : k = n
        · exact .inl (by omega)
        · exact .inr (.inl (by omega)))
      have hkM : k = m := by omega
      subst hkM
      clear hlt hall
      go_wp2
      go_ret
      exact ⟨by rw [HC.out]; rfl, _, rfl⟩

theorem iComV (v u : Value) (xs ys : List Int) (w : World) (h : RV w v xs) (k : RV w u ys) (hn : xs.length ≤ 2097152) (hm : ys.length ≤ 2097152) :
    Calls Try.prog 46 #[v, u] w fun e w' => e = .returned (.int .i64 (com xs ys)) ∧ ∃ q, w' = w.drewN q := by
  obtain ⟨a, cap, rfl, hr, _, _⟩ := h
  obtain ⟨b, cap', rfl, hs, _, _⟩ := k
  by_cases hnm : xs.length ≤ ys.length
  · exact iCom_a a b xs.length cap ys.length cap' xs ys w hr hs hn hm hnm
  · exact iCom_b a b xs.length cap ys.length cap' xs ys w hr hs hn hm (by omega)

end Go.Proofs.Ytdeogmkcomdbjaa
