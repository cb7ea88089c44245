/- Contracts of Common, the specification's and the program's: how many bytes two texts begin with alike. -/
import Derived.Test.YtbkifmbkmjjbnajVal
namespace Go.Proofs.Ytbkifmbkmjjbnaj
open Go.RowKit

/-- How many bytes both begin with alike. -/
def com : List Int → List Int → Nat
  | x :: xs, y :: ys => if x = y then com xs ys + 1 else 0
  | _, _ => 0

theorem com_at (k : Nat) (xs ys : List Int) (h1 : k ≤ xs.length) (h2 : k ≤ ys.length) (h : ∀ j, j < k → xs.getD j 0 = ys.getD j 0) (he : k = xs.length ∨ k = ys.length ∨ xs.getD k 0 ≠ ys.getD k 0) : com xs ys = k := by
  induction k generalizing xs ys with
  | zero =>
    cases xs with
    | nil => simp [com]
    | cons x xs =>
      cases ys with
      | nil => simp [com]
      | cons y ys =>
        rcases he with he | he | he
        · simp at he
        · simp at he
        · have : x ≠ y := by simpa using he
          simp [com, this]
  | succ k ih =>
    cases xs with
    | nil => simp at h1
    | cons x xs =>
      cases ys with
      | nil => simp at h2
      | cons y ys =>
        have h0 : x = y := by simpa using h 0 (by omega)
        rw [com, if_pos h0]
        simp only [List.length_cons] at h1 h2 he
        rw [ih xs ys (by omega) (by omega) (fun j hj => by simpa using h (j + 1) (by omega)) (by
          rcases he with he | he | he
          · exact .inl (by omega)
          · exact .inr (.inl (by omega))
          · exact .inr (.inr (by simpa using he)))]

theorem com_le (xs ys : List Int) : com xs ys ≤ xs.length ∧ com xs ys ≤ ys.length := by
  induction xs generalizing ys with
  | nil => simp [com]
  | cons x xs ih =>
    cases ys with
    | nil => simp [com]
    | cons y ys =>
      rw [com]
      have := ih ys
      split
      · simp only [List.length_cons]; omega
      · simp

set_option maxHeartbeats 2000000 in
theorem sCom (a b : Option Addr) (n c m d : Nat) (xs ys : List Int) (w : World) (hr : Rd w a n xs) (hs : Rd w b m ys) (hn : n ≤ 2097152) (hm : m ≤ 2097152) :
    Calls Try.prog 10 #[.slice a n c, .slice b m d] w fun e w' => e = .returned (.int .i64 (com xs ys)) ∧ ∃ q, w' = w.drewN q := by
  go_enter Try.func10, Try.ntmps10
  go_wp2
  go_loopw [5] (fun i wr => ∃ k q : Nat, k ≤ n ∧ k ≤ m ∧ i = .int .i64 k ∧ wr = w.drewN q ∧ Hid (∀ j, j < k → xs.getD j 0 = ys.getD j 0)) (fun i _ => n - (intOf i).toNat)
  case atStart => exact ⟨0, 0, Nat.zero_le _, Nat.zero_le _, rfl, rfl, fun j hj => absurd hj (by omega)⟩
  case round =>
    obtain ⟨k, q, hk1, hk2, rfl, rfl, hall⟩ := hrel
    by_cases hlt : k < n ∧ k < m
    · obtain ⟨hk3, hk4⟩ := hlt
      obtain ⟨b1, o1, rfl, hbl1, hc1⟩ := hr.pos (by omega)
      obtain ⟨b2, o2, rfl, hbl2, hc2⟩ := hs.pos (by omega)
      have hck1 := hc1 k hk3
      have hck2 := hc2 k hk4
      have hlt1 : (k : Int) < (n : Int) := by omega
      have hlt2 : (k : Int) < (m : Int) := by omega
      clear hc1 hc2
      by_cases he : xs.getD k 0 = ys.getD k 0
      · have HE : Hid (∀ j, j < k + 1 → xs.getD j 0 = ys.getD j 0) := fun j hj => by
          by_cases e : j = k
          · subst e; exact he
          · exact hall.out j (by omega)
        rw [he] at hck1
        clear he hall
        go_wp2
        go_quiet (fail)
        go_wp2
        go_roundw
        case rel => exact ⟨k + 1, q + nq, by omega, by omega, by go_num, rfl, HE⟩
        case measure => simp [intOf]; omega
      · have HC : Hid (com xs ys = k) := com_at k xs ys (by have := hr.len; omega) (by have := hs.len; omega) hall.out (.inr (.inr he))
        obtain ⟨p, hp⟩ : ∃ p, p = xs.getD k 0 := ⟨_, rfl⟩
        obtain ⟨r, hr'⟩ : ∃ r, r = ys.getD k 0 := ⟨_, rfl⟩
        rw [← hp] at hck1 he
        rw [← hr'] at hck2 he
        have hpr : (p == r) = false := by simpa using he
        clear hp hr' hall he
        go_wp2
        go_quiet (fail)
        go_wp2
        go_ret
        exact ⟨by rw [HC.out]; rfl, _, World.drewN_drewN _ _ _⟩
    · have HC : Hid (com xs ys = k) := com_at k xs ys (by have := hr.len; omega) (by have := hs.len; omega) hall.out (by
        have := hr.len
        have := hs.len
        by_cases e : k = n
        · exact .inl (by omega)
        · exact .inr (.inl (by omega)))
      by_cases h1 : k < n
      · have hlt1 : (k : Int) < (n : Int) := by omega
        have hd : decide (k < m) = false := by simp; omega
        clear hlt hall
        go_wp2
        go_quiet (fail)
        go_wp2
        go_ret
        exact ⟨by rw [HC.out]; rfl, _, World.drewN_drewN _ _ _⟩
      · have hd : decide ((k : Int) < (n : Int)) = false := by simp; omega
        clear hlt hall
        go_wp2
        go_quiet (fail)
        go_wp2
        go_ret
        exact ⟨by rw [HC.out]; rfl, _, World.drewN_drewN _ _ _⟩

set_option maxHeartbeats 2000000 in
theorem iCom_a (a b : Option Addr) (n c m d : Nat) (xs ys : List Int) (w : World) (hr : Rd w a n xs) (hs : Rd w b m ys) (hn : n ≤ 2097152) (hm : m ≤ 2097152) (hnm : n ≤ m) :
    Calls Try.prog 11 #[.slice a n c, .slice b m d] w fun e w' => e = .returned (.int .i64 (com xs ys)) ∧ ∃ q, w' = w.drewN q := by
  have hnm' : (n : Int) ≤ (m : Int) := by omega
  go_enter Try.func11, Try.ntmps11
  go_wp2
  go_loopw [13] (fun i wr => ∃ k q : Nat, k ≤ n ∧ k ≤ m ∧ i = .int .i64 k ∧ wr = w.drewN q ∧ Hid (∀ j, j < k → xs.getD j 0 = ys.getD j 0)) (fun i _ => n - (intOf i).toNat)
  case atStart => exact ⟨0, 0, Nat.zero_le _, Nat.zero_le _, rfl, rfl, fun j hj => absurd hj (by omega)⟩
  case round =>
    obtain ⟨k, q, hk1, hk2, rfl, rfl, hall⟩ := hrel
    by_cases hlt : k < n ∧ k < m
    · obtain ⟨hk3, hk4⟩ := hlt
      obtain ⟨b1, o1, rfl, hbl1, hc1⟩ := hr.pos (by omega)
      obtain ⟨b2, o2, rfl, hbl2, hc2⟩ := hs.pos (by omega)
      have hck1 := hc1 k hk3
      have hck2 := hc2 k hk4
      have hlt1 : (k : Int) < (n : Int) := by omega
      have hlt2 : (k : Int) < (m : Int) := by omega
      clear hc1 hc2
      by_cases he : xs.getD k 0 = ys.getD k 0
      · have HE : Hid (∀ j, j < k + 1 → xs.getD j 0 = ys.getD j 0) := fun j hj => by
          by_cases e : j = k
          · subst e; exact he
          · exact hall.out j (by omega)
        rw [he] at hck1
        clear he hall
        go_wp2
        go_quiet (fail)
        go_wp2
        go_roundw
        case rel => exact ⟨k + 1, q + nq, by omega, by omega, by go_num, rfl, HE⟩
        case measure => simp [intOf]; omega
      · have HC : Hid (com xs ys = k) := com_at k xs ys (by have := hr.len; omega) (by have := hs.len; omega) hall.out (.inr (.inr he))
        obtain ⟨p, hp⟩ : ∃ p, p = xs.getD k 0 := ⟨_, rfl⟩
        obtain ⟨r, hr'⟩ : ∃ r, r = ys.getD k 0 := ⟨_, rfl⟩
        rw [← hp] at hck1 he
        rw [← hr'] at hck2 he
        have hpr : (p != r) = true := by simpa using he
        clear hp hr' hall he
        go_wp2
        go_quiet (fail)
        go_wp2
        go_ret
        exact ⟨by rw [HC.out]; rfl, _, World.drewN_drewN _ _ _⟩
    · have HC : Hid (com xs ys = k) := com_at k xs ys (by have := hr.len; omega) (by have := hs.len; omega) hall.out (by
        have := hr.len
        have := hs.len
        by_cases e : k = n
        · exact .inl (by omega)
        · exact .inr (.inl (by omega)))
      have hkM : k = n := by omega
      subst hkM
      clear hlt hall
      go_wp2
      go_ret
      exact ⟨by rw [HC.out]; rfl, _, rfl⟩

set_option maxHeartbeats 2000000 in
theorem iCom_b (a b : Option Addr) (n c m d : Nat) (xs ys : List Int) (w : World) (hr : Rd w a n xs) (hs : Rd w b m ys) (hn : n ≤ 2097152) (hm : m ≤ 2097152) (hnm : m < n) :
    Calls Try.prog 11 #[.slice a n c, .slice b m d] w fun e w' => e = .returned (.int .i64 (com xs ys)) ∧ ∃ q, w' = w.drewN q := by
  have hnm' : (m : Int) < (n : Int) := by omega
  go_enter Try.func11, Try.ntmps11
  go_wp2
  go_loopw [13] (fun i wr => ∃ k q : Nat, k ≤ n ∧ k ≤ m ∧ i = .int .i64 k ∧ wr = w.drewN q ∧ Hid (∀ j, j < k → xs.getD j 0 = ys.getD j 0)) (fun i _ => n - (intOf i).toNat)
  case atStart => exact ⟨0, 0, Nat.zero_le _, Nat.zero_le _, rfl, rfl, fun j hj => absurd hj (by omega)⟩
  case round =>
    obtain ⟨k, q, hk1, hk2, rfl, rfl, hall⟩ := hrel
    by_cases hlt : k < n ∧ k < m
    · obtain ⟨hk3, hk4⟩ := hlt
      obtain ⟨b1, o1, rfl, hbl1, hc1⟩ := hr.pos (by omega)
      obtain ⟨b2, o2, rfl, hbl2, hc2⟩ := hs.pos (by omega)
      have hck1 := hc1 k hk3
      have hck2 := hc2 k hk4
      have hlt1 : (k : Int) < (n : Int) := by omega
      have hlt2 : (k : Int) < (m : Int) := by omega
      clear hc1 hc2
      by_cases he : xs.getD k 0 = ys.getD k 0
      · have HE : Hid (∀ j, j < k + 1 → xs.getD j 0 = ys.getD j 0) := fun j hj => by
          by_cases e : j = k
          · subst e; exact he
          · exact hall.out j (by omega)
        rw [he] at hck1
        clear he hall
        go_wp2
        go_quiet (fail)
        go_wp2
        go_roundw
        case rel => exact ⟨k + 1, q + nq, by omega, by omega, by go_num, rfl, HE⟩
        case measure => simp [intOf]; omega
      · have HC : Hid (com xs ys = k) := com_at k xs ys (by have := hr.len; omega) (by have := hs.len; omega) hall.out (.inr (.inr he))
        obtain ⟨p, hp⟩ : ∃ p, p = xs.getD k 0 := ⟨_, rfl⟩
        obtain ⟨r, hr'⟩ : ∃ r, r = ys.getD k 0 := ⟨_, rfl⟩
        rw [← hp] at hck1 he
        rw [← hr'] at hck2 he
        have hpr : (p != r) = true := by simpa using he
        clear hp hr' hall he
        go_wp2
        go_quiet (fail)
        go_wp2
        go_ret
        exact ⟨by rw [HC.out]; rfl, _, World.drewN_drewN _ _ _⟩
    · have HC : Hid (com xs ys = k) := com_at k xs ys (by have := hr.len; omega) (by have := hs.len; omega) hall.out (by
        have := hr.len
        have := hs.len
        by_cases e : k = n
        · exact .inl (by omega)
        · exact .inr (.inl (by omega)))
      have hkM : k = m := by omega
      subst hkM
      clear hlt hall
      go_wp2
      go_ret
      exact ⟨by rw [HC.out]; rfl, _, rfl⟩

theorem sComV (v u : Value) (xs ys : List Int) (w : World) (h : RV w v xs) (k : RV w u ys) (hn : xs.length ≤ 2097152) (hm : ys.length ≤ 2097152) :
    Calls Try.prog 10 #[v, u] w fun e w' => e = .returned (.int .i64 (com xs ys)) ∧ ∃ q, w' = w.drewN q := by
  obtain ⟨a, cap, rfl, hr, _, _⟩ := h
  obtain ⟨b, cap', rfl, hs, _, _⟩ := k
  exact sCom a b xs.length cap ys.length cap' xs ys w hr hs hn hm
theorem iComV (v u : Value) (xs ys : List Int) (w : World) (h : RV w v xs) (k : RV w u ys) (hn : xs.length ≤ 2097152) (hm : ys.length ≤ 2097152) :
    Calls Try.prog 11 #[v, u] w fun e w' => e = .returned (.int .i64 (com xs ys)) ∧ ∃ q, w' = w.drewN q := by
  obtain ⟨a, cap, rfl, hr, _, _⟩ := h
  obtain ⟨b, cap', rfl, hs, _, _⟩ := k
  by_cases hnm : xs.length ≤ ys.length
  · exact iCom_a a b xs.length cap ys.length cap' xs ys w hr hs hn hm hnm
  · exact iCom_b a b xs.length cap ys.length cap' xs ys w hr hs hn hm (by omega)

end Go.Proofs.Ytbkifmbkmjjbnaj
