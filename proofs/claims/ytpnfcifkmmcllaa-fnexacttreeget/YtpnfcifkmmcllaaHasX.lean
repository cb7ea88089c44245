/- How many bytes two texts begin with alike: plain mathematics. -/
import Derived.Test.YtpnfcifkmmcllaaInf
import Derived.Test.YtpnfcifkmmcllaaVal0
import Derived.Test.YtpnfcifkmmcllaaConv
namespace Go.Proofs.Ytpnfcifkmmcllaa
open Go.RowKit


/-- How many bytes both begin with alike. -/
def com : List Int → List Int → Nat
  | x :: xs, y :: ys => if x = y then com xs ys + 1 else 0
  | _, _ => 0

theorem com_at (k : Nat) (xs ys : List Int) (h1 : k ≤ xs.length) (h2 : k ≤ ys.length) (h : ∀ j, j < k → xs.getD j 0 = ys.getD j 0) (he : k = xs.length ∨ k = ys.length ∨ xs.getD k 0 ≠ ys.getD k 0) : com xs ys = k := by
  induction k generalizing xs ys with
  | zero =>
    cases xs with
    | nil => simp [com]
    | cons x xs =>
      cases ys with
      | nil => simp [com]
      | cons y ys =>
        rcases he with he | he | he
        · simp at he
        · simp at he
        · have : x ≠ y := by simpa using he
          simp [com, this]
  | succ k ih =>
    cases xs with
    | nil => simp at h1
    | cons x xs =>
      cases ys with
      | nil => simp at h2
      | cons y ys =>
        have h0 : x = y := by simpa using h 0 (by omega)
        rw [com, if_pos h0]
        simp only [List.length_cons] at h1 h2 he
        rw [ih xs ys (by omega) (by omega) (fun j hj => by simpa using h (j + 1) (by omega)) (by
          rcases he with he | he | he
          · exact .inl (by omega)
          · exact .inr (.inl (by omega))
          · exact .inr (.inr (by simpa using he)))]

theorem com_le (xs ys : List Int) : com xs ys ≤ xs.length ∧ com xs ys ≤ ys.length := by
  induction xs generalizing ys with
  | nil => simp [com]
  | cons x xs ih =>
    cases ys with
    | nil => simp [com]
    | cons y ys =>
      rw [com]
      have := ih ys
      split
      · simp only [List.length_cons]; omega
      · simp

theorem com_pre (xs ys : List Int) : com xs ys = ys.length ↔ ys.length ≤ xs.length ∧ xs.take ys.length = ys := by
  induction xs generalizing ys with
  | nil =>
    cases ys with
    | nil => simp [com]
    | cons y ys => simp [com]
  | cons x xs ih =>
    cases ys with
    | nil => simp [com]
    | cons y ys =>
      rw [com]
      by_cases h : x = y
      · rw [if_pos h]
        have := ih ys
        simp only [List.length_cons, Nat.add_right_cancel_iff, List.take_succ_cons, List.cons.injEq, h, true_and, Nat.add_le_add_iff_right]
        exact this
      · rw [if_neg h]
        simp [h]

/-- xs begins with ys. -/
def hasB (xs ys : List Int) : Bool := decide (com xs ys = ys.length)


set_option maxHeartbeats 2000000 in
theorem iCom_a (a b : Option Addr) (n c m d : Nat) (xs ys : List Int) (w : World) (hr : Rd w a n xs) (hs : Rd w b m ys) (hn : n ≤ 2097152) (hm : m ≤ 2097152) (hnm : n ≤ m) :
    Calls Try.prog 33 #[.slice a n c, .slice b m d] w fun e w' => e = .returned (.int .i64 (com xs ys)) ∧ ∃ q, w' = w.drewN q := by
  have hnm' : (n : Int) ≤ (m : Int) := by omega
  go_enter Try.func33, Try.ntmps33
  go_wp2
  go_loopw [13] (fun i wr => ∃ k q : Nat, k ≤ n ∧ k ≤ m ∧ i = .int .i64 k ∧ wr = w.drewN q ∧ Hid (∀ j, j < k → xs.getD j 0 = ys.getD j 0)) (fun i _ => n - (intOf i).toNat)
  case atStart => exact ⟨0, 0, Nat.zero_le _, Nat.zero_le _, rfl, rfl, fun j hj => absurd hj (by omega)⟩
  case round =>
    obtain ⟨k, q, hk1, hk2, rfl, rfl, hall⟩ := hrel
    by_cases hlt : k < n ∧ k < m
    · obtain ⟨hk3, hk4⟩ := hlt
      obtain ⟨b1, o1, rfl, hbl1, hc1⟩ := hr.pos (by omega)
      obtain ⟨b2, o2, rfl, hbl2, hc2⟩ := hs.pos (by omega)
      have hck1 := hc1 k hk3
      have hck2 := hc2 k hk4
      have hlt1 : (k : Int) < (n : Int) := by omega
      have hlt2 : (k : Int) < (m : Int) := by omega
      clear hc1 hc2
      by_cases he : xs.getD k 0 = ys.getD k 0
      · have HE : Hid (∀ j, j < k + 1 → xs.getD j 0 = ys.getD j 0) := fun j hj => by
          by_cases e : j = k
          · subst e; exact he
          · exact hall.out j (by omega)
        rw [he] at hck1
        clear he hall
        go_wp2
        go_quiet (fail)
        go_wp2
        go_roundw
        case rel => exact ⟨k + 1, q + nq, by omega, by omega, by go_num, rfl, HE⟩
        case measure => simp [intOf]; omega
      · have HC : Hid (com xs ys = k) := com_at k xs ys (by have := hr.len; omega) (by have := hs.len; omega) hall.out (.inr (.inr he))
        obtain ⟨p, hp⟩ : ∃ p, p = xs.getD k 0 := ⟨_, rfl⟩
        obtain ⟨r, hr'⟩ : ∃ r, r = ys.getD k 0 := ⟨_, rfl⟩
        rw [← hp] at hck1 he
        rw [← hr'] at hck2 he
        have hpr : (p != r) = true := by simpa using he
        clear hp hr' hall he
        go_wp2
        go_quiet (fail)
        go_wp2
        go_ret
        exact ⟨by rw [HC.out]; rfl, _, World.drewN_drewN _ _ _⟩
    · have HC : Hid (com xs ys = k) := com_at k xs ys (by have := hr.len; omega) (by have := hs.len; omega) hall.out (by
        have := hr.len
        have := hs.len
        by_cases e : k = n
        · exact .inl (by omega)
        · exact .inr (.inl (by omega)))
      have hkM : k = n := by omega
      subst hkM
      clear hlt hall
      go_wp2
      go_ret
      exact ⟨by rw [HC.out]; rfl, _, rfl⟩

set_option maxHeartbeats 2000000 in
theorem iCom_b (a b : Option Addr) (n c m d : Nat) (xs ys : List Int) (w : World) (hr : Rd w a n xs) (hs : Rd w b m ys) (hn : n ≤ 2097152) (hm : m ≤ 2097152) (hnm : m < n) :
    Calls Try.prog 33 #[.slice a n c, .slice b m d] w fun e w' => e = .returned (.int .i64 (com xs ys)) ∧ ∃ q, w' = w.drewN q := by
  have hnm' : (m : Int) < (n : Int) := by omega
  go_enter Try.func33, Try.ntmps33
  go_wp2
  go_loopw [13] (fun i wr => ∃ k q : Nat, k ≤ n ∧ k ≤ m ∧ i = .int .i64 k ∧ wr = w.drewN q ∧ Hid (∀ j, j < k → xs.getD j 0 = ys.getD j 0)) (fun i _ => n - (intOf i).toNat)
  case atStart => exact ⟨0, 0, Nat.zero_le _, Nat.zero_le _, rfl, rfl, fun j hj => absurd hj (by omega)⟩
  case round =>
    obtain ⟨k, q, hk1, hk2, rfl, rfl, hall⟩ := hrel
    by_cases hlt : k < n ∧ k < m
    · obtain ⟨hk3, hk4⟩ := hlt
      obtain ⟨b1, o1, rfl, hbl1, hc1⟩ := hr.pos (by omega)
      obtain ⟨b2, o2, rfl, hbl2, hc2⟩ := hs.pos (by omega)
      have hck1 := hc1 k hk3
      have hck2 := hc2 k hk4
      have hlt1 : (k : Int) < (n : Int) := by omega
      have hlt2 : (k : Int) < (m : Int) := by omega
      clear hc1 hc2
      by_cases he : xs.getD k 0 = ys.getD k 0
      · have HE : Hid (∀ j, j < k + 1 → xs.getD j 0 = ys.getD j 0) := fun j hj => by
          by_cases e : j = k
          · subst e; exact he
          · exact hall.out j (by omega)
        rw [he] at hck1
        clear he hall
        go_wp2
        go_quiet (fail)
        go_wp2
        go_roundw
        case rel => exact ⟨k + 1, q + nq, by omega, by omega, by go_num, rfl, HE⟩
        case measure => simp [intOf]; omega
      · have HC : Hid (com xs ys = k) := com_at k xs ys (by have := hr.len; omega) (by have := hs.len; omega) hall.out (.inr (.inr he))
        obtain ⟨p, hp⟩ : ∃ p, p = xs.getD k 0 := ⟨_, rfl⟩
        obtain ⟨r, hr'⟩ : ∃ r, r = ys.getD k 0 := ⟨_, rfl⟩
        rw [← hp] at hck1 he
        rw [← hr'] at hck2 he
        have hpr : (p != r) = true := by simpa using he
        clear hp hr' hall he
        go_wp2
        go_quiet (fail)
        go_wp2
        go_ret
        exact ⟨by rw [HC.out]; rfl, _, World.drewN_drewN _ _ _⟩
    · have HC : Hid (com xs ys = k) := com_at k xs ys (by have := hr.len; omega) (by have := hs.len; omega) hall.out (by
        have := hr.len
        have := hs.len
        by_cases e : k = n
        · exact .inl (by omega)
        · exact .inr (.inl (by omega)))
      have hkM : k = m := by omega
      subst hkM
      clear hlt hall
      go_wp2
      go_ret
      exact ⟨by rw [HC.out]; rfl, _, rfl⟩

theorem iComV (v u : Value) (xs ys : List Int) (w : World) (h : RV w v xs) (k : RV w u ys) (hn : xs.length ≤ 2097152) (hm : ys.length ≤ 2097152) :
    Calls Try.prog 33 #[v, u] w fun e w' => e = .returned (.int .i64 (com xs ys)) ∧ ∃ q, w' = w.drewN q := by
  obtain ⟨a, cap, rfl, hr, _, _⟩ := h
  obtain ⟨b, cap', rfl, hs, _, _⟩ := k
  by_cases hnm : xs.length ≤ ys.length
  · exact iCom_a a b xs.length cap ys.length cap' xs ys w hr hs hn hm hnm
  · exact iCom_b a b xs.length cap ys.length cap' xs ys w hr hs hn hm (by omega)


set_option maxHeartbeats 2000000 in
theorem iHas (a b : Option Addr) (n c m d : Nat) (xs ys : List Int) (w : World) (hV : RV w (.slice a n c) xs) (hU : RV w (.slice b m d) ys) (hn : xs.length ≤ 2097152) (hm : ys.length ≤ 2097152) (hl : ys.length = m) :
    Calls Try.prog 31 #[.slice a n c, .slice b m d] w fun e w' => e = .returned (.bool (hasB xs ys)) ∧ ∃ q, w' = w.drewN q := by
  have hle := (com_le xs ys).2
  by_cases hq : com xs ys = ys.length
  · have HV : Hid (hasB xs ys = true) := by unfold Hid hasB; rw [hq]; simp
    have hq' : com xs ys = m := by omega
    have HQ : Hid (com xs ys = m) := hq'
    clear hq hq' hle hl
    go_enter Try.func31, Try.ntmps31
    go_wp2_with fail
    refine (iComV _ _ xs ys w hV hU hn hm).mono ?_
    rintro e w1 ⟨rfl, q, rfl⟩
    rw [HQ.out]
    go_wp2
    go_ret
    exact ⟨by rw [HV.out]; simp, q, rfl⟩
  · have HV : Hid (hasB xs ys = false) := by unfold Hid hasB; rw [decide_eq_false_iff_not]; exact hq
    have hne : ((com xs ys : Int) == (m : Int)) = false := by simp; omega
    clear hq hle hl
    go_enter Try.func31, Try.ntmps31
    go_wp2_with fail
    refine (iComV _ _ xs ys w hV hU hn hm).mono ?_
    rintro e w1 ⟨rfl, q, rfl⟩
    go_wp2
    go_ret
    exact ⟨by rw [HV.out]; simp, q, rfl⟩

theorem iHasV (v u : Value) (xs ys : List Int) (w : World) (h : RV w v xs) (k : RV w u ys) (hn : xs.length ≤ 2097152) (hm : ys.length ≤ 2097152) :
    Calls Try.prog 31 #[v, u] w fun e w' => e = .returned (.bool (hasB xs ys)) ∧ ∃ q, w' = w.drewN q := by
  have h' := h
  have k' := k
  obtain ⟨a, cap, rfl, _⟩ := h
  obtain ⟨b, cap', rfl, _⟩ := k
  exact iHas a b xs.length cap ys.length cap' xs ys w h' k' hn hm rfl


set_option maxHeartbeats 2000000 in
theorem sHas (a b : Option Addr) (n c m d : Nat) (xs ys : List Int) (w : World) (hr : Rd w a n xs) (hs : Rd w b m ys) (_hn : n ≤ 2097152) (_hm : m ≤ 2097152) (hc : n ≤ c) :
    Calls Try.prog 30 #[.slice a n c, .slice b m d] w fun e w' => e = .returned (.bool (hasB xs ys)) ∧ ∃ q, w' = w.drewN q := by
  have hl := hr.len
  have hl' := hs.len
  by_cases hmn : m ≤ n
  · have hr2 := rd_head hr m hmn
    have HV : Hid (((strOfNums (xs.take m)).toList == (strOfNums ys).toList) = hasB xs ys) := by
      unfold Hid hasB
      rw [str_eq _ _ hr2.rng hs.rng, decide_eq_decide, com_pre, hl', hl]
      exact ⟨fun h => ⟨hmn, h⟩, fun h => h.2⟩
    have hcv := fun q => convR (w := w.drewN q) (hr2.grown (ext_drewN w q)) c
    have hcu := fun q => convR (w := w.drewN q) (hs.grown (ext_drewN w q)) d
    have hmn' : (m : Int) ≤ (n : Int) := by omega
    have hmc : (m : Int) ≤ (c : Int) := by omega
    have hd : decide (m ≤ n) = true := by simp; omega
    clear hl hl'
    go_enter Try.func30, Try.ntmps30
    go_wp2
    go_quiet (fail)
    go_wp2
    go_ret
    exact ⟨by rw [← HV.out]; rfl, _, rfl⟩
  · have HV : Hid (hasB xs ys = false) := by
      unfold Hid hasB
      rw [decide_eq_false_iff_not, com_pre]
      omega
    have hd : decide (m ≤ n) = false := by simp; omega
    have hmn' : ¬ (m : Int) ≤ (n : Int) := by omega
    clear hl hl'
    go_enter Try.func30, Try.ntmps30
    go_wp2
    go_quiet (fail)
    go_wp2
    go_ret
    exact ⟨by rw [HV.out]; rfl, _, rfl⟩

theorem sHasV (v u : Value) (xs ys : List Int) (w : World) (h : RV w v xs) (k : RV w u ys) (hn : xs.length ≤ 2097152) (hm : ys.length ≤ 2097152) :
    Calls Try.prog 30 #[v, u] w fun e w' => e = .returned (.bool (hasB xs ys)) ∧ ∃ q, w' = w.drewN q := by
  obtain ⟨a, cap, rfl, hr, h1, _⟩ := h
  obtain ⟨b, cap', rfl, hs, _, _⟩ := k
  exact sHas a b xs.length cap ys.length cap' xs ys w hr hs hn hm h1

end Go.Proofs.Ytpnfcifkmmcllaa
