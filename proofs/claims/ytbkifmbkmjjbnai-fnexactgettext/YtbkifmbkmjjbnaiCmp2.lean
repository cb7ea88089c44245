/- Contracts of the small helpers of the exact statements: whether two texts of bytes are alike, marking bytes, and whether marks are held. -/
import Derived.Test.YtbkifmbkmjjbnaiCmp
namespace Go.Proofs.Ytbkifmbkmjjbnai
open Go.RowKit

theorem ne_at {xs ys : List Int} {k : Nat} (h : xs.getD k 0 ≠ ys.getD k 0) : decide (xs = ys) = false := by
  rw [decide_eq_false_iff_not]
  rintro rfl
  exact h rfl

theorem eq_all {xs ys : List Int} (hl : xs.length = ys.length) (h : ∀ j, j < xs.length → xs.getD j 0 = ys.getD j 0) : xs = ys := by
  apply List.ext_getElem hl
  intro j h1 h2
  have := h j h1
  simpa [List.getD, h1, h2] using this

set_option maxHeartbeats 1000000 in
theorem eqB (a b : Option Addr) (n m c d : Nat) (xs ys : List Int) (w : World) (hr : Rd w a n xs) (hs : Rd w b m ys) (hn : n ≤ 2097152) :
    Calls Try.prog 11 #[.slice a n c, .slice b m d] w fun e w' => e = .returned (.bool (decide (xs = ys))) ∧ ∃ q, w' = w.drewN q := by
  by_cases hnm : n = m
  · subst hnm
    go_enter Try.func11, Try.ntmps11
    go_wp2
    go_loopw [5] (fun i wr => ∃ k q : Nat, k ≤ n ∧ i = .int .i64 k ∧ wr = w.drewN q ∧ Hid (∀ j, j < k → xs.getD j 0 = ys.getD j 0)) (fun i _ => n - (intOf i).toNat)
    case atStart => exact ⟨0, 0, Nat.zero_le _, rfl, rfl, fun j hj => absurd hj (by omega)⟩
    case round =>
      obtain ⟨k, q, hk, rfl, rfl, hall⟩ := hrel
      by_cases hlt : k < n
      · obtain ⟨b1, o1, rfl, hbl1, hc1⟩ := hr.pos (by omega)
        obtain ⟨b2, o2, rfl, hbl2, hc2⟩ := hs.pos (by omega)
        have hck1 := hc1 k hlt
        have hck2 := hc2 k hlt
        have hlt' : (k : Int) < (n : Int) := by omega
        have hall' : Hid (xs.getD k 0 = ys.getD k 0 → ∀ j, j < k + 1 → xs.getD j 0 = ys.getD j 0) := fun h j hj => by
          by_cases e : j = k
          · subst e; exact h
          · exact hall.out j (by omega)
        clear hc1 hc2
        by_cases he : xs.getD k 0 = ys.getD k 0
        · rw [he] at hck1
          have HE := hall'.out he
          have HE' : Hid (∀ j, j < k + 1 → xs.getD j 0 = ys.getD j 0) := HE
          clear HE hall' he hall
          go_wp2
          go_quiet (fail)
          go_wp2
          go_roundw
          case rel => exact ⟨k + 1, q + nq, by omega, by go_num, rfl, HE'⟩
          case measure => simp [intOf]; omega
        · have HN : Hid (decide (xs = ys) = false) := ne_at he
          obtain ⟨p, hp⟩ : ∃ p, p = xs.getD k 0 := ⟨_, rfl⟩
          obtain ⟨r, hr'⟩ : ∃ r, r = ys.getD k 0 := ⟨_, rfl⟩
          rw [← hp] at hck1 he
          rw [← hr'] at hck2 he
          have hpr : (p != r) = true := by simpa using he
          clear hp hr' hall' hall he
          go_wp2
          go_quiet (fail)
          go_wp2
          go_ret
          exact ⟨by rw [HN.out]; rfl, _, World.drewN_drewN _ _ _⟩
      · have hkn : k = n := by omega
        subst hkn
        go_wp2
        go_ret
        have e : xs = ys := eq_all (hr.len.trans hs.len.symm) (fun j hj => hall.out j (by have := hr.len; omega))
        exact ⟨by simp [e], _, rfl⟩
  · have hne : ((n : Int) == (m : Int)) = false := by simp; omega
    have e : decide (xs = ys) = false := by
      rw [decide_eq_false_iff_not]
      rintro rfl
      exact hnm (hr.len.symm.trans hs.len)
    have HE : Hid (decide (xs = ys) = false) := e
    clear e
    go_enter Try.func11, Try.ntmps11
    go_wp2
    go_ret
    exact ⟨by rw [HE.out]; rfl, 0, rfl⟩

/-- The marks that 'markByteS' lays from k on. -/
def marks (k : Int) : Nat → List Int
  | 0 => []
  | n + 1 => k % 256 :: marks (k + 1) n

theorem marks_len (k : Int) (n : Nat) : (marks k n).length = n := by
  induction n generalizing k with
  | zero => rfl
  | succ n ih => simp [marks, ih]

theorem marks_get (k : Int) (n j : Nat) (hj : j < n) : (marks k n).getD j 0 = (k + j) % 256 := by
  induction n generalizing k j with
  | zero => omega
  | succ n ih =>
    cases j with
    | zero => simp [marks]
    | succ j =>
      have := ih (k + 1) j (by omega)
      simp only [marks, List.getD_cons_succ]
      rw [this]
      congr 1
      omega

theorem marks_rng (k : Int) (n : Nat) : ∀ x ∈ marks k n, 0 ≤ x ∧ x ≤ 255 := by
  induction n generalizing k with
  | zero => intro x hx; cases hx
  | succ n ih =>
    intro x hx
    rcases List.mem_cons.1 hx with rfl | hx
    · omega
    · exact ih _ x hx

/-- Bytes that are marked up to j. -/
def marked (xs : List Int) (k : Int) (j : Nat) : List Int := marks k j ++ xs.drop j

theorem marked_set (xs : List Int) (k : Int) (j n : Nat) (hl : xs.length = n) (hj : j < n) : (B8 (marked xs k j)).set j (.int .u8 ((k + j) % 256)) = B8 (marked xs k (j + 1)) := by
  apply List.ext_getElem?
  intro i
  have l1 := marks_len k j
  have l2 := marks_len k (j + 1)
  rw [List.getElem?_set]
  have e1 : ∀ q, (marked xs k q)[i]? = if i < q then some ((k + i) % 256) else xs[i]? := by
    intro q
    unfold marked
    have lq := marks_len k q
    by_cases hi : i < q
    · rw [if_pos hi, List.getElem?_append_left (by omega)]
      have := marks_get k q i hi
      rw [List.getD_eq_getElem?_getD, List.getElem?_eq_getElem (by omega)] at this
      rw [List.getElem?_eq_getElem (by omega)]
      simpa using this
    · rw [if_neg hi, List.getElem?_append_right (by omega), List.getElem?_drop, lq]
      congr 1
      omega
  have e2 : (B8 (marked xs k j)).length = n := by simp [marked, l1]; omega
  by_cases e : j = i
  · subst e
    rw [if_pos rfl, if_pos (by omega), B8, List.getElem?_map, e1, if_pos (by omega)]
    rfl
  · rw [if_neg e, B8, B8, List.getElem?_map, List.getElem?_map, e1, e1]
    by_cases hi : i < j
    · rw [if_pos hi, if_pos (by omega)]
    · rw [if_neg hi, if_neg (by omega)]

set_option maxHeartbeats 1000000 in
theorem markB (base g n cap : Nat) (xs : List Int) (k : Int) (w : World) (hown : w.ownsRow base 5 1 (.slice (some ⟨g, 0, none⟩) n cap) n (B8 xs)) (hn : n ≤ 2097152) (hk0 : 0 ≤ k) (hk : k ≤ 1073741824) :
    Calls Try.prog 12 #[.slice (some ⟨g, 0, none⟩) n cap, .int .i64 k] w fun e w' => e = .returned (.int .i64 (k + n)) ∧
      w'.ownsRow base 5 1 (.slice (some ⟨g, 0, none⟩) n cap) n (B8 (marks k n)) ∧ w.grownBy w' (some g) := by
  have hl : xs.length = n := by simpa using hown.1
  go_enter Try.func12, Try.ntmps12
  go_wp2
  go_loopw [1, 5] (fun q i wr => ∃ j : Nat, j ≤ n ∧ i = .int .i64 j ∧ q = .int .i64 (k + j) ∧ wr.ownsRow base 5 1 (.slice (some ⟨g, 0, none⟩) n cap) n (B8 (marked xs k j)) ∧ w.grownBy wr (some g)) (fun _ i _ => n - (intOf i).toNat)
  case atStart => exact ⟨0, Nat.zero_le _, rfl, by go_num, by simpa [marked, marks] using hown, World.grownBy.refl _ _⟩
  case round =>
    obtain ⟨j, hj, rfl, rfl, hown', hg⟩ := hrel
    by_cases hlt : j < n
    · have hf : wr.frozen? ⟨g, j, none⟩ = false := hown'.frozenAt j
      obtain ⟨u, hu⟩ : ∃ u, wr.cell? ⟨g, j, none⟩ = some u := by
        rw [hown'.cellAt j (by omega)]
        exact ⟨_, List.getElem?_eq_getElem (by have := hown'.1; omega)⟩
      have R := hown'.stored j (.int .u8 ((k + j) % 256))
      rw [marked_set xs k j n hl hlt] at R
      have HR : Hid ((wr.setCell ⟨g, j, none⟩ (.int .u8 ((k + j) % 256))).ownsRow base 5 1 (.slice (some ⟨g, 0, none⟩) n cap) n (B8 (marked xs k (j + 1)))) := R.1
      have HG : Hid (w.grownBy (wr.setCell ⟨g, j, none⟩ (.int .u8 ((k + j) % 256))) (some g)) :=
        ⟨R.2.os.trans hg.os, R.2.tape.trans hg.tape, R.2.output.trans hg.output, Nat.le_trans hg.size R.2.size, fun i hi he => (R.2.block i (Nat.lt_of_lt_of_le hi hg.size) he).trans (hg.block i hi he)⟩
      clear R
      go_wp2
      go_roundw
      case rel => exact ⟨j + 1, by omega, by go_num, by go_num, HR.out, HG.out⟩
      case measure => simp [intOf]; omega
    · have hjn : j = n := by omega
      subst hjn
      go_wp2
      go_ret
      refine ⟨rfl, ?_, hg⟩
      have e : marked xs k j = marks k j := by simp [marked, List.drop_of_length_le (Nat.le_of_eq hl)]
      rw [← e]
      exact hown'

set_option maxHeartbeats 1000000 in
/-- A slice without bytes: nothing is marked. -/
theorem markB0 (a : Option Addr) (cap : Nat) (k : Int) (w : World) :
    Calls Try.prog 12 #[.slice a 0 cap, .int .i64 k] w fun e w' => e = .returned (.int .i64 k) ∧ w' = w := by
  go_enter Try.func12, Try.ntmps12
  go_wp2
  refine wp_loop_rounds 1 ?_
  rw [rounds_succ]
  go_wp2
  go_ret
  exact ⟨rfl, rfl⟩

set_option maxHeartbeats 1000000 in
/-- What was marked is held. -/
theorem heldB (a : Option Addr) (n cap : Nat) (k : Int) (w : World) (hr : Rd w a n (marks k n)) (hn : n ≤ 2097152) (hk0 : 0 ≤ k) (hk : k ≤ 1073741824) :
    Calls Try.prog 13 #[.slice a n cap, .int .i64 k] w fun e w' => e = .returned (.int .i64 (k + n)) ∧ w' = w := by
  go_enter Try.func13, Try.ntmps13
  go_wp2
  go_loop [1, 5] (fun q i => ∃ j : Nat, j ≤ n ∧ i = .int .i64 j ∧ q = .int .i64 (k + j)) (fun _ i => n - (intOf i).toNat)
  case atStart => exact ⟨0, Nat.zero_le _, rfl, by go_num⟩
  case round =>
    obtain ⟨j, hj, rfl, rfl⟩ := hrel
    by_cases hlt : j < n
    · obtain ⟨b, o, rfl, hbl, hc⟩ := hr.pos (by omega)
      have hck := hc j hlt
      rw [marks_get k n j hlt] at hck
      clear hc
      go_wp2
      go_round
      case rel => exact ⟨j + 1, by omega, by go_num, by go_num⟩
      case measure => simp [intOf]; omega
    · have hjn : j = n := by omega
      subst hjn
      go_wp2
      go_ret
      exact ⟨rfl, rfl⟩

end Go.Proofs.Ytbkifmbkmjjbnai
