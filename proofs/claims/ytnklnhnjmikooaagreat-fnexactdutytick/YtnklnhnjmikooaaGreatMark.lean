
/- Marking and holding, told of values that a call owns. -/
import Derived.Test.YtnklnhnjmikooaaGreatInf
import Derived.Test.YtnklnhnjmikooaaGreatVal0
namespace Go.Proofs.YtnklnhnjmikooaaGreat
open Go.RowKit

/-- The marks that 'markByteS' lays from k on. -/
def marks (k : Int) : Nat → List Int
  | 0 => []
  | n + 1 => k % 256 :: marks (k + 1) n

theorem marks_len (k : Int) (n : Nat) : (marks k n).length = n := by
  induction n generalizing k with
  | zero => rfl
  | succ n ih => simp [marks, ih]

theorem marks_get (k : Int) (n j : Nat) (hj : j < n) : (marks k n).getD j 0 = (k + j) % 256 := by
  induction n generalizing k j with
  | zero => omega
  | succ n ih =>
    cases j with
    | zero => simp [marks]
    | succ j =>
      have := ih (k + 1) j (by omega)
      simp only [marks, List.getD_cons_succ]
      rw [this]
      congr 1
      omega

theorem marks_rng (k : Int) (n : Nat) : ∀ x ∈ marks k n, 0 ≤ x ∧ x ≤ 255 := by
  induction n generalizing k with
  | zero => intro x hx; cases hx
  | succ n ih =>
    intro x hx
    rcases List.mem_cons.1 hx with rfl | hx
    · omega
    · exact ih _ x hx

/-- Bytes that are marked up to j. -/
def marked (xs : List Int) (k : Int) (j : Nat) : List Int := marks k j ++ xs.drop j

theorem marked_set (xs : List Int) (k : Int) (j n : Nat) (hl : xs.length = n) (hj : j < n) : (B8 (marked xs k j)).set j (.int .u8 ((k + j) % 256)) = B8 (marked xs k (j + 1)) := by
  apply List.ext_getElem?
  intro i
  have l1 := marks_len k j
  have l2 := marks_len k (j + 1)
  rw [List.getElem?_set]
  have e1 : ∀ q, (marked xs k q)[i]? = if i < q then some ((k + i) % 256) else xs[i]? := by
    intro q
    unfold marked
    have lq := marks_len k q
    by_cases hi : i < q
    · rw [if_pos hi, List.getElem?_append_left (by omega)]
      have := marks_get k q i hi
      rw [List.getD_eq_getElem?_getD, List.getElem?_eq_getElem (by omega)] at this
      rw [List.getElem?_eq_getElem (by omega)]
      simpa using this
    · rw [if_neg hi, List.getElem?_append_right (by omega), List.getElem?_drop, lq]
      congr 1
      omega
  have e2 : (B8 (marked xs k j)).length = n := by simp [marked, l1]; omega
  by_cases e : j = i
  · subst e
    rw [if_pos rfl, if_pos (by omega), B8, List.getElem?_map, e1, if_pos (by omega)]
    rfl
  · rw [if_neg e, B8, B8, List.getElem?_map, List.getElem?_map, e1, e1]
    by_cases hi : i < j
    · rw [if_pos hi, if_pos (by omega)]
    · rw [if_neg hi, if_neg (by omega)]

set_option maxHeartbeats 1000000 in
theorem markB (base g n cap : Nat) (xs : List Int) (k : Int) (w : World) (hown : w.ownsRow base 5 1 (.slice (some ⟨g, 0, none⟩) n cap) n (B8 xs)) (hn : n ≤ 2097152) (hk0 : 0 ≤ k) (hk : k ≤ 1073741824) :
    Calls Tryz.prog 57 #[.slice (some ⟨g, 0, none⟩) n cap, .int .i64 k] w fun e w' => e = .returned (.int .i64 (k + n)) ∧
      w'.ownsRow base 5 1 (.slice (some ⟨g, 0, none⟩) n cap) n (B8 (marks k n)) ∧ w.grownBy w' (some g) := by
  have hl : xs.length = n := by simpa using hown.1
  go_enter Tryz.func57, Tryz.ntmps57
  go_wp2
  go_loopw [1, 5] (fun q i wr => ∃ j : Nat, j ≤ n ∧ i = .int .i64 j ∧ q = .int .i64 (k + j) ∧ wr.ownsRow base 5 1 (.slice (some ⟨g, 0, none⟩) n cap) n (B8 (marked xs k j)) ∧ w.grownBy wr (some g)) (fun _ i _ => n - (intOf i).toNat)
  case atStart => exact ⟨0, Nat.zero_le _, rfl, by go_num, by simpa [marked, marks] using hown, World.grownBy.refl _ _⟩
  case round =>
    obtain ⟨j, hj, rfl, rfl, hown', hg⟩ := hrel
    by_cases hlt : j < n
    · have hf : wr.frozen? ⟨g, j, none⟩ = false := hown'.frozenAt j
      obtain ⟨u, hu⟩ : ∃ u, wr.cell? ⟨g, j, none⟩ = some u := by
        rw [hown'.cellAt j (by omega)]
        exact ⟨_, List.getElem?_eq_getElem (by have := hown'.1; omega)⟩
      have R := hown'.stored j (.int .u8 ((k + j) % 256))
      rw [marked_set xs k j n hl hlt] at R
      have HR : Hid ((wr.setCell ⟨g, j, none⟩ (.int .u8 ((k + j) % 256))).ownsRow base 5 1 (.slice (some ⟨g, 0, none⟩) n cap) n (B8 (marked xs k (j + 1)))) := R.1
      have HG : Hid (w.grownBy (wr.setCell ⟨g, j, none⟩ (.int .u8 ((k + j) % 256))) (some g)) :=
        ⟨R.2.os.trans hg.os, R.2.tape.trans hg.tape, R.2.output.trans hg.output, Nat.le_trans hg.size R.2.size, fun i hi he => (R.2.block i (Nat.lt_of_lt_of_le hi hg.size) he).trans (hg.block i hi he)⟩
      clear R
      go_wp2
      go_roundw
      case rel => exact ⟨j + 1, by omega, by go_num, by go_num, HR.out, HG.out⟩
      case measure => simp [intOf]; omega
    · have hjn : j = n := by omega
      subst hjn
      go_wp2
      go_ret
      refine ⟨rfl, ?_, hg⟩
      have e : marked xs k j = marks k j := by simp [marked, List.drop_of_length_le (Nat.le_of_eq hl)]
      rw [← e]
      exact hown'

set_option maxHeartbeats 1000000 in
/-- A slice without bytes: nothing is marked. -/
theorem markB0 (a : Option Addr) (cap : Nat) (k : Int) (w : World) :
    Calls Tryz.prog 57 #[.slice a 0 cap, .int .i64 k] w fun e w' => e = .returned (.int .i64 k) ∧ w' = w := by
  go_enter Tryz.func57, Tryz.ntmps57
  go_wp2
  refine wp_loop_rounds 1 ?_
  rw [rounds_succ]
  go_wp2
  go_ret
  exact ⟨rfl, rfl⟩

set_option maxHeartbeats 1000000 in
/-- What was marked is held. -/
theorem heldB (a : Option Addr) (n cap : Nat) (k : Int) (w : World) (hr : Rd w a n (marks k n)) (hn : n ≤ 2097152) (hk0 : 0 ≤ k) (hk : k ≤ 1073741824) :
    Calls Tryz.prog 58 #[.slice a n cap, .int .i64 k] w fun e w' => e = .returned (.int .i64 (k + n)) ∧ w' = w := by
  go_enter Tryz.func58, Tryz.ntmps58
  go_wp2
  go_loop [1, 5] (fun q i => ∃ j : Nat, j ≤ n ∧ i = .int .i64 j ∧ q = .int .i64 (k + j)) (fun _ i => n - (intOf i).toNat)
  case atStart => exact ⟨0, Nat.zero_le _, rfl, by go_num⟩
  case round =>
    obtain ⟨j, hj, rfl, rfl⟩ := hrel
    by_cases hlt : j < n
    · obtain ⟨b, o, rfl, hbl, hc⟩ := hr.pos (by omega)
      have hck := hc j hlt
      rw [marks_get k n j hlt] at hck
      clear hc
      go_wp2
      go_round
      case rel => exact ⟨j + 1, by omega, by go_num, by go_num⟩
      case measure => simp [intOf]; omega
    · have hjn : j = n := by omega
      subst hjn
      go_wp2
      go_ret
      exact ⟨rfl, rfl⟩

end Go.Proofs.YtnklnhnjmikooaaGreat

namespace Go.Proofs.YtnklnhnjmikooaaGreat
open Go.RowKit

theorem markV (base : Nat) (v : Value) (xs : List Int) (k : Int) (w : World) (h : Ow w base v xs) (hn : xs.length ≤ 2097152) (hk0 : 0 ≤ k) (hk : k ≤ 1073741824) :
    Calls Tryz.prog 57 #[v, .int .i64 k] w fun e w' => e = .returned (.int .i64 (k + xs.length)) ∧ Ow w' base v (marks k xs.length) ∧ w.grownBy w' v.ownBlock := by
  rcases h.2 with ⟨rfl, h0⟩ | ⟨g, cap, cur, rfl, r⟩
  · have : xs = [] := List.eq_nil_of_length_eq_zero h0
    subst this
    refine (markB0 none 0 k w).mono fun e w' ⟨h1, h2⟩ => ?_
    subst h2
    exact ⟨by simpa using h1, h, World.grownBy.refl _ _⟩
  · refine (markB base g xs.length cap xs k w h hn hk0 hk).mono fun e w' ⟨h1, h2, h3⟩ => ⟨h1, ?_, h3⟩
    show w'.ownsRow base 5 1 _ (marks k xs.length).length _
    rw [marks_len]
    exact h2

theorem heldV (v : Value) (n : Nat) (k : Int) (w : World) (h : RV w v (marks k n)) (hn : n ≤ 2097152) (hk0 : 0 ≤ k) (hk : k ≤ 1073741824) :
    Calls Tryz.prog 58 #[v, .int .i64 k] w fun e w' => e = .returned (.int .i64 (k + n)) ∧ w' = w := by
  obtain ⟨a, cap, rfl, hr, _, _⟩ := h
  rw [marks_len] at hr ⊢
  exact heldB a n cap k w hr hn hk0 hk

end Go.Proofs.YtnklnhnjmikooaaGreat

