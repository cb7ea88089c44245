/- The draws of chapter 1's law on numbers: a text and a number, two texts. -/
import Derived.Test.YtbkifmbkmjjbnabDraw0
import Derived.Test.YtbkifmbkmjjbnabConv
namespace Go.Proofs.Ytbkifmbkmjjbnab
open Go.RowKit

/-- A short text and an int. -/
def TextNumPost (m : Nat) (w : World) (e : Ending) (w' : World) : Prop :=
  ∃ v q xs, e = .returned (.tuple #[v, .int .i64 q]) ∧ xs.length ≤ m ∧ IsInt q ∧ (∀ x ∈ xs, 0 ≤ x ∧ x ≤ 255) ∧ RV w' v xs ∧ Below w.heap.size w w'

set_option maxHeartbeats 2000000 in
theorem drawPutNum (a : Option Addr) (n cap : Nat) (xs : List Int) (w : World) (hr : Rd w a n xs) (hm : n ≤ maxLen) :
    Calls Try.prog 4 #[.slice a n cap] w (TextNumPost 4 w) := by
  go_enter Try.func4, Try.ntmps4
  go_wp2_with fail
  refine (newC a n cap xs w hr hm).mono ?_
  rintro e w1 ⟨rfl, hc1, hb1⟩
  have hl1 := cur_lt hc1
  go_wp2_with fail
  refine (someC w.heap.size w.heap.size 4 w1 hc1 (by omega) hl1).mono ?_
  rintro e w2 ⟨v2, ys, rfl, hy6, hyr, ho2, hc2, hg2⟩
  have hb2 := below_row hb1 hb1.size hg2 (Nat.le_refl _)
  have hs2 := hg2.size
  go_wp2_with fail
  refine (numC w.heap.size w.heap.size w2 hc2 (by omega)).mono ?_
  rintro e w3 ⟨q, hq, rfl, hc3, hg3⟩
  go_wp2
  go_ret2
  exact ⟨v2, q, ys, rfl, hy6, hq, hyr, (ho2.row hg3 hl1).rv hyr, below_row hb2 hb2.size hg3 (Nat.le_refl _)⟩

theorem zeros_rng (n : Nat) : ∀ x ∈ List.replicate n (0 : Int), 0 ≤ x ∧ x ≤ 255 := fun x hx => by
  have := List.eq_of_mem_replicate hx
  omega

set_option maxHeartbeats 2000000 in
theorem drawPutText (a : Option Addr) (n cap : Nat) (xs : List Int) (w : World) (hr : Rd w a n xs) (hm : n ≤ maxLen) :
    Calls Try.prog 7 #[.slice a n cap] w (PairPost 3 21 w) := by
  obtain ⟨i0, hi, hz0, hz1, hz2⟩ := info_parts info5
  go_enter Try.func7, Try.ntmps7
  go_wp2_with fail
  refine (newC a n cap xs w hr hm).mono ?_
  rintro e w1 ⟨rfl, hc1, hb1⟩
  have hl1 := cur_lt hc1
  go_wp2_with fail
  refine (someC w.heap.size w.heap.size 3 w1 hc1 (by omega) hl1).mono ?_
  rintro e w2 ⟨v2, ys, rfl, hy6, hyr, ho2, hc2, hg2⟩
  have hb2 := below_row hb1 hb1.size hg2 (Nat.le_refl _)
  have hs2 := hg2.size
  go_wp2_with fail
  refine (someC w.heap.size w.heap.size 6 w2 hc2 (by omega) (by omega)).mono ?_
  rintro e w3 ⟨v3, ts, rfl, ht6, htr, ho3, hc3, hg3⟩
  have hb3 := below_row hb2 hb2.size hg3 (Nat.le_refl _)
  have hs3 := hg3.size
  have ho23 : Ow w3 w1.heap.size v2 ys := ho2.row hg3 hl1
  go_wp2_with fail
  refine (onceC w.heap.size w.heap.size 6 w3 hc3 (by omega)).mono ?_
  rintro e w4 ⟨y, rfl, hc4, hg4⟩
  have hb4 := below_row hb3 hb3.size hg4 (Nat.le_refl _)
  have hs4 := hg4.size
  have ho24 : Ow w4 w1.heap.size v2 ys := ho23.row hg4 hl1
  have ho34 : Ow w4 w2.heap.size v3 ts := ho3.row hg4 (by omega)
  clear hg2 hg3 hg4 ho23 ho2 ho3 hc1 hc2 hc3
  cases y with
  | false =>
    go_wp2
    go_ret2
    exact ⟨v2, v3, ys, ts, rfl, hy6, by omega, hyr, htr, ho24.rv hyr, ho34.rv htr, hb4⟩
  | true =>
    go_wp2_with fail
    refine (belowC w.heap.size w.heap.size 2 w4 hc4 (by omega)).mono ?_
    rintro e w5 ⟨r, hr0, hr1, hr2, rfl, hc5, hg5⟩
    have hr3 := hr1 (by omega)
    clear hr1 hr2
    obtain ⟨k, rfl⟩ := Int.eq_ofNat_of_zero_le hr0
    have hb5 := below_row hb4 hb4.size hg5 (Nat.le_refl _)
    have hs5 := hg5.size
    have ho25 : Ow w5 w1.heap.size v2 ys := ho24.row hg5 hl1
    go_wp2_with (at_make; refine wpList_make_full _ rfl _ _ 22 rfl w5.heap.size 5 i0 (.int .u8 0) 1 Try.underlying22 hi hz0 hz1 _ _ _ _ (20 + k) rfl rfl (by omega) (by omega) (by rw [hz2]; omega) (by unfold maxLen; omega) (Nat.le_refl _) ?_; intro w6 hown6 hg6)
    go_ret2
    have ho6 : Ow w6 w5.heap.size (.slice (some ⟨w5.heap.size, 0, none⟩) (20 + k) (20 + k)) (List.replicate (20 + k) 0) := by
      show w6.ownsRow _ 5 1 _ (List.replicate (20 + k) (0 : Int)).length (B8 (List.replicate (20 + k) 0))
      rw [List.length_replicate, B8, List.map_replicate]
      simpa [Value.cells, toList_madeCells_one] using hown6
    exact ⟨v2, _, ys, _, rfl, hy6, by simp; omega, hyr, zeros_rng _, (ho25.ext hg6).rv hyr, ho6.rv (zeros_rng _), hb5.trans ((Below.refl _ _).grown hg6 hb5.size (fun k hk => by cases hk))⟩

end Go.Proofs.Ytbkifmbkmjjbnab
