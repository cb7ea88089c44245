/- The draws of chapter 1's laws on prefixes, more: a pair of which the second may be a beginning of the first, and a number; and whether two texts are the same. -/
import Derived.Test.YtbkifmbkmjjbnadDraw1
namespace Go.Proofs.Ytbkifmbkmjjbnad
open Go.RowKit

theorem cur_lt {w : World} {B g : Nat} (h : Cur w B g) : g < w.heap.size := by
  obtain ⟨_, _, _, _, _, _, hb, _⟩ := h
  exact (Array.getElem?_eq_some_iff.1 hb).1

set_option maxHeartbeats 2000000 in
theorem drawHas (a : Option Addr) (n cap : Nat) (xs : List Int) (w : World) (hr : Rd w a n xs) (hm : n ≤ maxLen) :
    Calls Try.prog 6 #[.slice a n cap] w (PairPost 6 6 w) := by
  go_enter Try.func6, Try.ntmps6
  go_wp2_with fail
  refine (newC a n cap xs w hr hm).mono ?_
  rintro e w1 ⟨rfl, hc1, hb1⟩
  have hl1 := cur_lt hc1
  go_wp2_with fail
  refine (someC w.heap.size w.heap.size 6 w1 hc1 (by omega) hl1).mono ?_
  rintro e w2 ⟨v2, ys, rfl, hy6, hyr, ho2, hc2, hg2⟩
  have hb2 := below_row hb1 hb1.size hg2 (Nat.le_refl _)
  have hs2 := hg2.size
  go_wp2_with fail
  refine (onceC w.heap.size w.heap.size 2 w2 hc2 (by omega)).mono ?_
  rintro e w3 ⟨y, rfl, hc3, hg3⟩
  have hb3 := below_row hb2 hb2.size hg3 (Nat.le_refl _)
  have hs3 := hg3.size
  have ho3 : Ow w3 w1.heap.size v2 ys := ho2.row hg3 hl1
  obtain ⟨a2, cap2, rfl, hd2, hle2, hcm2⟩ := Ow.rv ho3 hyr
  have hcm2' : cap2 ≤ 9223372036854775807 := by unfold maxLen at hcm2; omega
  clear hg2 hg3 ho2 hc2 hc1
  cases y with
  | true =>
    have hE3 : Ext w3 (w3.alloc (.cells #[] 5)) := World.grownBy_alloc _ _ _
    go_wp2_with fail
    refine (belowC w.heap.size w.heap.size (ys.length + 1) _ (hc3.ext hE3) (by omega)).mono ?_
    rintro e w4 ⟨r, hr0, hr1, hr2, rfl, hc4, hg4⟩
    have hr3 : r ≤ ys.length := by have := hr1 (by omega); omega
    clear hr1 hr2
    obtain ⟨k, rfl⟩ := Int.eq_ofNat_of_zero_le hr0
    have hk : k ≤ ys.length := by omega
    have hkc : (k : Int) ≤ (cap2 : Int) := by omega
    have ho4 : Ow w4 w1.heap.size _ ys := (ho3.ext hE3).row hg4 hl1
    have hoe : Ow w4 w3.heap.size (.slice (some ⟨w3.heap.size, 0, none⟩) 0 0) [] := (ow_empty w3).row hg4 (by omega)
    have hrd4 : Rd w4 a2 k (ys.take k) := by
      obtain ⟨a3, cap3, he3, hd3, _, _⟩ := Ow.rv ho4 hyr
      simp only [Value.slice.injEq] at he3
      rw [he3.1]
      exact rd_head hd3 k hk
    have hs4 : w3.heap.size ≤ w4.heap.size := by have := hg4.size; simp at this; omega
    have hb4 := below_row (hb3.alloc hb3.size _) (by simp; omega) hg4 (Nat.le_refl _)
    go_wp2_with (at_builtin; refine wpList_append_bytes _ rfl (.tmp 13) (.tmp 20) 22 rfl w3.heap.size info5 Try.underlying22 _ [] rfl hoe a2 k _ (ys.take k) rfl hrd4 (by simp; omega) hs4 ?_; intro v5 w5 ho5 hg5)
    go_ret2
    refine ⟨_, _, ys, ys.take k, rfl, hy6, by simp; omega, hyr, take_rng hyr k, ?_, ?_, ?_⟩
    · exact Ow.rv (ho4.kept hg5 (apart_of ho3 (Nat.le_refl _) hoe)) hyr
    · exact Ow.rv ho5 (by simpa using take_rng hyr k)
    · exact hb4.grown hg5 hb4.size (fun k hk => by have := (hoe.lt k hk).1; omega)
  | false =>
    go_wp2_with fail
    refine (someC w.heap.size w.heap.size 4 w3 hc3 (by omega) (by omega)).mono ?_
    rintro e w4 ⟨v4, zs, rfl, hz4, hzr, ho4, hc4, hg4⟩
    go_wp2
    go_ret2
    refine ⟨_, _, ys, zs, rfl, hy6, by omega, hyr, hzr, Ow.rv (ho3.row hg4 hl1) hyr, Ow.rv ho4 hzr, ?_⟩
    exact below_row hb3 hb3.size hg4 (Nat.le_refl _)

set_option maxHeartbeats 2000000 in
theorem drawLen (a : Option Addr) (n cap : Nat) (xs : List Int) (w : World) (hr : Rd w a n xs) (hm : n ≤ maxLen) :
    Calls Try.prog 7 #[.slice a n cap] w fun e w' => ∃ q, IsInt q ∧ e = .returned (.int .i64 q) ∧ Below w.heap.size w w' := by
  go_enter Try.func7, Try.ntmps7
  go_wp2_with fail
  refine (newC a n cap xs w hr hm).mono ?_
  rintro e w1 ⟨rfl, hc1, hb1⟩
  have hl1 := cur_lt hc1
  go_wp2_with fail
  refine (numC w.heap.size w.heap.size w1 hc1 hl1).mono ?_
  rintro e w2 ⟨q, hq, rfl, hc2, hg2⟩
  go_wp2
  go_ret
  exact ⟨q, hq, rfl, below_row hb1 hb1.size hg2 (Nat.le_refl _)⟩

set_option maxHeartbeats 2000000 in
theorem same (a b : Option Addr) (n c m d : Nat) (xs ys : List Int) (w : World) (hr : Rd w a n xs) (hs : Rd w b m ys) :
    Calls Try.prog 8 #[.slice a n c, .slice b m d] w fun e w' => e = .returned (.bool (decide (xs = ys))) ∧ w' = w := by
  have hcv := convR hr c
  have hcu := convR hs d
  have HV : Hid (((strOfNums xs).toList == (strOfNums ys).toList) = decide (xs = ys)) := str_eq xs ys hr.rng hs.rng
  go_enter Try.func8, Try.ntmps8
  go_wp2
  go_ret
  exact ⟨by rw [← HV.out]; rfl, rfl⟩

end Go.Proofs.Ytbkifmbkmjjbnad
