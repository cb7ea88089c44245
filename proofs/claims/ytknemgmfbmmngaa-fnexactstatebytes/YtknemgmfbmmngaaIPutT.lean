/- The contract of the program's PutText. -/
import Derived.Test.YtknemgmfbmmngaaPut0
import Derived.Test.YtknemgmfbmmngaaClone
namespace Go.Proofs.Ytknemgmfbmmngaa
open Go.RowKit

set_option maxHeartbeats 2000000 in
theorem iPutT (a a' : Option Addr) (n cap n' cap' : Nat) (xs ys : List Int) (w : World) (hr : Rd w a n xs) (hr' : Rd w a' n' ys) (hn : n ≤ 2097152) (hn' : n' ≤ 2097152) :
    Calls Try.prog 62 #[.slice a n cap, .slice a' n' cap'] w fun e w' => ∃ v, e = .returned v ∧ Ow w' w.heap.size v (textL xs ys) ∧ Below w.heap.size w w' := by
  have hlen := numL_len (n' : Int)
  have hsl := fun g => sl5 g (numL (n' : Int)).length hlen
  by_cases h20 : 20 < n'
  · have HX : Hid (textL xs ys = xs) := by unfold Hid textL; rw [if_neg (by have := hr'.len; omega)]
    have h20' : (20 : Int) < (n' : Int) := by omega
    clear hlen hsl
    go_enter Try.func62, Try.ntmps62
    go_wp2_with (go_at_call 76; refine (clone a n cap xs _ hr hn).mono ?_; rintro e w1 ⟨v, rfl, hown, hb1⟩)
    go_ret
    exact ⟨_, rfl, by rw [HX.out]; exact hown, hb1⟩
  · have HX : Hid (textL xs ys = xs ++ numL n' ++ ys) := by unfold Hid textL; rw [if_pos (by have := hr'.len; omega), hr'.len]
    have h20' : ¬ (20 : Int) < (n' : Int) := by omega
    go_enter Try.func62, Try.ntmps62
    go_wp2_with fail
    refine (nb n' w).mono ?_
    rintro e w1 ⟨d0, d1, d2, d3, d4, rfl, htake, hrng, hb1⟩
    have hr1 : Rd w1 a n xs := hr.below hb1 (Nat.le_refl _)
    have hr1' : Rd w1 a' n' ys := hr'.below hb1 (Nat.le_refl _)
    have HT : Hid ([d0, d1, d2, d3, d4].take (numL (n' : Int)).length = numL n') := htake
    have HS := hb1.size
    clear htake
    go_wp2_with fail
    have hg0 : ∀ o, ((w1.alloc (.cells #[.int .u8 d0, .int .u8 d1, .int .u8 d2, .int .u8 d3, .int .u8 d4] 110)).alloc o).heap[w1.heap.size]? = some (.cells #[.int .u8 d0, .int .u8 d1, .int .u8 d2, .int .u8 d3, .int .u8 d4] 110 (0, 0)) := fun o => by
      rw [Below.heap_alloc _ _ _ (by simp), heap_alloc_new]
    refine (conc (w1.heap.size + 1) 3 3 (three a (some ⟨w1.heap.size, 0, none⟩) a') (three n (numL (n' : Int)).length n') (three cap 5 cap') (three xs ([d0, d1, d2, d3, d4].take (numL (n' : Int)).length) ys) _ (by decide) ?_ ?_ ?_).mono ?_
    · intro j hj
      match j, hj with
      | 0, _ => simp [three]
      | 1, _ => simp [three]
      | 2, _ => simp [three]
    · intro j hj
      match j, hj with
      | 0, _ => exact hr1.grown ⟨rfl, rfl, rfl, by simp; omega, fun k hk _ => by rw [Below.heap_alloc _ _ _ (by simp; omega), Below.heap_alloc _ _ _ hk]⟩
      | 1, _ => exact rd_take (cs := #[.int .u8 d0, .int .u8 d1, .int .u8 d2, .int .u8 d3, .int .u8 d4]) (ds := [d0, d1, d2, d3, d4]) rfl (by exact hlen) hrng (hg0 _)
      | 2, _ => exact hr1'.grown ⟨rfl, rfl, rfl, by simp; omega, fun k hk _ => by rw [Below.heap_alloc _ _ _ (by simp; omega), Below.heap_alloc _ _ _ hk]⟩
    · rw [cat_three, HT.out]
      simp [hr.len, hr'.len]
      omega
    · rintro e w2 ⟨v, rfl, hown, hb2⟩
      rw [cat_three, HT.out] at hown
      go_wp2
      go_ret
      refine ⟨_, rfl, ?_, ?_⟩
      · rw [HX.out]
        exact ow_base hown (by simp; omega)
      · exact ((hb1.alloc HS _).alloc (by simp; omega) _).trans (hb2.mono (by simp; omega))

end Go.Proofs.Ytknemgmfbmmngaa
