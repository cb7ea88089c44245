/- The contract of the specification's PutText. -/
import Derived.Test.YtknemgmfbmmngaaSPut
namespace Go.Proofs.Ytknemgmfbmmngaa
open Go.RowKit

set_option maxHeartbeats 2000000 in
theorem sPutT (a a' : Option Addr) (n cap n' cap' : Nat) (xs ys : List Int) (w : World) (hr : Rd w a n xs) (hr' : Rd w a' n' ys) (hn : n ≤ 2097152) (hn' : n' ≤ 2097152) :
    Calls Try.prog 50 #[.slice a n cap, .slice a' n' cap'] w fun e w' => ∃ v, e = .returned v ∧ Ow w' w.heap.size v (textL xs ys) ∧ Below w.heap.size w w' := by
  have hlen := numL_len (n' : Int)
  by_cases h20 : 20 < n'
  · have HX : Hid (textL xs ys = xs) := by unfold Hid textL; rw [if_neg (by have := hr'.len; omega)]
    have h20' : (20 : Int) < (n' : Int) := by omega
    go_enter Try.func50, Try.ntmps50
    go_wp2_with (at_builtin; refine wpList_append_bytes _ rfl (.tmp 8) (.tmp 9) 29 rfl w.heap.size info5 Try.underlying29 _ [] rfl (ow_empty w) a n cap xs rfl (hr.grown (World.grownBy_alloc _ _ _)) (by simp; omega) (by simp) ?_; intro v1 w1 hown1 hg1)
    go_ret
    refine ⟨_, rfl, by rw [HX.out]; exact hown1, ?_⟩
    exact below_own ((Below.refl _ _).alloc (Nat.le_refl _) _) (by simp) (ow_empty w) hg1
  · have HX : Hid (textL xs ys = xs ++ numL n' ++ ys) := by unfold Hid textL; rw [if_pos (by have := hr'.len; omega), hr'.len]
    have h20' : ¬ (20 : Int) < (n' : Int) := by omega
    go_enter Try.func50, Try.ntmps50
    go_wp2_with fail
    refine (sPut a n cap xs n' w hr hn).mono ?_
    rintro e w1 ⟨v, rfl, hown, hb1⟩
    have hr1' : Rd w1 a' n' ys := hr'.below hb1 (Nat.le_refl _)
    have hl := hr.len
    go_wp2_with (at_builtin; refine wpList_append_bytes _ rfl (.tmp 14) (.tmp 15) 29 rfl w.heap.size info5 Try.underlying29 _ (xs ++ numL n') rfl hown a' n' cap' ys rfl hr1' (by simp; omega) hb1.size ?_; intro v1 w2 hown1 hg1)
    go_ret
    refine ⟨_, rfl, by rw [HX.out]; exact hown1, ?_⟩
    exact below_own hb1 hb1.size hown hg1

end Go.Proofs.Ytknemgmfbmmngaa
