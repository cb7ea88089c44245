
/- The contract of the library's Clone at bytes. -/
import Derived.Test.YtpnachakijpjkaaInf
import Derived.Test.YtpnachakijpjkaaBytes
import Derived.Lib.SliceRun
namespace Go.Proofs.Ytpnachakijpjkaa
open Go.RowKit

set_option maxHeartbeats 1000000 in
theorem clone (a : Option Addr) (n cap : Nat) (xs : List Int) (w : World) (hr : Rd w a n xs) (hn : n ≤ 2097152) :
    Calls Try.prog 47 #[.slice a n cap] w fun e w' => ∃ v, e = .returned v ∧ Ow w' w.heap.size v xs ∧ Below w.heap.size w w' := by
  have hnl := fun w => Lib.run_eql_slice_nil (P := Try.prog) w 22 5 a n cap 0 0 Try.underlying22
  cases a with
  | none =>
    have h0 : n = 0 := by
      rcases Nat.eq_zero_or_pos n with h | h
      · exact h
      · obtain ⟨b, o, e, _⟩ := hr.pos h
        cases e
    subst h0
    obtain rfl : xs = [] := List.eq_nil_of_length_eq_zero hr.len
    go_enter Try.func47, Try.ntmps47
    go_wp2
    go_ret
    exact ⟨_, rfl, World.ownsRow_nil _ _ _ _, Below.refl _ _⟩
  | some ad =>
    go_enter Try.func47, Try.ntmps47
    go_wp2_with (at_builtin; refine wpList_append_bytes _ rfl (.tmp 5) (.tmp 6) 22 rfl w.heap.size info5 Try.underlying22 _ [] rfl (ow_empty w) (some ad) n cap xs rfl (hr.grown (World.grownBy_alloc _ _ _)) (by simp; omega) (by simp) ?_; intro v1 w1 hown1 hg1)
    go_ret
    refine ⟨_, rfl, hown1, ?_⟩
    exact below_own ((Below.refl _ _).alloc (Nat.le_refl _) _) (by simp) (ow_empty w) hg1

end Go.Proofs.Ytpnachakijpjkaa
