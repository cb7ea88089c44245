/- The library's Clone at numbers; the program's Shuffle. -/
import Derived.Test.YtfdklcmhafhbeaaPx0
import Derived.Lib.SliceRun
namespace Go.Proofs.Ytfdklcmhafhbeaa
open Go.RowKit

set_option maxHeartbeats 1000000 in
theorem cloneIV (v : Value) (xs : List Int) (w : World) (h : VL fI w v xs) (hn : xs.length ≤ 1048576) :
    Calls Try.prog 43 #[v] w fun e w' => ∃ v', e = .returned v' ∧ OwI w' w.heap.size v' xs ∧ Below w.heap.size w w' := by
  obtain ⟨a, cap, rfl⟩ := vl_shape h
  obtain ⟨n, hnn⟩ : ∃ n, n = xs.length := ⟨_, rfl⟩
  rw [← hnn] at h ⊢
  have HN : Hid (n = xs.length) := hnn
  have HV : Hid (VL fI w (.slice a n cap) xs) := h
  have hn1 : (n : Int) ≤ 1048576 := by omega
  have hnl := fun w => Lib.run_eql_slice_nil (P := Try.prog) w 22 3 a n cap 0 0 Try.underlying22
  cases a with
  | none =>
    have h0 : xs = [] := by
      obtain ⟨a', cap', e, _, _, h3⟩ := h
      simp only [Value.slice.injEq] at e
      refine List.eq_nil_of_length_eq_zero ?_
      rcases Nat.eq_zero_or_pos xs.length with h' | h'
      · exact h'
      · obtain ⟨b, o, e', _⟩ := h3 h'
        rw [← e.1] at e'
        cases e'
    subst h0
    clear hnn h
    go_enter Try.func43, Try.ntmps43
    go_wp2
    go_ret
    exact ⟨_, rfl, World.ownsRow_nil _ _ _ _, Below.refl _ _⟩
  | some ad =>
    clear hnn h
    have HE : Hid (OwI (w.alloc (.cells #[] 3)) w.heap.size (.slice (some ⟨w.heap.size, 0, none⟩) 0 0) []) := World.ownsRow_lit w #[] 0 (Nat.le_refl _) (Nat.zero_le _) rfl
    go_enter Try.func43, Try.ntmps43
    go_wp2_with (at_builtin; refine wpList_append_il _ rfl (.tmp 5) (.tmp 6) rfl w.heap.size _ [] rfl HE.out (some ad) n cap xs rfl (HV.out.ext (World.grownBy_alloc _ _ _)) (by have := HN.out; simp; omega) (by simp) ?_; intro v1 w1 hown1 hg1)
    go_ret
    refine ⟨_, rfl, hown1, ?_⟩
    exact ((Below.refl _ _).alloc (Nat.le_refl _) _).grown hg1 (by simp) (fun k hk => by cases hk; exact Nat.le_refl _)

end Go.Proofs.Ytfdklcmhafhbeaa
