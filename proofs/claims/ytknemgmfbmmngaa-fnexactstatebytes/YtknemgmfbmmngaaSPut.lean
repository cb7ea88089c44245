/- The contract of the specification's PutNum: b's bytes and behind them the number's. -/
import Derived.Test.YtknemgmfbmmngaaInf
import Derived.Test.YtknemgmfbmmngaaBytes
namespace Go.Proofs.Ytknemgmfbmmngaa
open Go.RowKit

set_option maxHeartbeats 1000000 in
theorem sPut_no (a : Option Addr) (n cap : Nat) (xs : List Int) (q : Int) (w : World) (hr : Rd w a n xs) (hn : n ≤ 2097152) (hq : q < 0 ∨ 2147483647 < q) :
    Calls Try.prog 49 #[.slice a n cap, .int .i64 q] w fun e w' => ∃ v, e = .returned v ∧ Ow w' w.heap.size v (xs ++ numL q) ∧ Below w.heap.size w w' := by
  have HQ : Hid (numL q = []) := by unfold Hid numL; rw [if_neg (by omega)]
  rcases hq with hq | hq
  · go_enter Try.func49, Try.ntmps49
    go_wp2_with (at_builtin; refine wpList_append_bytes _ rfl (.tmp 6) (.tmp 7) 29 rfl w.heap.size info5 Try.underlying29 _ [] rfl (ow_empty w) a n cap xs rfl (hr.grown (World.grownBy_alloc _ _ _)) (by simp; omega) (by simp) ?_; intro v1 w1 hown1 hg1)
    go_ret
    refine ⟨_, rfl, by rw [HQ.out, List.append_nil]; exact hown1, ?_⟩
    exact below_own ((Below.refl _ _).alloc (Nat.le_refl _) _) (by simp) (ow_empty w) hg1
  · have hq0 : ¬ q < 0 := by omega
    go_enter Try.func49, Try.ntmps49
    go_wp2_with (at_builtin; refine wpList_append_bytes _ rfl (.tmp 6) (.tmp 7) 29 rfl w.heap.size info5 Try.underlying29 _ [] rfl (ow_empty w) a n cap xs rfl (hr.grown (World.grownBy_alloc _ _ _)) (by simp; omega) (by simp) ?_; intro v1 w1 hown1 hg1)
    go_ret
    refine ⟨_, rfl, by rw [HQ.out, List.append_nil]; exact hown1, ?_⟩
    exact below_own ((Below.refl _ _).alloc (Nat.le_refl _) _) (by simp) (ow_empty w) hg1

set_option maxHeartbeats 1000000 in
theorem sPut_yes (a : Option Addr) (n cap : Nat) (xs : List Int) (q : Int) (w : World) (hr : Rd w a n xs) (hn : n ≤ 2097152) (hq0 : 0 ≤ q) (hq1 : q ≤ 2147483647) :
    Calls Try.prog 49 #[.slice a n cap, .int .i64 q] w fun e w' => ∃ v, e = .returned v ∧ Ow w' w.heap.size v (xs ++ numL q) ∧ Below w.heap.size w w' := by
  have HQ : Hid (xs ++ numL q = xs ++ encF 4 q) := by unfold Hid numL; rw [if_pos ⟨hq0, hq1⟩]
  have hl := hr.len
  go_enter Try.func49, Try.ntmps49
  go_wp2_with (at_builtin; refine wpList_append_bytes _ rfl (.tmp 6) (.tmp 7) 29 rfl w.heap.size info5 Try.underlying29 _ [] rfl (ow_empty w) a n cap xs rfl (hr.grown (World.grownBy_alloc _ _ _)) (by simp; omega) (by simp) ?_; intro v1 w1 hown1 hg1)
  have hb1 : Below w.heap.size w w1 := below_own ((Below.refl _ _).alloc (Nat.le_refl _) _) (by simp) (ow_empty w) hg1
  clear hg1
  simp only [List.nil_append] at hown1
  go_loopw [1, 5] (fun q' v wr => ∃ (f : Nat) (p : Int) (pre : List Int), q' = .int .i64 p ∧ 0 ≤ p ∧ p ≤ 2147483647 ∧ Hid (p < pow128 f) ∧ Hid (xs ++ numL q = pre ++ encF f p) ∧ pre.length + f ≤ n + 4 ∧ Ow wr w.heap.size v pre ∧ Below w.heap.size w wr) (fun q' _ _ => (intOf q').toNat)
  case atStart => exact ⟨4, q, xs, rfl, hq0, hq1, by unfold Hid; simp only [pow128]; omega, HQ, by omega, hown1, hb1⟩
  case round =>
    obtain ⟨f, p, pre, rfl, hp0, hp1, hpf, hE, hpl, hown, hb⟩ := hrel
    clear hown1 hb1 HQ
    have hsz := hb.size
    by_cases hlt : 127 < p
    · cases f with
      | zero => have := hpf.out; simp only [pow128] at this; omega
      | succ f =>
        have HE : Hid (xs ++ numL q = (pre ++ [p % 128 + 128]) ++ encF f (p / 128)) := by
          have := hE.out
          rw [encF, if_pos hlt] at this
          simpa [Hid] using this
        have HF : Hid (p / 128 < pow128 f) := by
          have := hpf.out
          simp only [pow128] at this
          unfold Hid
          omega
        clear hE hpf
        go_wp2_with (at_builtin; refine wpList_append_bytes _ rfl (.tmp 18) (.tmp 23) 29 rfl w.heap.size info5 Try.underlying29 _ pre rfl (hown.alloc _) (some ⟨wr.heap.size, 0, none⟩) 1 1 [p % 128 + 128] rfl (rd_one wr (p % 128 + 128) (by omega) (by omega)) (by omega) (by simp; omega) ?_; intro v2 w2 hown2 hg2)
        have hb2 : Below w.heap.size w w2 := below_own (hb.alloc hsz _) (by simp; omega) (hown.alloc _) hg2
        clear hg2
        go_wp2
        go_roundw
        case rel => exact ⟨f, p / 128, pre ++ [p % 128 + 128], by go_num, by omega, by omega, HF, HE, by simp; omega, hown2, hb2⟩
        case measure => simp [intOf]; omega
    · have HE : Hid (xs ++ numL q = pre ++ [p]) := by
        have := hE.out
        cases f with
        | zero => exact this
        | succ f => rw [encF, if_neg hlt] at this; exact this
      clear hE hpf
      go_wp2_with (at_builtin; refine wpList_append_bytes _ rfl (.tmp 27) (.tmp 30) 29 rfl w.heap.size info5 Try.underlying29 _ pre rfl (hown.alloc _) (some ⟨wr.heap.size, 0, none⟩) 1 1 [p] rfl (rd_one wr p (by omega) (by omega)) (by omega) (by simp; omega) ?_; intro v2 w2 hown2 hg2)
      go_ret
      refine ⟨_, rfl, by rw [HE.out]; exact hown2, ?_⟩
      exact below_own (hb.alloc hsz _) (by simp; omega) (hown.alloc _) hg2

theorem sPut (a : Option Addr) (n cap : Nat) (xs : List Int) (q : Int) (w : World) (hr : Rd w a n xs) (hn : n ≤ 2097152) :
    Calls Try.prog 49 #[.slice a n cap, .int .i64 q] w fun e w' => ∃ v, e = .returned v ∧ Ow w' w.heap.size v (xs ++ numL q) ∧ Below w.heap.size w w' := by
  by_cases h : 0 ≤ q ∧ q ≤ 2147483647
  · exact sPut_yes a n cap xs q w hr hn h.1 h.2
  · exact sPut_no a n cap xs q w hr hn (by omega)

end Go.Proofs.Ytknemgmfbmmngaa
