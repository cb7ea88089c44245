/- The contract of the program's HasPrefix. -/
import Derived.Test.YtdeogmkcomdbjaaICom
namespace Go.Proofs.Ytdeogmkcomdbjaa
open Go.RowKit

set_option maxHeartbeats 2000000 in
theorem iHas (a b : Option Addr) (n c m d : Nat) (xs ys : List Int) (w : World) (hV : RV w (.slice a n c) xs) (hU : RV w (.slice b m d) ys) (hn : xs.length ≤ 2097152) (hm : ys.length ≤ 2097152) (hl : ys.length = m) :
    Calls Try.prog 36 #[.slice a n c, .slice b m d] w fun e w' => e = .returned (.bool (hasB xs ys)) ∧ ∃ q, w' = w.drewN q := by
  have hle := (com_le xs ys).2
  by_cases hq : com xs ys = ys.length
  · have HV : Hid (hasB xs ys = true) := by unfold Hid hasB; rw [hq]; simp
    have hq' : com xs ys = m := by omega
    have HQ : Hid (com xs ys = m) := hq'
    clear hq hq' hle hl
    go_enter Try.func36, Try.ntmps36
    go_wp2_with fail
    refine (iComV _ _ xs ys w hV hU hn hm).mono ?_
    rintro e w1 ⟨rfl, q, rfl⟩
    rw [HQ.out]
    go_wp2
    go_ret
    exact ⟨by rw [HV.out]; simp, q, rfl⟩
  · have HV : Hid (hasB xs ys = false) := by unfold Hid hasB; rw [decide_eq_false_iff_not]; exact hq
    have hne : ((com xs ys : Int) == (m : Int)) = false := by simp; omega
    clear hq hle hl
    go_enter Try.func36, Try.ntmps36
    go_wp2_with fail
    refine (iComV _ _ xs ys w hV hU hn hm).mono ?_
    rintro e w1 ⟨rfl, q, rfl⟩
    go_wp2
    go_ret
    exact ⟨by rw [HV.out]; simp, q, rfl⟩

theorem iHasV (v u : Value) (xs ys : List Int) (w : World) (h : RV w v xs) (k : RV w u ys) (hn : xs.length ≤ 2097152) (hm : ys.length ≤ 2097152) :
    Calls Try.prog 36 #[v, u] w fun e w' => e = .returned (.bool (hasB xs ys)) ∧ ∃ q, w' = w.drewN q := by
  have h' := h
  have k' := k
  obtain ⟨a, cap, rfl, _⟩ := h
  obtain ⟨b, cap', rfl, _⟩ := k
  exact iHas a b xs.length cap ys.length cap' xs ys w h' k' hn hm rfl

end Go.Proofs.Ytdeogmkcomdbjaa
