/- The contract of the specification's HasPrefix. -/
import Derived.Test.YtdeogmkcomdbjaaCom0
import Derived.Test.YtdeogmkcomdbjaaConv
namespace Go.Proofs.Ytdeogmkcomdbjaa
open Go.RowKit

set_option maxHeartbeats 2000000 in
theorem sHas (a b : Option Addr) (n c m d : Nat) (xs ys : List Int) (w : World) (hr : Rd w a n xs) (hs : Rd w b m ys) (_hn : n ≤ 2097152) (_hm : m ≤ 2097152) (hc : n ≤ c) :
    Calls Try.prog 39 #[.slice a n c, .slice b m d] w fun e w' => e = .returned (.bool (hasB xs ys)) ∧ ∃ q, w' = w.drewN q := by
  have hl := hr.len
  have hl' := hs.len
  by_cases hmn : m ≤ n
  · have hr2 := rd_head hr m hmn
    have HV : Hid (((strOfNums (xs.take m)).toList == (strOfNums ys).toList) = hasB xs ys) := by
      unfold Hid hasB
      rw [str_eq _ _ hr2.rng hs.rng, decide_eq_decide, com_pre, hl', hl]
      exact ⟨fun h => ⟨hmn, h⟩, fun h => h.2⟩
    have hcv := fun q => convR (w := w.drewN q) (hr2.grown (ext_drewN w q)) c
    have hcu := fun q => convR (w := w.drewN q) (hs.grown (ext_drewN w q)) d
    have hmn' : (m : Int) ≤ (n : Int) := by omega
    have hmc : (m : Int) ≤ (c : Int) := by omega
    have hd : decide (m ≤ n) = true := by simp; omega
    clear hl hl'
    go_enter Try.func39, Try.ntmps39
    go_wp2
    go_quiet (fail)
    go_wp2
    go_ret
    exact ⟨by rw [← HV.out]; rfl, _, rfl⟩
  · have HV : Hid (hasB xs ys = false) := by
      unfold Hid hasB
      rw [decide_eq_false_iff_not, com_pre]
      omega
    have hd : decide (m ≤ n) = false := by simp; omega
    have hmn' : ¬ (m : Int) ≤ (n : Int) := by omega
    clear hl hl'
    go_enter Try.func39, Try.ntmps39
    go_wp2
    go_quiet (fail)
    go_wp2
    go_ret
    exact ⟨by rw [HV.out]; rfl, _, rfl⟩

theorem sHasV (v u : Value) (xs ys : List Int) (w : World) (h : RV w v xs) (k : RV w u ys) (hn : xs.length ≤ 2097152) (hm : ys.length ≤ 2097152) :
    Calls Try.prog 39 #[v, u] w fun e w' => e = .returned (.bool (hasB xs ys)) ∧ ∃ q, w' = w.drewN q := by
  obtain ⟨a, cap, rfl, hr, h1, _⟩ := h
  obtain ⟨b, cap', rfl, hs, _, _⟩ := k
  exact sHas a b xs.length cap ys.length cap' xs ys w hr hs hn hm h1
end Go.Proofs.Ytdeogmkcomdbjaa
