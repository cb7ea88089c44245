/- The contract of the laws' sameBytes: whether two texts are the same. -/
import Derived.Test.YtbkifmbkmjjbnabConv
namespace Go.Proofs.Ytbkifmbkmjjbnab
open Go.RowKit

set_option maxHeartbeats 2000000 in
theorem same (a b : Option Addr) (n c m d : Nat) (xs ys : List Int) (w : World) (hr : Rd w a n xs) (hs : Rd w b m ys) :
    Calls Try.prog 10 #[.slice a n c, .slice b m d] w fun e w' => e = .returned (.bool (decide (xs = ys))) ∧ w' = w := by
  have hcv := convR hr c
  have hcu := convR hs d
  have HV : Hid (((strOfNums xs).toList == (strOfNums ys).toList) = decide (xs = ys)) := str_eq xs ys hr.rng hs.rng
  go_enter Try.func10, Try.ntmps10
  go_wp2
  go_ret
  exact ⟨by rw [← HV.out]; rfl, rfl⟩

end Go.Proofs.Ytbkifmbkmjjbnab
