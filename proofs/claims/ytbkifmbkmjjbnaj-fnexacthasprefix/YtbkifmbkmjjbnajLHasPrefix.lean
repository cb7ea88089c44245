/- The exact statement of HasPrefix: the walk of the law itself. -/
import Derived.Test.YtbkifmbkmjjbnajHasP
namespace Go.Proofs.Ytbkifmbkmjjbnaj
open Go.RowKit

set_option maxHeartbeats 2000000 in
theorem law_HasPrefix (a : Option Addr) (n cap : Nat) (xs : List Int) (b : Option Addr) (m cap' : Nat) (ts : List Int) (w : World) (hr : Rd w a n xs) (hc : n ≤ cap) (hm : cap ≤ maxLen) (hr' : Rd w b m ts) (hc' : m ≤ cap') (hm' : cap' ≤ maxLen) :
    Calls Try.prog 3 #[.slice a n cap, .slice b m cap'] w fun e w' => e = .returned (.bool true) ∧ Below w.heap.size w w' := by
  have hml : n ≤ 9223372036854775807 := by unfold maxLen at hm; omega
  have hml' : m ≤ 9223372036854775807 := by unfold maxLen at hm'; omega
  by_cases hn : n ≤ 1048576
  · by_cases hn2 : m ≤ 1048576
    · have hn' : ¬ (1048576 : Int) < (n : Int) := by omega
      have hn2' : ¬ (1048576 : Int) < (m : Int) := by omega
      have hl := hr.len
      have hl' := hr'.len
      have hV : RV w (.slice a n cap) xs := ⟨a, cap, by rw [hl], by rw [hl]; exact hr, by omega, hm⟩
      have hU : RV w (.slice b m cap') ts := ⟨b, cap', by rw [hl'], by rw [hl']; exact hr', by omega, hm'⟩
      have hl1 : xs.length ≤ 1048576 := by omega
      have hl2 : xs.length ≤ 2097152 := by omega
      have ht1 : ts.length ≤ 1048576 := by omega
      have ht2 : ts.length ≤ 2097152 := by omega
      have hrng := hr.rng
      have htrng := hr'.rng
      clear hl hl'
      obtain ⟨hb, hhb⟩ : ∃ hb, hb = hasB xs ts := ⟨_, rfl⟩
      have HB : Hid (hb = hasB xs ts) := hhb
      clear hhb
      go_enter Try.func3, Try.ntmps3
      go_wp2_with fail
      refine (toV _ xs w hV hl1).mono ?_
      rintro e w1 ⟨v1, rfl, o1, b1⟩
      go_wp2_with fail
      refine (toV _ ts w1 (hU.ext (ext_below b1)) ht1).mono ?_
      rintro e w2 ⟨v2, rfl, o2, b2⟩
      have c2 := b1.trans (b2.mono b1.size)
      go_wp2_with fail
      refine (sHasV v1 v2 xs ts w2 ((o1.ext (ext_below b2)).rv hrng) (o2.rv htrng) hl2 ht2).mono ?_
      rintro e w3 ⟨rfl, q3, rfl⟩
      have c3 := below_drewN c2 q3
      rw [← HB.out]
      go_wp2_with fail
      refine (toV _ xs _ (hV.ext (ext_below c3)) hl1).mono ?_
      rintro e w4 ⟨v4, rfl, o4, b4⟩
      have c4 := c3.trans (b4.mono c3.size)
      go_wp2_with fail
      refine (toV _ ts w4 (hU.ext (ext_below c4)) ht1).mono ?_
      rintro e w5 ⟨v5, rfl, o5, b5⟩
      have c5 := c4.trans (b5.mono c4.size)
      go_wp2_with fail
      refine (iHasV v4 v5 xs ts w5 ((o4.ext (ext_below b5)).rv hrng) (o5.rv htrng) hl2 ht2).mono ?_
      rintro e w6 ⟨rfl, q6, rfl⟩
      have c6 := below_drewN c5 q6
      rw [← HB.out]
      have x6 : Ext w5 (w5.drewN q6) := ext_drewN w5 q6
      go_wp2_with fail
      refine (toV _ xs _ (hV.ext (ext_below c6)) hl1).mono ?_
      rintro e w7 ⟨v7, rfl, o7, b7⟩
      have c7 := c6.trans (b7.mono c6.size)
      have x7 : Ext w5 w7 := x6.tr (ext_below b7)
      go_wp2_with fail
      refine (eqV_yes v4 v7 xs w7 (((o4.ext (ext_below b5)).ext x7).rv hrng) (o7.rv hrng) hl2).mono ?_
      rintro e w8 ⟨rfl, q8, rfl⟩
      have c8 := below_drewN c7 q8
      go_wp2_with fail
      refine (toV _ ts _ (hU.ext (ext_below c8)) ht1).mono ?_
      rintro e w9 ⟨v9, rfl, o9, b9⟩
      have c9 := c8.trans (b9.mono c8.size)
      have x9 : Ext w5 w9 := (x7.tr (ext_drewN w7 q8)).tr (ext_below b9)
      go_wp2_with fail
      refine (eqV_yes v5 v9 ts w9 ((o5.ext x9).rv htrng) (o9.rv htrng) ht2).mono ?_
      rintro e w10 ⟨rfl, q10, rfl⟩
      go_wp2
      go_ret
      exact ⟨rfl, below_drewN c9 q10⟩
    · have hn' : ¬ (1048576 : Int) < (n : Int) := by omega
      have hn2' : (1048576 : Int) < (m : Int) := by omega
      go_enter Try.func3, Try.ntmps3
      go_wp2
      go_ret
      exact ⟨rfl, Below.refl _ _⟩
  · have hn' : (1048576 : Int) < (n : Int) := by omega
    go_enter Try.func3, Try.ntmps3
    go_wp2
    go_ret
    exact ⟨rfl, Below.refl _ _⟩

end Go.Proofs.Ytbkifmbkmjjbnaj
