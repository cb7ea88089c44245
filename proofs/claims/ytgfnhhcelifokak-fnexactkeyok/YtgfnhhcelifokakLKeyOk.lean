/- The exact statement of KeyOk: the walk of the law itself. -/
import Derived.Test.YtgfnhhcelifokakIKey
import Derived.Test.YtgfnhhcelifokakVal
namespace Go.Proofs.Ytgfnhhcelifokak
open Go.RowKit

set_option maxHeartbeats 1000000 in
theorem sKeyOkV (v : Value) (xs : List Int) (w : World) (h : RV w v xs) : Calls Try.prog 21 #[v] w fun e w' => e = .returned (.bool (keyB xs)) ∧ w' = w := by
  obtain ⟨kb, hkb⟩ : ∃ kb, kb = keyB xs := ⟨_, rfl⟩
  have HB : Hid (kb = keyB xs) := hkb
  clear hkb
  go_enter Try.func21, Try.ntmps21
  go_wp2_with (go_at_call 40; refine (l2keyV v xs _ h).mono ?_; rintro e w1 ⟨rfl, rfl⟩; rw [← HB.out])
  go_ret
  exact ⟨by rw [← HB.out]; rfl, rfl⟩

set_option maxHeartbeats 2000000 in
theorem law_KeyOk (a : Option Addr) (n cap : Nat) (xs : List Int) (w : World) (hr : Rd w a n xs) (hc : n ≤ cap) (hm : cap ≤ maxLen) :
    Calls Try.prog 4 #[.slice a n cap] w fun e w' => e = .returned (.bool true) ∧ Below w.heap.size w w' := by
  have hml : n ≤ 9223372036854775807 := by unfold maxLen at hm; omega
  by_cases hn : n ≤ 1048576
  · have hn' : ¬ (1048576 : Int) < (n : Int) := by omega
    have hl := hr.len
    have hV : RV w (.slice a n cap) xs := ⟨a, cap, by rw [hl], by rw [hl]; exact hr, by omega, hm⟩
    have hl1 : xs.length ≤ 1048576 := by omega
    have hl2 : xs.length ≤ 2097152 := by omega
    have hrng := hr.rng
    clear hl
    obtain ⟨hb, hhb⟩ : ∃ hb, hb = keyB xs := ⟨_, rfl⟩
    have HB : Hid (hb = keyB xs) := hhb
    clear hhb
    go_enter Try.func4, Try.ntmps4
    go_wp2_with fail
    refine (toV _ xs w hV hl1).mono ?_
    rintro e w1 ⟨v1, rfl, o1, b1⟩
    go_wp2_with fail
    refine (sKeyOkV v1 xs w1 (o1.rv hrng)).mono ?_
    rintro e w2 ⟨rfl, rfl⟩
    rw [← HB.out]
    go_wp2_with fail
    refine (toV _ xs _ (hV.ext (ext_below b1)) hl1).mono ?_
    rintro e w4 ⟨v4, rfl, o4, b4⟩
    have c4 := b1.trans (b4.mono b1.size)
    go_wp2_with fail
    refine (keyOkV v4 xs w4 (o4.rv hrng)).mono ?_
    rintro e w5 ⟨rfl, rfl⟩
    rw [← HB.out]
    go_wp2_with fail
    refine (toV _ xs _ (hV.ext (ext_below c4)) hl1).mono ?_
    rintro e w7 ⟨v7, rfl, o7, b7⟩
    have c7 := c4.trans (b7.mono c4.size)
    go_wp2_with fail
    refine (eqV_yes v4 v7 xs w7 ((o4.ext (ext_below b7)).rv hrng) (o7.rv hrng) hl2).mono ?_
    rintro e w8 ⟨rfl, q8, rfl⟩
    go_wp2
    go_ret
    exact ⟨rfl, below_drewN c7 q8⟩
  · have hn' : (1048576 : Int) < (n : Int) := by omega
    go_enter Try.func4, Try.ntmps4
    go_wp2
    go_ret
    exact ⟨rfl, Below.refl _ _⟩

end Go.Proofs.Ytgfnhhcelifokak
