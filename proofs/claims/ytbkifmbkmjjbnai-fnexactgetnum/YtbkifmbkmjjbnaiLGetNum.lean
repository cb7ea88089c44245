/- The exact statement of GetNum: the walk of the law itself. -/
import Derived.Test.YtbkifmbkmjjbnaiGet2
import Derived.Test.YtbkifmbkmjjbnaiVal
namespace Go.Proofs.Ytbkifmbkmjjbnai
open Go.RowKit

theorem ow_slice {w : World} {base : Nat} {v : Value} {xs : List Int} (h : Ow w base v xs) (hr : ∀ x ∈ xs, 0 ≤ x ∧ x ≤ 255) : ∃ a cap, v = .slice a xs.length cap ∧ Rd w a xs.length xs ∧ xs.length ≤ cap ∧ cap ≤ 9223372036854775807 := by
  obtain ⟨a, cap, hv, hrd, h1, h2⟩ := Ow.rv h hr
  exact ⟨a, cap, hv, hrd, h1, by unfold maxLen at h2; omega⟩

/-- GetNum, told of values. -/
theorem sGetV (v : Value) (xs : List Int) (t : Int) (w : World) (h : RV w v xs) (hn : xs.length ≤ 2097152) (ht1 : t ≤ 9223372036854775807) :
    Calls Try.prog 14 #[v, .int .i64 t] w fun e w' => e = .returned (pairV (gn xs t)) ∧ w' = w := by
  obtain ⟨a, cap, rfl, hr, _, _⟩ := h
  exact sGet a xs.length cap xs t w hr hn ht1
theorem iGetV (v : Value) (xs : List Int) (t : Int) (w : World) (h : RV w v xs) (hn : xs.length ≤ 2097152) (ht1 : t ≤ 9223372036854775807) :
    Calls Try.prog 15 #[v, .int .i64 t] w fun e w' => e = .returned (pairV (gn xs t)) ∧ w' = w := by
  obtain ⟨a, cap, rfl, hr, h1, h2⟩ := h
  exact iGet a xs.length cap xs t w hr hn h1 (by unfold maxLen at h2; omega) ht1

theorem big_true (n : Nat) (h : ¬ n ≤ 1048576) : (1048576 : Int) < (n : Int) := by omega

set_option maxHeartbeats 1000000 in
theorem law_GetNum (a : Option Addr) (n cap : Nat) (xs : List Int) (t : Int) (w : World) (hr : Rd w a n xs) (hc : n ≤ cap) (hm : cap ≤ maxLen) (_h1 : -9223372036854775808 ≤ t) (ht1 : t ≤ 9223372036854775807) :
    Calls Try.prog 4 #[.slice a n cap, .int .i64 t] w fun e w' => e = .returned (.bool true) ∧ Below w.heap.size w w' := by
  have hml : n ≤ 9223372036854775807 := by unfold maxLen at hm; omega
  by_cases hn : n ≤ 1048576
  · have hn' : ¬ (1048576 : Int) < (n : Int) := by omega
    have hl := hr.len
    have hV : RV w (.slice a n cap) xs := ⟨a, cap, by rw [hl], by rw [hl]; exact hr, by omega, hm⟩
    have hl1 : xs.length ≤ 1048576 := by omega
    have hl2 : xs.length ≤ 2097152 := by omega
    have hrng := hr.rng
    obtain ⟨p, r, hg⟩ : ∃ p r, gn xs t = (p, r) := ⟨_, _, rfl⟩
    have HG : Hid (gn xs t = (p, r)) := hg
    clear hg hl
    go_enter Try.func4, Try.ntmps4
    go_wp2_with fail
    refine (toV _ xs w hV hl1).mono ?_
    rintro e w1 ⟨v1, rfl, o1, b1⟩
    go_wp2_with fail
    refine (sGetV v1 xs t w1 (o1.rv hrng) hl2 ht1).mono ?_
    rintro e w1' ⟨rfl, rfl⟩
    rw [HG.out, pairV]
    go_wp2_with fail
    refine (toV _ xs _ (hV.ext (ext_below b1)) hl1).mono ?_
    rintro e w2 ⟨v2, rfl, o2, b2⟩
    go_wp2_with fail
    refine (iGetV v2 xs t w2 (o2.rv hrng) hl2 ht1).mono ?_
    rintro e w2' ⟨rfl, rfl⟩
    rw [HG.out, pairV]
    go_wp2_with fail
    have c2 := b1.trans (b2.mono b1.size)
    refine (toV _ xs _ (hV.ext (ext_below c2)) hl1).mono ?_
    rintro e w3 ⟨v3, rfl, o3, b3⟩
    go_wp2_with fail
    refine (eqV_yes v2 v3 xs w3 ((o2.rv hrng).ext (ext_below b3)) (o3.rv hrng) hl2).mono ?_
    rintro e w4 ⟨rfl, q, rfl⟩
    go_wp2
    go_ret
    exact ⟨rfl, below_drewN (c2.trans (b3.mono c2.size)) q⟩
  · have hn' := big_true n hn
    go_enter Try.func4, Try.ntmps4
    go_wp2
    go_ret
    exact ⟨rfl, Below.refl _ _⟩

end Go.Proofs.Ytbkifmbkmjjbnai
