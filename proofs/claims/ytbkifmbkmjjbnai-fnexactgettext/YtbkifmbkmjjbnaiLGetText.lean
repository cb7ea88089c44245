/- The exact statement of GetText: the walk of the law itself. -/
import Derived.Test.YtbkifmbkmjjbnaiGetX
import Derived.Test.YtbkifmbkmjjbnaiMark
namespace Go.Proofs.Ytbkifmbkmjjbnai
open Go.RowKit

theorem sGetTV (v : Value) (xs : List Int) (t : Int) (w : World) (h : RV w v xs) (hn : xs.length ≤ 2097152) (ht1 : t ≤ 9223372036854775807) :
    Calls Try.prog 18 #[v, .int .i64 t] w (GtPost xs t w) := by
  obtain ⟨a, cap, rfl, hr, h1, h2⟩ := h
  exact sGetT a xs.length cap xs t w hr hn h1 (by unfold maxLen at h2; omega) ht1
theorem iGetTV (v : Value) (xs : List Int) (t : Int) (w : World) (h : RV w v xs) (hn : xs.length ≤ 2097152) (ht1 : t ≤ 9223372036854775807) :
    Calls Try.prog 19 #[v, .int .i64 t] w (GtPost xs t w) := by
  obtain ⟨a, cap, rfl, hr, h1, h2⟩ := h
  exact iGetT a xs.length cap xs t w hr hn h1 (by unfold maxLen at h2; omega) ht1

set_option maxHeartbeats 2000000 in
theorem law_GetText (a : Option Addr) (n cap : Nat) (xs : List Int) (t : Int) (w : World) (hr : Rd w a n xs) (hc : n ≤ cap) (hm : cap ≤ maxLen) (_h1 : -9223372036854775808 ≤ t) (ht1 : t ≤ 9223372036854775807) :
    Calls Try.prog 6 #[.slice a n cap, .int .i64 t] w fun e w' => e = .returned (.bool true) ∧ Below w.heap.size w w' := by
  have hml : n ≤ 9223372036854775807 := by unfold maxLen at hm; omega
  by_cases hn : n ≤ 1048576
  · have hn' : ¬ (1048576 : Int) < (n : Int) := by omega
    have hl := hr.len
    have hV : RV w (.slice a n cap) xs := ⟨a, cap, by rw [hl], by rw [hl]; exact hr, by omega, hm⟩
    have hl1 : xs.length ≤ 1048576 := by omega
    have hl2 : xs.length ≤ 2097152 := by omega
    have hrng := hr.rng
    have hyr := gt_rng xs t hrng
    have hyl := gt_len xs t
    obtain ⟨ys, r, hys⟩ : ∃ ys r, gt xs t = (ys, r) := ⟨_, _, rfl⟩
    have HY : Hid (gt xs t = (ys, r)) := hys
    rw [hys] at hyr hyl
    simp only at hyr hyl
    clear hys hl
    have hyl2 : ys.length ≤ 2097152 := by omega
    go_enter Try.func6, Try.ntmps6
    go_wp2_with fail
    refine (toV _ xs w hV hl1).mono ?_
    rintro e w1 ⟨v1, rfl, o1, b1⟩
    go_wp2_with fail
    refine (sGetTV v1 xs t w1 (o1.rv hrng) hl2 ht1).mono ?_
    rintro e w2 ⟨v2, rfl, o2, b2⟩
    rw [HY.out] at o2 ⊢
    have c2 := b1.trans (b2.mono b1.size)
    go_wp2_with fail
    refine (toV _ xs w2 (hV.ext (ext_below c2)) hl1).mono ?_
    rintro e w3 ⟨v3, rfl, o3, b3⟩
    have c3 := c2.trans (b3.mono c2.size)
    go_wp2_with fail
    refine (iGetTV v3 xs t w3 (o3.rv hrng) hl2 ht1).mono ?_
    rintro e w4 ⟨v4, rfl, o4, b4⟩
    rw [HY.out] at o4 ⊢
    have c4 := c3.trans (b4.mono c3.size)
    have o2' : Ow w4 w1.heap.size v2 ys := (o2.ext (ext_below b3)).ext (ext_below b4)
    have o3' : Ow w4 w2.heap.size v3 xs := o3.ext (ext_below b4)
    go_wp2_with fail
    refine (eqV_yes v4 v2 ys w4 (o4.rv hyr) (o2'.rv hyr) hyl2).mono ?_
    rintro e w5 ⟨rfl, q5, rfl⟩
    go_wp2_with fail
    have c5 := below_drewN c4 q5
    refine (toV _ xs _ (hV.ext (ext_below c5)) hl1).mono ?_
    rintro e w6 ⟨v6, rfl, o6, b6⟩
    have c6 := c5.trans (b6.mono c5.size)
    have x6 : Ext w4 w6 := (ext_drewN w4 q5).tr (ext_below b6)
    go_wp2_with fail
    refine (eqV_yes v3 v6 xs w6 ((o3'.ext x6).rv hrng) (o6.rv hrng) hl2).mono ?_
    rintro e w7 ⟨rfl, q7, rfl⟩
    have x7 : Ext w4 (w6.drewN q7) := x6.tr (ext_drewN w6 q7)
    have c7 := below_drewN c6 q7
    go_wp2_with fail
    refine (markV w2.heap.size v3 xs 1 _ (o3'.ext x7) hl2 (by omega) (by omega)).mono ?_
    rintro e w8 ⟨rfl, o8, g8⟩
    have c8 : Below w.heap.size w w8 := below_mark c7 c2.size (o3'.ext x7) c7.size g8
    have k2 : Ow w8 w1.heap.size v2 ys := (o2'.ext x7).kept g8 (apart_of o2 (Nat.le_refl _) o3)
    have k4 : Ow w8 w3.heap.size v4 ys := (o4.ext x7).kept g8 (apart_of' o3 (Nat.le_refl _) o4)
    have hpos : ¬ (1 + (xs.length : Int)) < 0 := by omega
    go_wp2_with fail
    refine (eqV_yes v4 v2 ys w8 (k4.rv hyr) (k2.rv hyr) hyl2).mono ?_
    rintro e w9 ⟨rfl, q9, rfl⟩
    go_wp2_with fail
    refine (markV w3.heap.size v4 ys 1 _ (k4.ext (ext_drewN w8 q9)) hyl2 (by omega) (by omega)).mono ?_
    rintro e w10 ⟨rfl, o10, g10⟩
    have c9 := below_drewN c8 q9
    have c10 : Below w.heap.size w w10 := below_mark c9 c3.size (k4.ext (ext_drewN w8 q9)) c9.size g10
    have m2 : Ow w10 w1.heap.size v2 ys := (k2.ext (ext_drewN w8 q9)).kept g10 (apart_of o2 b3.size o4)
    have hpos2 : ¬ (1 + (ys.length : Int)) < 0 := by omega
    go_wp2_with fail
    refine (heldV v4 ys.length 1 w10 (o10.rv (marks_rng _ _)) hyl2 (by omega) (by omega)).mono ?_
    rintro e w11 ⟨rfl, rfl⟩
    go_wp2_with fail
    refine (toV _ xs w11 (hV.ext (ext_below c10)) hl1).mono ?_
    rintro e w12 ⟨v12, rfl, o12, b12⟩
    have c12 := c10.trans (b12.mono c10.size)
    go_wp2_with fail
    refine (iGetTV v12 xs t w12 (o12.rv hrng) hl2 ht1).mono ?_
    rintro e w13 ⟨v13, rfl, o13, b13⟩
    rw [HY.out] at o13 ⊢
    have c13 := c12.trans (b13.mono c12.size)
    have x13 : Ext w11 w13 := (ext_below b12).tr (ext_below b13)
    go_wp2_with fail
    refine (eqV_yes v13 v2 ys w13 (o13.rv hyr) ((m2.ext x13).rv hyr) hyl2).mono ?_
    rintro e w14 ⟨rfl, q14, rfl⟩
    go_wp2_with fail
    refine (heldV v4 ys.length 1 _ (((o10.ext x13).ext (ext_drewN w13 q14)).rv (marks_rng _ _)) hyl2 (by omega) (by omega)).mono ?_
    rintro e w15 ⟨rfl, rfl⟩
    go_wp2
    go_ret
    exact ⟨rfl, below_drewN c13 q14⟩
  · have hn' : (1048576 : Int) < (n : Int) := by omega
    go_enter Try.func6, Try.ntmps6
    go_wp2
    go_ret
    exact ⟨rfl, Below.refl _ _⟩

end Go.Proofs.Ytbkifmbkmjjbnai
