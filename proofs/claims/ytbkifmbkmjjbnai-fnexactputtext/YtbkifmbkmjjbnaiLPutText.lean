/- The exact statement of PutText: the walk of the law itself. -/
import Derived.Test.YtbkifmbkmjjbnaiIPut
import Derived.Test.YtbkifmbkmjjbnaiMark
namespace Go.Proofs.Ytbkifmbkmjjbnai
open Go.RowKit

theorem sPutTV (v u : Value) (xs ys : List Int) (w : World) (h : RV w v xs) (k : RV w u ys) (hn : xs.length ≤ 2097152) (hn' : ys.length ≤ 2097152) :
    Calls Try.prog 16 #[v, u] w fun e w' => ∃ v', e = .returned v' ∧ Ow w' w.heap.size v' (textL xs ys) ∧ Below w.heap.size w w' := by
  obtain ⟨a, cap, rfl, hr, _, _⟩ := h
  obtain ⟨b, cap', rfl, hs, _, _⟩ := k
  exact sPutT a b xs.length cap ys.length cap' xs ys w hr hs hn hn'
theorem iPutTV (v u : Value) (xs ys : List Int) (w : World) (h : RV w v xs) (k : RV w u ys) (hn : xs.length ≤ 2097152) (hn' : ys.length ≤ 2097152) :
    Calls Try.prog 17 #[v, u] w fun e w' => ∃ v', e = .returned v' ∧ Ow w' w.heap.size v' (textL xs ys) ∧ Below w.heap.size w w' := by
  obtain ⟨a, cap, rfl, hr, _, _⟩ := h
  obtain ⟨b, cap', rfl, hs, _, _⟩ := k
  exact iPutT a b xs.length cap ys.length cap' xs ys w hr hs hn hn'

theorem textL_rng {xs ys : List Int} (h : ∀ x ∈ xs, 0 ≤ x ∧ x ≤ 255) (k : ∀ x ∈ ys, 0 ≤ x ∧ x ≤ 255) : ∀ x ∈ textL xs ys, 0 ≤ x ∧ x ≤ 255 := by
  unfold textL
  split
  · intro x hx
    rcases List.mem_append.1 hx with hx | hx
    · rcases List.mem_append.1 hx with hx | hx
      · exact h x hx
      · exact numL_rng _ x hx
    · exact k x hx
  · exact h
theorem textL_len (xs ys : List Int) : (textL xs ys).length ≤ xs.length + 25 := by
  unfold textL
  split
  · have := numL_len (ys.length : Int)
    simp only [List.length_append]
    omega
  · omega

set_option maxHeartbeats 2000000 in
theorem law_PutText (a : Option Addr) (n cap : Nat) (xs : List Int) (b : Option Addr) (m cap' : Nat) (ts : List Int) (w : World) (hr : Rd w a n xs) (hc : n ≤ cap) (hm : cap ≤ maxLen) (hr' : Rd w b m ts) (hc' : m ≤ cap') (hm' : cap' ≤ maxLen) :
    Calls Try.prog 5 #[.slice a n cap, .slice b m cap'] w fun e w' => e = .returned (.bool true) ∧ Below w.heap.size w w' := by
  have hml : n ≤ 9223372036854775807 := by unfold maxLen at hm; omega
  have hml' : m ≤ 9223372036854775807 := by unfold maxLen at hm'; omega
  by_cases hn : n ≤ 1048576
  · by_cases hn2 : m ≤ 1048576
    · have hn' : ¬ (1048576 : Int) < (n : Int) := by omega
      have hn2' : ¬ (1048576 : Int) < (m : Int) := by omega
      have hl := hr.len
      have hl' := hr'.len
      have hV : RV w (.slice a n cap) xs := ⟨a, cap, by rw [hl], by rw [hl]; exact hr, by omega, hm⟩
      have hU : RV w (.slice b m cap') ts := ⟨b, cap', by rw [hl'], by rw [hl']; exact hr', by omega, hm'⟩
      have hl1 : xs.length ≤ 1048576 := by omega
      have hl2 : xs.length ≤ 2097152 := by omega
      have ht1 : ts.length ≤ 1048576 := by omega
      have ht2 : ts.length ≤ 2097152 := by omega
      have hrng := hr.rng
      have htrng := hr'.rng
      have hyr := textL_rng hrng htrng
      have hyl : (textL xs ts).length ≤ 2097152 := by have := textL_len xs ts; omega
      obtain ⟨ys, hys⟩ : ∃ ys, ys = textL xs ts := ⟨_, rfl⟩
      have HY : Hid (ys = textL xs ts) := hys
      rw [← hys] at hyr hyl
      clear hys hl hl'
      go_enter Try.func5, Try.ntmps5
      go_wp2_with fail
      refine (toV _ xs w hV hl1).mono ?_
      rintro e w1 ⟨v1, rfl, o1, b1⟩
      go_wp2_with fail
      refine (toV _ ts w1 (hU.ext (ext_below b1)) ht1).mono ?_
      rintro e wa ⟨va, rfl, oa, ba⟩
      have ca := b1.trans (ba.mono b1.size)
      go_wp2_with fail
      refine (sPutTV v1 va xs ts wa ((o1.ext (ext_below ba)).rv hrng) (oa.rv htrng) hl2 ht2).mono ?_
      rintro e w2 ⟨v2, rfl, o2, b2⟩
      rw [← HY.out] at o2
      have c2 := ca.trans (b2.mono ca.size)
      go_wp2_with fail
      refine (toV _ xs w2 (hV.ext (ext_below c2)) hl1).mono ?_
      rintro e w3 ⟨v3, rfl, o3, b3⟩
      have c3 := c2.trans (b3.mono c2.size)
      go_wp2_with fail
      refine (toV _ ts w3 (hU.ext (ext_below c3)) ht1).mono ?_
      rintro e wb ⟨vb, rfl, ob, bb⟩
      have cb := c3.trans (bb.mono c3.size)
      go_wp2_with fail
      refine (iPutTV v3 vb xs ts wb ((o3.ext (ext_below bb)).rv hrng) (ob.rv htrng) hl2 ht2).mono ?_
      rintro e w4 ⟨v4, rfl, o4, b4⟩
      rw [← HY.out] at o4
      have c4 := cb.trans (b4.mono cb.size)
      have o2' : Ow w4 wa.heap.size v2 ys := ((o2.ext (ext_below b3)).ext (ext_below bb)).ext (ext_below b4)
      have o3' : Ow w4 w2.heap.size v3 xs := (o3.ext (ext_below bb)).ext (ext_below b4)
      have ob' : Ow w4 w3.heap.size vb ts := ob.ext (ext_below b4)
      go_wp2_with fail
      refine (eqV_yes v4 v2 ys w4 (o4.rv hyr) (o2'.rv hyr) hyl).mono ?_
      rintro e w5 ⟨rfl, q5, rfl⟩
      have c5 := below_drewN c4 q5
      go_wp2_with fail
      refine (toV _ xs _ (hV.ext (ext_below c5)) hl1).mono ?_
      rintro e w6 ⟨v6, rfl, o6, b6⟩
      have c6 := c5.trans (b6.mono c5.size)
      have x6 : Ext w4 w6 := (ext_drewN w4 q5).tr (ext_below b6)
      go_wp2_with fail
      refine (eqV_yes v3 v6 xs w6 ((o3'.ext x6).rv hrng) (o6.rv hrng) hl2).mono ?_
      rintro e w7 ⟨rfl, q7, rfl⟩
      have x7 : Ext w4 (w6.drewN q7) := x6.tr (ext_drewN w6 q7)
      have c7 := below_drewN c6 q7
      go_wp2_with fail
      refine (toV _ ts _ (hU.ext (ext_below c7)) ht1).mono ?_
      rintro e wc ⟨vc, rfl, oc, bc⟩
      have cc := c7.trans (bc.mono c7.size)
      have xc : Ext w4 wc := x7.tr (ext_below bc)
      go_wp2_with fail
      refine (eqV_yes vb vc ts wc ((ob'.ext xc).rv htrng) (oc.rv htrng) ht2).mono ?_
      rintro e wd ⟨rfl, qd, rfl⟩
      have xd : Ext w4 (wc.drewN qd) := xc.tr (ext_drewN wc qd)
      have cd := below_drewN cc qd
      go_wp2_with fail
      refine (markV w2.heap.size v3 xs 1 _ (o3'.ext xd) hl2 (by omega) (by omega)).mono ?_
      rintro e w8 ⟨rfl, o8, g8⟩
      have c8 : Below w.heap.size w w8 := below_mark cd c2.size (o3'.ext xd) cd.size g8
      have k2 : Ow w8 wa.heap.size v2 ys := (o2'.ext xd).kept g8 (apart_of o2 (Nat.le_refl _) o3)
      have kb : Ow w8 w3.heap.size vb ts := (ob'.ext xd).kept g8 (apart_of' o3 (Nat.le_refl _) ob)
      have k4 : Ow w8 wb.heap.size v4 ys := (o4.ext xd).kept g8 (apart_of' o3 bb.size o4)
      go_wp2_with fail
      refine (markV w3.heap.size vb ts (1 + xs.length) _ kb ht2 (by omega) (by omega)).mono ?_
      rintro e we ⟨rfl, oe, ge⟩
      have ce : Below w.heap.size w we := below_mark c8 c3.size kb c8.size ge
      have l2 : Ow we wa.heap.size v2 ys := k2.kept ge (apart_of o2 b3.size ob)
      have l4 : Ow we wb.heap.size v4 ys := k4.kept ge (apart_of' ob (Nat.le_refl _) o4)
      have hpos : ¬ (1 + (xs.length : Int) + ts.length) < 0 := by omega
      go_wp2_with fail
      refine (eqV_yes v4 v2 ys we (l4.rv hyr) (l2.rv hyr) hyl).mono ?_
      rintro e w9 ⟨rfl, q9, rfl⟩
      go_wp2_with fail
      refine (markV wb.heap.size v4 ys 1 _ (l4.ext (ext_drewN we q9)) hyl (by omega) (by omega)).mono ?_
      rintro e w10 ⟨rfl, o10, g10⟩
      have c9 := below_drewN ce q9
      have c10 : Below w.heap.size w w10 := below_mark c9 cb.size (l4.ext (ext_drewN we q9)) c9.size g10
      have m2 : Ow w10 wa.heap.size v2 ys := (l2.ext (ext_drewN we q9)).kept g10 (apart_of o2 (Nat.le_trans b3.size bb.size) o4)
      have hpos2 : ¬ (1 + (ys.length : Int)) < 0 := by omega
      go_wp2_with fail
      refine (heldV v4 ys.length 1 w10 (o10.rv (marks_rng _ _)) hyl (by omega) (by omega)).mono ?_
      rintro e w11 ⟨rfl, rfl⟩
      go_wp2_with fail
      refine (toV _ xs w11 (hV.ext (ext_below c10)) hl1).mono ?_
      rintro e w12 ⟨v12, rfl, o12, b12⟩
      have c12 := c10.trans (b12.mono c10.size)
      go_wp2_with fail
      refine (toV _ ts w12 (hU.ext (ext_below c12)) ht1).mono ?_
      rintro e wf ⟨vf, rfl, of, bf⟩
      have cf := c12.trans (bf.mono c12.size)
      go_wp2_with fail
      refine (iPutTV v12 vf xs ts wf ((o12.ext (ext_below bf)).rv hrng) (of.rv htrng) hl2 ht2).mono ?_
      rintro e w13 ⟨v13, rfl, o13, b13⟩
      rw [← HY.out] at o13
      have c13 := cf.trans (b13.mono cf.size)
      have x13 : Ext w11 w13 := ((ext_below b12).tr (ext_below bf)).tr (ext_below b13)
      go_wp2_with fail
      refine (eqV_yes v13 v2 ys w13 (o13.rv hyr) ((m2.ext x13).rv hyr) hyl).mono ?_
      rintro e w14 ⟨rfl, q14, rfl⟩
      go_wp2_with fail
      refine (heldV v4 ys.length 1 _ (((o10.ext x13).ext (ext_drewN w13 q14)).rv (marks_rng _ _)) hyl (by omega) (by omega)).mono ?_
      rintro e w15 ⟨rfl, rfl⟩
      go_wp2
      go_ret
      exact ⟨rfl, below_drewN c13 q14⟩
    · have hn' : ¬ (1048576 : Int) < (n : Int) := by omega
      have hn2' : (1048576 : Int) < (m : Int) := by omega
      go_enter Try.func5, Try.ntmps5
      go_wp2
      go_ret
      exact ⟨rfl, Below.refl _ _⟩
  · have hn' : (1048576 : Int) < (n : Int) := by omega
    go_enter Try.func5, Try.ntmps5
    go_wp2
    go_ret
    exact ⟨rfl, Below.refl _ _⟩

end Go.Proofs.Ytbkifmbkmjjbnai
