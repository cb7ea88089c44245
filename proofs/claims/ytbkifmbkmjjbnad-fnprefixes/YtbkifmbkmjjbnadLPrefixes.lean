/- The law on prefixes: texts begin alike as far as Common tells, HasPrefix tells the same, NumLen tells how many bytes PutNum makes: the walk of the law itself. -/
import Derived.Test.YtbkifmbkmjjbnadDraw2
import Derived.Test.YtbkifmbkmjjbnadIHas
import Derived.Test.YtbkifmbkmjjbnadILen
import Derived.Test.YtbkifmbkmjjbnadIPut
namespace Go.Proofs.Ytbkifmbkmjjbnad
open Go.RowKit

theorem com_take (xs ys : List Int) : xs.take (com xs ys) = ys.take (com xs ys) := by
  induction xs generalizing ys with
  | nil => simp [com]
  | cons x xs ih =>
    cases ys with
    | nil => simp [com]
    | cons y ys =>
      rw [com]
      by_cases h : x = y
      · rw [if_pos h]
        simp [h, ih ys]
      · rw [if_neg h]
        simp
theorem com_comm (xs ys : List Int) : com ys xs = com xs ys := by
  induction xs generalizing ys with
  | nil => cases ys <;> simp [com]
  | cons x xs ih =>
    cases ys with
    | nil => simp [com]
    | cons y ys =>
      rw [com, com]
      by_cases h : x = y
      · rw [if_pos h, if_pos h.symm, ih ys]
      · rw [if_neg h, if_neg (fun e => h e.symm)]
theorem com_next (xs ys : List Int) (h1 : com xs ys < xs.length) (h2 : com xs ys < ys.length) : xs.getD (com xs ys) 0 ≠ ys.getD (com xs ys) 0 := by
  induction xs generalizing ys with
  | nil => simp at h1
  | cons x xs ih =>
    cases ys with
    | nil => simp at h2
    | cons y ys =>
      rw [com] at h1 h2 ⊢
      by_cases h : x = y
      · rw [if_pos h] at h1 h2 ⊢
        simp only [List.length_cons, Nat.add_lt_add_iff_right] at h1 h2
        simpa using ih ys h1 h2
      · rw [if_neg h]
        simpa using h
theorem has_take (xs ys : List Int) : hasB xs (ys.take (com xs ys)) = true := by
  unfold hasB
  rw [decide_eq_true_eq, com_pre]
  have h1 := com_le xs ys
  have h2 := com_take xs ys
  have hl : (ys.take (com xs ys)).length = com xs ys := by simp; omega
  rw [hl]
  exact ⟨h1.1, h2⟩

set_option maxHeartbeats 8000000 in
theorem law_FnPrefixes (a : Option Addr) (n cap : Nat) (zs : List Int) (w : World) (hr : Rd w a n zs) (_hc : n ≤ cap) (hm : cap ≤ maxLen) :
    Calls Try.prog 3 #[.slice a n cap] w fun e w' => e = .returned (.bool true) ∧ Below w.heap.size w w' := by
  have hnm : n ≤ maxLen := by omega
  go_enter Try.func3, Try.ntmps3
  go_wp2_with fail
  refine (drawCommon a n cap zs w hr hnm).mono ?_
  rintro e w1 ⟨va, vb, xs, ys, rfl, hx6, hy9, hxr, hyr, rx, ry, b1⟩
  go_wp2_with fail
  refine (iComV va vb xs ys w1 rx ry (by omega) (by omega)).mono ?_
  rintro e w2 ⟨rfl, q2, rfl⟩
  have b2 := below_drewN b1 q2
  go_wp2_with fail
  refine (drawHas a n cap zs _ (hr.below b2 (Nat.le_refl _)) hnm).mono ?_
  rintro e w3 ⟨vc, vp, cs, ps, rfl, hc6, hp6, hcr, hpr, rc, rp, b3⟩
  have c3 := b2.trans (b3.mono b2.size)
  go_wp2_with fail
  refine (drawLen a n cap zs w3 (hr.below c3 (Nat.le_refl _)) hnm).mono ?_
  rintro e w4 ⟨x, hx, rfl, b4⟩
  have c4 := c3.trans (b4.mono c3.size)
  have rx4 : RV w4 va xs := ((rx.ext (ext_drewN _ _)).ext (ext_below b3)).ext (ext_below b4)
  have ry4 : RV w4 vb ys := ((ry.ext (ext_drewN _ _)).ext (ext_below b3)).ext (ext_below b4)
  have rc4 : RV w4 vc cs := rc.ext (ext_below b4)
  have rp4 : RV w4 vp ps := rp.ext (ext_below b4)
  clear rx ry rc rp b1 b2 b3 b4 c3 hr
  obtain ⟨a1, cp1, rfl, rd1, hl1, hm1⟩ := id rx4
  obtain ⟨a2, cp2, rfl, rd2, hl2, hm2⟩ := id ry4
  have hmm1 : cp1 ≤ 9223372036854775807 := by unfold maxLen at hm1; omega
  have hmm2 : cp2 ≤ 9223372036854775807 := by unfold maxLen at hm2; omega
  have hle := com_le xs ys
  have ht := com_take xs ys
  have hcc := com_comm xs ys
  have hnx := com_next xs ys
  have hht := has_take xs ys
  obtain ⟨k, hk⟩ : ∃ k, k = com xs ys := ⟨_, rfl⟩
  rw [← hk] at hle ht hcc hnx hht ⊢
  obtain ⟨hk1, hk2⟩ := hle
  have HS : Hid (∀ q, Calls Try.prog 8 #[.slice a1 k cp1, .slice a2 k cp2] (w4.drewN q) fun e w' => e = .returned (.bool true) ∧ w' = w4.drewN q) := fun q => by
    have := same a1 a2 k cp1 k cp2 (xs.take k) (ys.take k) (w4.drewN q) ((rd_head rd1 k hk1).grown (ext_drewN _ _)) ((rd_head rd2 k hk2).grown (ext_drewN _ _))
    rw [ht] at this
    simpa using this
  have HC : Hid (∀ q, Calls Try.prog 5 #[.slice a2 ys.length cp2, .slice a1 xs.length cp1] (w4.drewN q) fun e w' => e = .returned (.int .i64 k) ∧ ∃ m, w' = (w4.drewN q).drewN m) := fun q => by
    have := iComV _ _ ys xs (w4.drewN q) (ry4.ext (ext_drewN _ _)) (rx4.ext (ext_drewN _ _)) (by omega) (by omega)
    rw [hcc] at this
    exact this
  have HH : Hid (hasB xs (ys.take k) = true) := hht
  have hkk : ¬ (xs.length : Int) < (k : Int) := by omega
  have hkk2 : ¬ (ys.length : Int) < (k : Int) := by omega
  have hkc1 : (k : Int) ≤ (cp1 : Int) := by omega
  have hkc2 : (k : Int) ≤ (cp2 : Int) := by omega
  have d1 : decide (xs.length < k) = false := by simp; omega
  have d2 : decide (ys.length < k) = false := by simp; omega
  clear ht hcc hht hk
  have hway : (k < xs.length ∧ k < ys.length ∧ xs.getD k 0 ≠ ys.getD k 0) ∨ (k < xs.length ∧ ¬ k < ys.length) ∨ ¬ k < xs.length := by
    by_cases h1 : k < xs.length
    · by_cases h2 : k < ys.length
      · exact .inl ⟨h1, h2, hnx h1 h2⟩
      · exact .inr (.inl ⟨h1, h2⟩)
    · exact .inr (.inr h1)
  clear hnx
  have ryk : RV w4 (.slice a2 k cp2) (ys.take k) := ⟨a2, cp2, by rw [take_len_le ys k ys.length rfl hk2], by rw [take_len_le ys k ys.length rfl hk2]; exact rd_head rd2 k hk2, by simp; omega, hm2⟩
  have HN : Hid ((numL 200).length = 2) := by unfold Hid; rfl
  obtain ⟨a4, cp4, rfl, rd4, hl4, hm4⟩ := id rp4
  rcases hway with ⟨hw1, hw2, hw3⟩ | ⟨hw1, hw2⟩ | hw1
  · obtain ⟨g1, o1, rfl, _, hc1⟩ := rd1.pos (by omega)
    obtain ⟨g2, o2, rfl, _, hc2⟩ := rd2.pos (by omega)
    have hck1 := hc1 k hw1
    have hck2 := hc2 k hw2
    have hwi1 : (k : Int) < (xs.length : Int) := by omega
    have hwi2 : (k : Int) < (ys.length : Int) := by omega
    obtain ⟨p, hp⟩ : ∃ p, p = xs.getD k 0 := ⟨_, rfl⟩
    obtain ⟨r, hr'⟩ : ∃ r, r = ys.getD k 0 := ⟨_, rfl⟩
    rw [← hp] at hck1 hw3
    rw [← hr'] at hck2 hw3
    have hpr : (p == r) = false := by simpa using hw3
    clear hp hr' hw3 hc1 hc2
    go_wp2
    go_quiet (first | (go_at_call 8; exact Calls.quiet_of_same (HS.out _)) | (go_at_call 5; exact Calls.quiet_of (HC.out _)))
    go_wp2_with fail
    refine (iHasV _ _ xs (ys.take k) _ (rx4.ext (ext_drewN _ _)) (ryk.ext (ext_drewN _ _)) (by omega) (by simp; omega)).mono ?_
    rintro e w5 ⟨rfl, q5, rfl⟩
    rw [HH.out]
    go_wp2_with fail
    refine (iHasV _ _ cs ps _ (rc4.ext (ext_drewN _ _)) (rp4.ext (ext_drewN _ _)) (by omega) (by omega)).mono ?_
    rintro e w6 ⟨rfl, q6, rfl⟩
    go_wp2_with fail
    refine (iComV _ _ cs ps _ (rc4.ext (ext_drewN _ _)) (rp4.ext (ext_drewN _ _)) (by omega) (by omega)).mono ?_
    rintro e w7 ⟨rfl, q7, rfl⟩
    have c7 : ∀ q, Below w.heap.size w (w4.drewN q) := fun q => below_drewN c4 q
    by_cases hq : com cs ps = ps.length
    · have HQ : Hid (hasB cs ps = true) := by unfold Hid hasB; rw [hq]; simp
      rw [HQ.out, hq]
      clear hq
      go_wp2_with fail
      refine (iLen x _).mono ?_
      rintro e w8 ⟨rfl, b8⟩
      have c8 := (c7 _).trans (b8.mono (c7 0).size)
      go_wp2_with fail
      refine (iPut none 0 0 [] x w8 (Rd.nil _ _) (by omega)).mono ?_
      rintro e w9 ⟨v9, rfl, o9, b9⟩
      have c9 := c8.trans (b9.mono c8.size)
      obtain ⟨a9, cp9, rfl, _⟩ := o9.rd (by simpa using numL_rng x)
      simp only [List.nil_append]
      go_wp2_with fail
      refine (iLen 200 w9).mono ?_
      rintro e w10 ⟨rfl, b10⟩
      rw [HN.out]
      go_wp2
      go_ret
      exact ⟨rfl, c9.trans (b10.mono c9.size)⟩
    · have HQ : Hid (hasB cs ps = false) := by unfold Hid hasB; rw [decide_eq_false_iff_not]; exact hq
      have hne : ((com cs ps : Int) == (ps.length : Int)) = false := by simp; omega
      rw [HQ.out]
      clear hq
      go_wp2_with fail
      refine (iLen x _).mono ?_
      rintro e w8 ⟨rfl, b8⟩
      have c8 := (c7 _).trans (b8.mono (c7 0).size)
      go_wp2_with fail
      refine (iPut none 0 0 [] x w8 (Rd.nil _ _) (by omega)).mono ?_
      rintro e w9 ⟨v9, rfl, o9, b9⟩
      have c9 := c8.trans (b9.mono c8.size)
      obtain ⟨a9, cp9, rfl, _⟩ := o9.rd (by simpa using numL_rng x)
      simp only [List.nil_append]
      go_wp2_with fail
      refine (iLen 200 w9).mono ?_
      rintro e w10 ⟨rfl, b10⟩
      rw [HN.out]
      go_wp2
      go_ret
      exact ⟨rfl, c9.trans (b10.mono c9.size)⟩
  · have hwi1 : (k : Int) < (xs.length : Int) := by omega
    have e2 : decide (k < ys.length) = false := by simp; omega
    go_wp2
    go_quiet (first | (go_at_call 8; exact Calls.quiet_of_same (HS.out _)) | (go_at_call 5; exact Calls.quiet_of (HC.out _)))
    go_wp2_with fail
    refine (iHasV _ _ xs (ys.take k) _ (rx4.ext (ext_drewN _ _)) (ryk.ext (ext_drewN _ _)) (by omega) (by simp; omega)).mono ?_
    rintro e w5 ⟨rfl, q5, rfl⟩
    rw [HH.out]
    go_wp2_with fail
    refine (iHasV _ _ cs ps _ (rc4.ext (ext_drewN _ _)) (rp4.ext (ext_drewN _ _)) (by omega) (by omega)).mono ?_
    rintro e w6 ⟨rfl, q6, rfl⟩
    go_wp2_with fail
    refine (iComV _ _ cs ps _ (rc4.ext (ext_drewN _ _)) (rp4.ext (ext_drewN _ _)) (by omega) (by omega)).mono ?_
    rintro e w7 ⟨rfl, q7, rfl⟩
    have c7 : ∀ q, Below w.heap.size w (w4.drewN q) := fun q => below_drewN c4 q
    by_cases hq : com cs ps = ps.length
    · have HQ : Hid (hasB cs ps = true) := by unfold Hid hasB; rw [hq]; simp
      rw [HQ.out, hq]
      clear hq
      go_wp2_with fail
      refine (iLen x _).mono ?_
      rintro e w8 ⟨rfl, b8⟩
      have c8 := (c7 _).trans (b8.mono (c7 0).size)
      go_wp2_with fail
      refine (iPut none 0 0 [] x w8 (Rd.nil _ _) (by omega)).mono ?_
      rintro e w9 ⟨v9, rfl, o9, b9⟩
      have c9 := c8.trans (b9.mono c8.size)
      obtain ⟨a9, cp9, rfl, _⟩ := o9.rd (by simpa using numL_rng x)
      simp only [List.nil_append]
      go_wp2_with fail
      refine (iLen 200 w9).mono ?_
      rintro e w10 ⟨rfl, b10⟩
      rw [HN.out]
      go_wp2
      go_ret
      exact ⟨rfl, c9.trans (b10.mono c9.size)⟩
    · have HQ : Hid (hasB cs ps = false) := by unfold Hid hasB; rw [decide_eq_false_iff_not]; exact hq
      have hne : ((com cs ps : Int) == (ps.length : Int)) = false := by simp; omega
      rw [HQ.out]
      clear hq
      go_wp2_with fail
      refine (iLen x _).mono ?_
      rintro e w8 ⟨rfl, b8⟩
      have c8 := (c7 _).trans (b8.mono (c7 0).size)
      go_wp2_with fail
      refine (iPut none 0 0 [] x w8 (Rd.nil _ _) (by omega)).mono ?_
      rintro e w9 ⟨v9, rfl, o9, b9⟩
      have c9 := c8.trans (b9.mono c8.size)
      obtain ⟨a9, cp9, rfl, _⟩ := o9.rd (by simpa using numL_rng x)
      simp only [List.nil_append]
      go_wp2_with fail
      refine (iLen 200 w9).mono ?_
      rintro e w10 ⟨rfl, b10⟩
      rw [HN.out]
      go_wp2
      go_ret
      exact ⟨rfl, c9.trans (b10.mono c9.size)⟩
  · have e1 : decide (k < xs.length) = false := by simp; omega
    go_wp2
    go_quiet (first | (go_at_call 8; exact Calls.quiet_of_same (HS.out _)) | (go_at_call 5; exact Calls.quiet_of (HC.out _)))
    go_wp2_with fail
    refine (iHasV _ _ xs (ys.take k) _ (rx4.ext (ext_drewN _ _)) (ryk.ext (ext_drewN _ _)) (by omega) (by simp; omega)).mono ?_
    rintro e w5 ⟨rfl, q5, rfl⟩
    rw [HH.out]
    go_wp2_with fail
    refine (iHasV _ _ cs ps _ (rc4.ext (ext_drewN _ _)) (rp4.ext (ext_drewN _ _)) (by omega) (by omega)).mono ?_
    rintro e w6 ⟨rfl, q6, rfl⟩
    go_wp2_with fail
    refine (iComV _ _ cs ps _ (rc4.ext (ext_drewN _ _)) (rp4.ext (ext_drewN _ _)) (by omega) (by omega)).mono ?_
    rintro e w7 ⟨rfl, q7, rfl⟩
    have c7 : ∀ q, Below w.heap.size w (w4.drewN q) := fun q => below_drewN c4 q
    by_cases hq : com cs ps = ps.length
    · have HQ : Hid (hasB cs ps = true) := by unfold Hid hasB; rw [hq]; simp
      rw [HQ.out, hq]
      clear hq
      go_wp2_with fail
      refine (iLen x _).mono ?_
      rintro e w8 ⟨rfl, b8⟩
      have c8 := (c7 _).trans (b8.mono (c7 0).size)
      go_wp2_with fail
      refine (iPut none 0 0 [] x w8 (Rd.nil _ _) (by omega)).mono ?_
      rintro e w9 ⟨v9, rfl, o9, b9⟩
      have c9 := c8.trans (b9.mono c8.size)
      obtain ⟨a9, cp9, rfl, _⟩ := o9.rd (by simpa using numL_rng x)
      simp only [List.nil_append]
      go_wp2_with fail
      refine (iLen 200 w9).mono ?_
      rintro e w10 ⟨rfl, b10⟩
      rw [HN.out]
      go_wp2
      go_ret
      exact ⟨rfl, c9.trans (b10.mono c9.size)⟩
    · have HQ : Hid (hasB cs ps = false) := by unfold Hid hasB; rw [decide_eq_false_iff_not]; exact hq
      have hne : ((com cs ps : Int) == (ps.length : Int)) = false := by simp; omega
      rw [HQ.out]
      clear hq
      go_wp2_with fail
      refine (iLen x _).mono ?_
      rintro e w8 ⟨rfl, b8⟩
      have c8 := (c7 _).trans (b8.mono (c7 0).size)
      go_wp2_with fail
      refine (iPut none 0 0 [] x w8 (Rd.nil _ _) (by omega)).mono ?_
      rintro e w9 ⟨v9, rfl, o9, b9⟩
      have c9 := c8.trans (b9.mono c8.size)
      obtain ⟨a9, cp9, rfl, _⟩ := o9.rd (by simpa using numL_rng x)
      simp only [List.nil_append]
      go_wp2_with fail
      refine (iLen 200 w9).mono ?_
      rintro e w10 ⟨rfl, b10⟩
      rw [HN.out]
      go_wp2
      go_ret
      exact ⟨rfl, c9.trans (b10.mono c9.size)⟩

end Go.Proofs.Ytbkifmbkmjjbnad
