/- The program's Shuffle. -/
import Derived.Test.YtfdklcmhafhbeaaPx1
import Derived.Deep.CutRange
namespace Go.Proofs.Ytfdklcmhafhbeaa
open Go.RowKit

set_option maxRecDepth 20000 in
set_option maxHeartbeats 1500000 in
theorem iShuffleV (v : Value) (xs : List Int) (s : Int) (w : World) (h : VL fI w v xs) (_h1 : -9223372036854775808 ≤ s) (_h2 : s ≤ 9223372036854775807) :
    Calls Try.prog 42 #[v, .int .i64 s] w fun e w' => ∃ tv, e = .returned (.tuple #[tv, .int .i64 (shufD xs s).2]) ∧ OwI w' w.heap.size tv (shufD xs s).1 ∧ Below w.heap.size w w' := by
  obtain ⟨a, cap, rfl⟩ := vl_shape h
  obtain ⟨n, hnn⟩ : ∃ n, n = xs.length := ⟨_, rfl⟩
  have hml : n ≤ 9223372036854775807 := by
    obtain ⟨a', cap', e, h1, h2, _⟩ := h
    unfold maxLen at h2
    omega
  have HV : Hid (VL fI w (.slice a n cap) xs) := by rw [hnn]; exact h
  have HN : Hid (n = xs.length) := hnn
  obtain ⟨R, hR⟩ : ∃ R, R = shufD xs s := ⟨_, rfl⟩
  rw [← hR]
  rw [← hnn] at ⊢
  have HNIL : Hid (OwI w w.heap.size (.slice none 0 0) []) := World.ownsRow_nil _ _ _ _
  by_cases g1 : n > 12
  · have HK : Hid (R = ([], 0)) := by show _ = _; rw [hR]; exact if_pos (by rw [← hnn]; exact .inl g1)
    have d1 : decide ((n : Int) > 12) = true := decide_eq_true (by omega)
    clear hR h hnn
    go_enter Try.func42, Try.ntmps42
    go_wp2
    go_ret2
    rw [HK.out]
    exact ⟨_, rfl, HNIL.out, Below.refl _ _⟩
  have d1 : decide ((n : Int) > 12) = false := decide_eq_false (by omega)
  by_cases g2 : s < 0 ∨ 2147483647 < s
  · have HK : Hid (R = ([], 0)) := by show _ = _; rw [hR]; exact if_pos (by rw [← hnn]; exact .inr g2)
    have h1 := seed_no g2
    clear hR h hnn g2
    go_enter Try.func42, Try.ntmps42
    go_wp2_with (go_at_call 53; refine (seedOkV _ _).mono ?_; rintro e w1 ⟨rfl, rfl⟩; rw [h1])
    go_ret2
    rw [HK.out]
    exact ⟨_, rfl, HNIL.out, Below.refl _ _⟩
  have h1 := seed_yes g2
  have hs0 : 0 ≤ s := by omega
  have hs1 : s ≤ 2147483647 := by omega
  have HR : Hid (R = shufN (n - 1) xs s) := by show _ = _; rw [hR, hnn]; exact if_neg (by rw [← hnn]; omega)
  have hn1 : (n : Int) ≤ 12 := by omega
  clear h hnn hR g1 g2
  go_enter Try.func42, Try.ntmps42
  go_upto_region 4 with (go_at_call 53; refine (seedOkV _ _).mono ?_; rintro e w1 ⟨rfl, hw1⟩; have hw2 := hw1.symm; clear hw1; subst hw2; rw [h1])
  refine (cloneIV _ xs w HV.out (by have := HN.out; omega)).mono ?_
  rintro e w1 ⟨v1, rfl, o1, b1⟩
  obtain ⟨a1, c1, hv1⟩ : ∃ a1 c1, v1 = .slice a1 n c1 := (by have := o1.shape; rw [← HN.out] at this; exact this)
  subst hv1
  have HO1 : Hid (OwI w1 w.heap.size (.slice a1 n c1) xs) := o1
  have HB1 : Hid (Below w.heap.size w w1) := b1
  clear o1 b1
  go_wp2
  go_loopw [1, 7] (fun sv i wr => ∃ (j sd : Int) (ys : List Int), i = .int .i64 j ∧ sv = .int .i64 sd ∧ -1 ≤ j ∧ j < n ∧ 0 ≤ sd ∧ sd ≤ 2147483647 ∧ Hid (R = shufN j.toNat ys sd) ∧ Hid (n = ys.length) ∧ Hid (OwI wr w.heap.size (.slice a1 n c1) ys) ∧ Hid (Below w.heap.size w wr)) (fun _ i _ => (intOf i).toNat)
  case atStart => exact ⟨(n : Int) - 1, s, xs, rfl, rfl, by omega, by omega, hs0, hs1, by show _ = _; rw [HR.out]; congr 1; omega, HN, HO1, HB1⟩
  case round =>
    obtain ⟨j, sd, ys, rfl, rfl, hj0, hj1, hd0, hd1, hRR, hys, hO, hB⟩ := hrel
    by_cases hpos : 1 ≤ j
    · obtain ⟨p, rfl⟩ := Int.eq_ofNat_of_zero_le (show 0 ≤ j by omega)
      have hpn : p < n := by omega
      have hp0 : 0 < p := by omega
      obtain ⟨g, hg⟩ : ∃ g, a1 = some ⟨g, 0, none⟩ := by
        rcases hO.out.2 with ⟨h0, _⟩ | ⟨g, c, cur, hv, _⟩
        · simp only [Value.slice.injEq] at h0; omega
        · simp only [Value.slice.injEq] at hv; exact ⟨g, hv.1⟩
      subst hg
      obtain ⟨m, hm⟩ : ∃ m, m = mixF sd := ⟨_, rfl⟩
      have hmb := mixF_bd sd
      rw [← hm] at hmb
      obtain ⟨hm0, hm1⟩ := hmb
      obtain ⟨q, hq⟩ := Int.eq_ofNat_of_zero_le (Int.emod_nonneg m (show ((p : Int) + 1) ≠ 0 by omega))
      have hqp : q ≤ p := by have := Int.emod_lt_of_pos m (show (0 : Int) < (p : Int) + 1 by omega); omega
      have hqn : q < n := by omega
      have HMX : Hid (m = mixF sd) := hm
      have HSW : Hid (R = shufN (p - 1) (swapL ys p q) m) := by
        show _ = _
        have hp' : p = (p - 1) + 1 := by omega
        rw [hRR.out, Int.toNat_natCast]
        conv => lhs; rw [hp', shufN]
        rw [← hm, ← hp']
        congr 2
        have : ((p - 1 : Nat) : Int) + 2 = (p : Int) + 1 := by omega
        rw [this, hq]
        rfl
      clear hm hRR
      obtain ⟨cp, fp⟩ := hO.out.get hys.out p hpn
      obtain ⟨cq, fq⟩ := hO.out.get hys.out q hqn
      obtain ⟨O2, G2⟩ := hO.out.put hys.out p (ys.getD q 0)
      have hgb := (World.ownsRow.lt hO.out g rfl).1
      have HL2 : Hid (n = (ys.set p (ys.getD q 0)).length) := by show _ = _; rw [List.length_set]; exact hys.out
      obtain ⟨O3, G3⟩ := O2.put HL2.out q (ys.getD p 0)
      have HO3 : Hid (OwI ((wr.setCell ⟨g, p, none⟩ (.int .i64 (ys.getD q 0))).setCell ⟨g, q, none⟩ (.int .i64 (ys.getD p 0))) w.heap.size (.slice (some ⟨g, 0, none⟩) n c1) (swapL ys p q)) := O3
      have HB3 : Hid (Below w.heap.size w ((wr.setCell ⟨g, p, none⟩ (.int .i64 (ys.getD q 0))).setCell ⟨g, q, none⟩ (.int .i64 (ys.getD p 0)))) := (hB.out.setCell hgb _).setCell hgb _
      have HL3 : Hid (n = (swapL ys p q).length) := by show _ = _; rw [swapL_len]; exact hys.out
      obtain ⟨cq', fq'⟩ := O2.get HL2.out q hqn
      have hlp : (p : Int) < (n : Int) := by omega
      have hlq : (q : Int) < (n : Int) := by omega
      have hrem : m.tmod ((p : Int) + 1) = (q : Int) := by rw [Int.tmod_eq_emod_of_nonneg hm0]; exact hq
      have hp1 : ¬ ((p : Int) + 1 = 0) := by omega
      clear O2 G2 O3 G3
      generalize ys.getD p 0 = yp at *
      generalize hyq : ys.getD q 0 = yq at *
      clear hyq
      go_upto_region 9 with (go_at_call 62; refine (iMixV sd _ (by omega) (by omega)).mono ?_; rintro e w9 ⟨he, hw9⟩; rw [← HMX.out] at he; subst he; have hw8 := hw9.symm; clear hw9; subst hw8)
      go_region
      go_wp2
      go_roundw
      case rel => exact ⟨(p : Int) - 1, m, swapL ys p q, by go_num, rfl, by omega, by omega, hm0, by omega, by have := HSW.out; rw [show ((p : Int) - 1).toNat = p - 1 by omega]; exact this, HL3, HO3.out.ext (ext_drewN _ 1), HB3.out.trans (ext_bel (ext_drewN _ 1) |>.mono HB3.out.size)⟩
      case measure => simp [intOf]; omega
    · have hz : j.toNat = 0 := by omega
      have HF : Hid (R = (ys, sd)) := by show _ = _; rw [hRR.out, hz]; rfl
      clear hz
      go_wp2
      go_ret2
      rw [HF.out]
      exact ⟨_, rfl, hO.out, hB.out⟩

end Go.Proofs.Ytfdklcmhafhbeaa
