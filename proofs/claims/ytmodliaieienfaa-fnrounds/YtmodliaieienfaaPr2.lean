
/- The specification's Mix and l11shuffle. -/
import Derived.Test.YtmodliaieienfaaPr2a
import Derived.Deep.CutRange
namespace Go.Proofs.Ytmodliaieienfaa
open Go.RowKit

set_option maxHeartbeats 1000000 in
theorem sMixV (s : Int) (w : World) (_h1 : -9223372036854775808 ≤ s) (_h2 : s ≤ 9223372036854775807) : Calls Try.prog 61 #[.int .i64 s] w fun e w' => e = .returned (.int .i64 (mixF s)) ∧ w' = w := by
  by_cases h : s < 0 ∨ 2147483647 < s
  · have HM : Hid (mixF s = 0) := if_pos h
    rcases h with h | h
    · go_enter Try.func61, Try.ntmps61
      go_wp2
      go_ret
      exact ⟨by rw [HM.out]; rfl, rfl⟩
    · have h0 : ¬ s < 0 := by omega
      go_enter Try.func61, Try.ntmps61
      go_wp2
      go_ret
      exact ⟨by rw [HM.out]; rfl, rfl⟩
  · have HM : Hid (mixF s = (s * 16807 + 11) % 2147483647) := if_neg h
    have h0 : 0 ≤ s := by omega
    have h1 : s ≤ 2147483647 := by omega
    clear h
    go_enter Try.func61, Try.ntmps61
    go_wp2
    go_ret
    exact ⟨by rw [HM.out]; rfl, rfl⟩

set_option maxRecDepth 20000 in
set_option maxHeartbeats 1500000 in
theorem sShufV (v : Value) (xs : List Int) (s : Int) (w : World) (h : VL fI w v xs) (hn : xs.length ≤ 1048576) (hs0 : 0 ≤ s) (hs1 : s ≤ 2147483647) :
    Calls Try.prog 57 #[v, .int .i64 s] w fun e w' => ∃ tv, e = .returned (.tuple #[tv, .int .i64 (shufL xs s).2]) ∧ OwI w' w.heap.size tv (shufL xs s).1 ∧ Below w.heap.size w w' := by
  obtain ⟨a, cap, rfl⟩ := vl_shape h
  obtain ⟨n, hnn⟩ : ∃ n, n = xs.length := ⟨_, rfl⟩
  have HV : Hid (VL fI w (.slice a n cap) xs) := by rw [hnn]; exact h
  have HN : Hid (n = xs.length) := hnn
  obtain ⟨R, hR⟩ : ∃ R, R = shufL xs s := ⟨_, rfl⟩
  have HR : Hid (R = shufN (n - 1) xs s) := by show _ = _; rw [hR, hnn]; rfl
  have HRL : Hid (R.1.length = n) := by show _ = _; rw [hR, shufL_len, hnn]
  rw [← hR]
  rw [← hnn] at hn ⊢
  have hn1 : (n : Int) ≤ 1048576 := by omega
  clear h hnn hR
  go_enter Try.func57, Try.ntmps57
  have HE : Hid (OwI (w.alloc (.cells #[] 3)) w.heap.size (.slice (some ⟨w.heap.size, 0, none⟩) 0 0) []) := World.ownsRow_lit w #[] 0 (Nat.le_refl _) (Nat.zero_le _) rfl
  go_upto_region 2 with (at_builtin; refine wpList_append_il _ rfl (.tmp 10) (.tmp 11) rfl w.heap.size _ [] rfl HE.out a n cap xs rfl (HV.out.ext (World.grownBy_alloc _ _ _)) (by have := HN.out; simp; omega) (by simp) ?_; intro v1 w1 o1 g1; obtain ⟨a1, c1, hv1⟩ : ∃ a1 c1, v1 = .slice a1 n c1 := (by have := o1.shape; rw [List.nil_append, ← HN.out] at this; exact this); subst hv1)
  have HO1 : Hid (OwI w1 w.heap.size (.slice a1 n c1) xs) := by have := o1; rw [List.nil_append] at this; exact this
  have HB1 : Hid (Below w.heap.size w w1) := ((Below.refl _ w).alloc (Nat.le_refl _) _).grown g1 (by simp) (fun k hk => by cases hk; exact Nat.le_refl _)
  clear o1 g1 HE
  go_wp2
  go_loopw [1, 7] (fun sv i wr => ∃ (j sd : Int) (ys : List Int), i = .int .i64 j ∧ sv = .int .i64 sd ∧ -1 ≤ j ∧ j < n ∧ 0 ≤ sd ∧ sd ≤ 2147483647 ∧ Hid (R = shufN j.toNat ys sd) ∧ Hid (n = ys.length) ∧ Hid (OwI wr w.heap.size (.slice a1 n c1) ys) ∧ Hid (Below w.heap.size w wr)) (fun _ i _ => (intOf i).toNat)
  case atStart => exact ⟨(n : Int) - 1, s, xs, rfl, rfl, by omega, by omega, hs0, hs1, by show _ = _; rw [HR.out]; congr 1; omega, HN, HO1, HB1⟩
  case round =>
    obtain ⟨j, sd, ys, rfl, rfl, hj0, hj1, hd0, hd1, hRR, hys, hO, hB⟩ := hrel
    by_cases hpos : 0 < j
    · obtain ⟨p, rfl⟩ := Int.eq_ofNat_of_zero_le (show 0 ≤ j by omega)
      have hpn : p < n := by omega
      have hp0 : 0 < p := by omega
      obtain ⟨g, hg⟩ : ∃ g, a1 = some ⟨g, 0, none⟩ := by
        rcases hO.out.2 with ⟨h0, _⟩ | ⟨g, c, cur, hv, _⟩
        · simp only [Value.slice.injEq] at h0; omega
        · simp only [Value.slice.injEq] at hv; exact ⟨g, hv.1⟩
      subst hg
      obtain ⟨m, hm⟩ : ∃ m, m = mixF sd := ⟨_, rfl⟩
      have hmb := mixF_bd sd
      rw [← hm] at hmb
      obtain ⟨hm0, hm1⟩ := hmb
      obtain ⟨q, hq⟩ := Int.eq_ofNat_of_zero_le (Int.emod_nonneg m (show ((p : Int) + 1) ≠ 0 by omega))
      have hqp : q ≤ p := by have := Int.emod_lt_of_pos m (show (0 : Int) < (p : Int) + 1 by omega); omega
      have hqn : q < n := by omega
      have HMX : Hid (m = mixF sd) := hm
      have HSW : Hid (R = shufN (p - 1) (swapL ys p q) m) := by
        show _ = _
        have hp' : p = (p - 1) + 1 := by omega
        rw [hRR.out, Int.toNat_natCast]
        conv => lhs; rw [hp', shufN]
        rw [← hm, ← hp']
        congr 2
        have : ((p - 1 : Nat) : Int) + 2 = (p : Int) + 1 := by omega
        rw [this, hq]
        rfl
      clear hm hRR
      obtain ⟨cp, fp⟩ := hO.out.get hys.out p hpn
      obtain ⟨cq, fq⟩ := hO.out.get hys.out q hqn
      obtain ⟨O2, G2⟩ := hO.out.put hys.out p (ys.getD q 0)
      have hgb := (World.ownsRow.lt hO.out g rfl).1
      have HO2 : Hid (OwI (wr.setCell ⟨g, p, none⟩ (.int .i64 (ys.getD q 0))) w.heap.size (.slice (some ⟨g, 0, none⟩) n c1) (ys.set p (ys.getD q 0))) := O2
      have HB2 : Hid (Below w.heap.size w (wr.setCell ⟨g, p, none⟩ (.int .i64 (ys.getD q 0)))) := hB.out.setCell hgb _
      have HL2 : Hid (n = (ys.set p (ys.getD q 0)).length) := by show _ = _; rw [List.length_set]; exact hys.out
      have HSD : Hid (swapL ys p q = (ys.set p (ys.getD q 0)).set q (ys.getD p 0)) := rfl
      have hlp : (p : Int) < (n : Int) := by omega
      have hlq : (q : Int) < (n : Int) := by omega
      have hrem : m.tmod ((p : Int) + 1) = (q : Int) := by rw [Int.tmod_eq_emod_of_nonneg hm0]; exact hq
      have hp1 : ¬ ((p : Int) + 1 = 0) := by omega
      clear O2 G2
      generalize ys.getD p 0 = yp at *
      generalize ys.getD q 0 = yq at *
      go_upto_region 9 with (go_at_call 61; refine (sMixV sd _ (by omega) (by omega)).mono ?_; rintro e w9 ⟨he, hw9⟩; rw [← HMX.out] at he; subst he; have hw8 := hw9.symm; clear hw9; subst hw8)
      have HYN : Hid (swapL ys p q = (ys.set p yq).set q yp) := HSD
      generalize ys.set p yq = zs at *
      generalize hW : wr.setCell ⟨g, p, none⟩ (.int .i64 yq) = W at *
      obtain ⟨cq', fq'⟩ := HO2.out.get HL2.out q hqn
      obtain ⟨O3, G3⟩ := HO2.out.put HL2.out q yp
      have HO3 : Hid (OwI (W.setCell ⟨g, q, none⟩ (.int .i64 yp)) w.heap.size (.slice (some ⟨g, 0, none⟩) n c1) (swapL ys p q)) := by rw [HYN.out]; exact O3
      have HB3 : Hid (Below w.heap.size w (W.setCell ⟨g, q, none⟩ (.int .i64 yp))) := HB2.out.setCell hgb _
      have HL3 : Hid (n = (swapL ys p q).length) := by show _ = _; rw [swapL_len]; exact hys.out
      clear O3 G3 cp fp cq fq hW
      go_wp2
      go_roundw
      case rel => exact ⟨(p : Int) - 1, m, swapL ys p q, by go_num, rfl, by omega, by omega, hm0, by omega, by have := HSW.out; rw [show ((p : Int) - 1).toNat = p - 1 by omega]; exact this, HL3, HO3, HB3⟩
      case measure => simp [intOf]; omega
    · have hz : j.toNat = 0 := by omega
      have HF : Hid (R = (ys, sd)) := by show _ = _; rw [hRR.out, hz]; rfl
      clear hz
      go_wp2
      go_ret2
      rw [HF.out]
      exact ⟨_, rfl, hO.out, hB.out⟩

end Go.Proofs.Ytmodliaieienfaa
