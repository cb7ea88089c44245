/- TreeGet, the specification's and the program's. -/
import Derived.Test.YtpnfcifkmmcllaaTeG1
import Derived.Test.YtpnfcifkmmcllaaTeG2
import Derived.Test.YtpnfcifkmmcllaaTe8
namespace Go.Proofs.Ytpnfcifkmmcllaa
open Go.RowKit

/-- What TreeGet answers. -/
def getB {d : Nat} (t : DTree d) (key : List Int) (h : Decidable (okT t) := Classical.propDecidable _) : Int × Bool := @ite _ (okT t) h (getK t key) (0, false)
theorem getB_yes {d : Nat} {t : DTree d} {key : List Int} (h : okT t) : getB t key = getK t key := by unfold getB; rw [if_pos h]
theorem getB_no {d : Nat} {t : DTree d} {key : List Int} (h : ¬ okT t) : getB t key = (0, false) := by unfold getB; rw [if_neg h]
theorem hasB_nil (key : List Int) : hasB key [] = true := (hasB_iff _ _).2 ⟨Nat.zero_le _, by simp⟩
theorem getS_root {d : Nat} {t : DTree d} {key : List Int} (h : (edT t).length = 0) : getS t key = getK t key := by
  have : edT t = [] := List.eq_nil_of_length_eq_zero h
  unfold getS
  rw [this, hasB_nil, if_pos rfl]
  rfl
theorem ok_root {d : Nat} {t : DTree d} (h : okT t) : (edT t).length = 0 := by
  match d, t, h with
  | 0, _, _ => rfl
  | d + 1, (e, h', x, n, kid), h => exact h.1.1 rfl

set_option maxHeartbeats 1000000 in
theorem sTreeGetV_of (HL : ∀ (d : Nat) (t : DTree d), L6Says t) {d : Nat} (t : DTree d) (v u : Value) (key : List Int) (w : World) (ht : VTree w t v) (hu : RV w u key) (hsz : szT t ≤ 1048576) (hkl : key.length ≤ 1048576) :
    Calls Try.prog 11 #[v, u] w fun e w' => e = .returned (.tuple #[.int .i64 (getB t key).1, .bool (getB t key).2]) ∧ Below w.heap.size w w' := by
  have HT : Hid (VTree w t v) := ht
  have HLL : Hid (∀ (d : Nat) (t : DTree d), L6Says t) := HL
  have HU : Hid (RV w u key) := hu
  clear HL
  obtain ⟨e1, e2, e3, hv, xv, k1, k2, k3, rfl⟩ := VTree.agg ht
  obtain ⟨ua, uc, rfl, _, _, _⟩ := hu
  clear ht
  obtain ⟨A, hA⟩ : ∃ A, A = getB t key := ⟨_, rfl⟩
  have HA : Hid (A = getB t key) := hA
  rw [← hA]
  have HZ : Hid (szT t ≤ 1048576 ∧ key.length ≤ 1048576) := ⟨hsz, hkl⟩
  clear hA hsz hkl
  have EA : ∀ ob, Ext w (w.alloc ob) := fun ob => World.grownBy_alloc _ _ _
  obtain ⟨ob, hob⟩ : ∃ ob, ob = tB (okT t) := ⟨_, rfl⟩
  have HB : Hid (ob = tB (okT t)) := hob
  go_enter Try.func11, Try.ntmps11
  go_wp2_with fail
  refine (sTreeOkV_of HLL.out t _ _ (VTree.ext (EA _) _ _ HT.out) HZ.out.1).mono ?_
  rw [← HB.out]
  rintro e w1 ⟨rfl, b1⟩
  have P1 := below_blk b1 (by simp) (heap_alloc_new w _)
  have B1 : Below w.heap.size w w1 := ((Below.refl _ w).alloc (Nat.le_refl _) _).trans (b1.mono (by simp))
  clear hob
  cases ob with
  | false =>
    have HR : Hid (A = (0, false)) := by
      show A = _
      rw [HA.out]
      exact getB_no fun h => by
        have := HB.out
        rw [tB_true h] at this
        cases this
    go_wp2_with fail
    go_ret2
    exact ⟨by rw [HR.out]; rfl, B1⟩
  | true =>
    have HOK : Hid (okT t) := tB_iff.1 HB.out.symm
    have HR : Hid (A = getS t key) := by
      show A = _
      rw [HA.out, getB_yes HOK.out, getS_root (ok_root HOK.out)]
    obtain ⟨p0, _⟩ := at_block P1 0 _ rfl
    obtain ⟨p1, _⟩ := at_block P1 1 _ rfl
    obtain ⟨p2, _⟩ := at_block P1 2 _ rfl
    obtain ⟨p3, _⟩ := at_block P1 3 _ rfl
    clear b1 P1
    go_wp2_with fail
    refine (l6get_any t _ _ key w1 (VTree.ext (ext_below B1) _ _ HT.out) (HU.out.ext (ext_below B1)) HZ.out.2 HZ.out.1 HOK.out.2.1).mono ?_
    rw [← HR.out]
    rintro e w2 ⟨rfl, b2⟩
    have B2 := B1.trans (b2.mono B1.size)
    clear b2
    go_wp2_with fail
    go_ret2
    exact ⟨rfl, B2⟩

set_option maxHeartbeats 1000000 in
theorem iTreeGetV {d : Nat} (t : DTree d) (v u : Value) (key : List Int) (w : World) (ht : VTree w t v) (hu : RV w u key) (hsz : szT t ≤ 1048576) (hkl : key.length ≤ 1048576) :
    Calls Try.prog 13 #[v, u] w fun e w' => e = .returned (.tuple #[.int .i64 (getB t key).1, .bool (getB t key).2]) ∧ Below w.heap.size w w' := by
  have HT : Hid (VTree w t v) := ht
  have HU : Hid (RV w u key) := hu
  obtain ⟨e1, e2, e3, hv, xv, k1, k2, k3, rfl⟩ := VTree.agg ht
  obtain ⟨ua, uc, rfl, _, _, _⟩ := hu
  clear ht
  obtain ⟨A, hA⟩ : ∃ A, A = getB t key := ⟨_, rfl⟩
  have HA : Hid (A = getB t key) := hA
  rw [← hA]
  have HZ : Hid (szT t ≤ 1048576 ∧ key.length ≤ 1048576) := ⟨hsz, hkl⟩
  clear hA hsz hkl
  have EA : ∀ ob, Ext w (w.alloc ob) := fun ob => World.grownBy_alloc _ _ _
  obtain ⟨ob, hob⟩ : ∃ ob, ob = tB (okT t) := ⟨_, rfl⟩
  have HB : Hid (ob = tB (okT t)) := hob
  go_enter Try.func13, Try.ntmps13
  go_wp2_with fail
  refine (iTreeOkV t _ _ (VTree.ext (EA _) _ _ HT.out) HZ.out.1).mono ?_
  rw [← HB.out]
  rintro e w1 ⟨rfl, b1⟩
  have P1 := below_blk b1 (by simp) (heap_alloc_new w _)
  have B1 : Below w.heap.size w w1 := ((Below.refl _ w).alloc (Nat.le_refl _) _).trans (b1.mono (by simp))
  clear hob
  cases ob with
  | false =>
    have HR : Hid (A = (0, false)) := by
      show A = _
      rw [HA.out]
      exact getB_no fun h => by
        have := HB.out
        rw [tB_true h] at this
        cases this
    go_wp2_with fail
    go_ret2
    exact ⟨by rw [HR.out]; rfl, B1⟩
  | true =>
    have HOK : Hid (okT t) := tB_iff.1 HB.out.symm
    have HR : Hid (A = getK t key) := by
      show A = _
      rw [HA.out, getB_yes HOK.out]
    obtain ⟨p0, _⟩ := at_block P1 0 _ rfl
    obtain ⟨p1, _⟩ := at_block P1 1 _ rfl
    obtain ⟨p2, _⟩ := at_block P1 2 _ rfl
    obtain ⟨p3, _⟩ := at_block P1 3 _ rfl
    clear b1 P1
    go_wp2_with fail
    refine (endOf_any t _ _ key w1 (VTree.ext (ext_below B1) _ _ HT.out) (HU.out.ext (ext_below B1)) HZ.out.2 HZ.out.1).mono ?_
    rw [← HR.out]
    rintro e w2 ⟨v2, rfl, hv2, b2⟩
    have B2 := B1.trans (b2.mono B1.size)
    obtain ⟨y1, y2, y3, y4, y5, y6, rfl⟩ := hv2
    clear b2
    go_wp2_with fail
    go_quiet (fail)
    go_wp2_with fail
    go_ret2
    exact ⟨rfl, below_drewN (B2.alloc B2.size _) _⟩

end Go.Proofs.Ytpnfcifkmmcllaa
