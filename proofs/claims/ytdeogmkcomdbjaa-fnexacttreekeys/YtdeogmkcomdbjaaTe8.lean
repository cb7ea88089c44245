/- The specification's TreeOk and the program's. -/
import Derived.Test.YtdeogmkcomdbjaaTe5a
import Derived.Test.YtdeogmkcomdbjaaTe6b
import Derived.Test.YtdeogmkcomdbjaaTe7
import Derived.Test.YtdeogmkcomdbjaaSum0
namespace Go.Proofs.Ytdeogmkcomdbjaa
open Go.RowKit

set_option maxHeartbeats 1000000 in
theorem sTreeOkV_of (HL : ∀ (d : Nat) (t : DTree d), L6Says t) {d : Nat} (t : DTree d) (v : Value) (w : World) (ht : VTree w t v) (hsz : szT t ≤ 1048576) :
    Calls Try.prog 28 #[v] w fun e w' => e = .returned (.bool (tB (okT t))) ∧ Below w.heap.size w w' := by
  have HT : Hid (VTree w t v) := ht
  have HLL : Hid (∀ (d : Nat) (t : DTree d), L6Says t) := HL
  clear HL
  match d, t, ht, HT, hsz with
  | 0, _, ht, _, _ => exact False.elim ht
  | d + 1, (ed, h, x, n, kid), ht, HT, hsz =>
    obtain ⟨ev, kv, rfl, re, rk⟩ := VTree.open_ ht
    obtain ⟨ea, ec, rfl, _, he1, he2⟩ := re
    obtain ⟨ka, kc, rfl, hk1, hk2⟩ := rk.slice
    obtain ⟨T, hT⟩ : ∃ T : DTree (d + 1), T = (ed, h, x, n, kid) := ⟨_, rfl⟩
    rw [← hT] at HT hsz ⊢
    clear hT rk
    have HZ : Hid (szT T ≤ 1048576) := hsz
    clear hsz
    generalize ed.length = m at *
    have EA : ∀ ob, Ext w (w.alloc ob) := fun ob => World.grownBy_alloc _ _ _
    go_enter Try.func28, Try.ntmps28
    go_wp2_with fail
    refine (HLL.out _ T true _ 200 0 _ (VTree.ext (EA _) _ _ HT.out) (by omega) (by omega) (by omega) (by omega)).mono ?_
    rintro e w1 ⟨r, rfl, hr, b1⟩
    have P1 := below_blk b1 (by simp) (heap_alloc_new w _)
    have B1 : Below w.heap.size w w1 := ((Below.refl _ w).alloc (Nat.le_refl _) _).trans (b1.mono (by simp))
    obtain ⟨p0, _⟩ := at_block P1 0 _ rfl
    obtain ⟨p1, _⟩ := at_block P1 1 _ rfl
    obtain ⟨p2, _⟩ := at_block P1 2 _ rfl
    obtain ⟨p3, _⟩ := at_block P1 3 _ rfl
    rcases hr with ⟨r1, r2, r3, r4, r5⟩ | ⟨r1, rfl⟩
    · have hr0 : 0 ≤ r := by omega
      have HG : Hid (ownOk true T ∧ kidsG T ∧ cntT T ≤ 200 ∧ depT T ≤ 24) := ⟨r1, r2, by omega, by omega⟩
      clear r1 r2 r3 r4 r5 b1 P1
      go_wp2_with fail
      refine (l6long_any T _ w1 (VTree.ext (ext_below B1) _ _ HT.out) HZ.out).mono ?_
      rintro e w2 ⟨rfl, b2⟩
      have B2 := B1.trans (b2.mono B1.size)
      by_cases hl : lngK T + (edT T).length ≤ 20
      · have HK : Hid (tB (okT T) = true) := tB_true ⟨HG.out.1, HG.out.2.1, HG.out.2.2.1, HG.out.2.2.2, hl⟩
        have hl' : ((lngK T + (edT T).length : Nat) : Int) ≤ 20 := by omega
        generalize lngK T + (edT T).length = q at *
        go_wp2_with fail
        go_ret
        exact ⟨by rw [HK.out]; rfl, B2⟩
      · have HK : Hid (tB (okT T) = false) := tB_false fun hh => hl hh.2.2.2.2
        have hl' : decide (((lngK T + (edT T).length : Nat) : Int) ≤ 20) = false := decide_eq_false (by omega)
        generalize lngK T + (edT T).length = q at *
        go_wp2_with fail
        go_ret
        exact ⟨by rw [HK.out]; rfl, B2⟩
    · have HK : Hid (tB (okT T) = false) := tB_false fun hh => r1 ⟨hh.1, hh.2.1, by have := hh.2.2.1; omega, by have := hh.2.2.2.1; omega⟩
      go_wp2_with fail
      go_ret
      exact ⟨by rw [HK.out]; rfl, B1⟩

set_option maxHeartbeats 1000000 in
theorem iTreeOkV {d : Nat} (t : DTree d) (v : Value) (w : World) (ht : VTree w t v) (hsz : szT t ≤ 1048576) :
    Calls Try.prog 31 #[v] w fun e w' => e = .returned (.bool (tB (okT t))) ∧ Below w.heap.size w w' := by
  have HT : Hid (VTree w t v) := ht
  match d, t, ht, HT, hsz with
  | 0, _, ht, _, _ => exact False.elim ht
  | d + 1, (ed, h, x, n, kid), ht, HT, hsz =>
    obtain ⟨ev, kv, rfl, re, rk⟩ := VTree.open_ ht
    obtain ⟨ea, ec, rfl, _, he1, he2⟩ := re
    obtain ⟨ka, kc, rfl, hk1, hk2⟩ := rk.slice
    obtain ⟨T, hT⟩ : ∃ T : DTree (d + 1), T = (ed, h, x, n, kid) := ⟨_, rfl⟩
    have HOW : Hid (ownOk true T ↔ (ed.length = 0 ∧ valP h x = true)) := by
      show _ ↔ _
      rw [hT, valP_iff]
      show ownF true ed h x n ↔ _
      simp [ownF]
    have HLN : Hid (ed.length = 0 → (lngK T + (edT T).length = lngK T)) := fun h0 => by
      rw [hT]
      show lngK _ + ed.length = _
      omega
    rw [← hT] at HT hsz ⊢
    clear hT rk
    have HZ : Hid (szT T ≤ 1048576) := hsz
    clear hsz
    generalize ed.length = m at *
    have EA : ∀ ob, Ext w (w.alloc ob) := fun ob => World.grownBy_alloc _ _ _
    have HB2 : Hid (∀ o1 o2, Below w.heap.size w ((w.alloc o1).alloc o2)) := fun o1 o2 => ((Below.refl _ w).alloc (Nat.le_refl _) _).alloc (by simp) _
    have HB3 : Hid (∀ o1 o2 o3, Below w.heap.size w (((w.alloc o1).alloc o2).alloc o3)) := fun o1 o2 o3 => (((Below.refl _ w).alloc (Nat.le_refl _) _).alloc (by simp) _).alloc (by simp; omega) _
    by_cases hm : m = 0
    · subst hm
      obtain ⟨vb, hvb⟩ : ∃ vb, vb = valP h x := ⟨_, rfl⟩
      cases vb with
      | false =>
        have HK : Hid (tB (okT T) = false) := tB_false fun hh => by
          have := (HOW.out.1 hh.1).2
          rw [← hvb] at this
          cases this
        have HV : Hid (valP h x = false) := hvb.symm
        clear hvb
        go_enter Try.func31, Try.ntmps31
        go_wp2_with (go_at_call 42; refine (treeValV _ _ _ _ _).mono ?_; rintro e w5 ⟨rfl, ob5, rfl⟩; rw [HV.out])
        go_ret
        exact ⟨by rw [HK.out]; rfl, HB3.out _ _ _⟩
      | true =>
        have HV : Hid (valP h x = true) := hvb.symm
        have HO2 : Hid (ownOk true T) := HOW.out.2 ⟨rfl, hvb.symm⟩
        have HLN2 : Hid (lngK T + (edT T).length = lngK T) := HLN.out rfl
        clear hvb
        go_enter Try.func31, Try.ntmps31
        go_wp2_with (go_at_call 42; refine (treeValV _ _ _ _ _).mono ?_; rintro e w5 ⟨rfl, ob5, rfl⟩; rw [HV.out])
        have HBK : Hid (∀ o1 o3, (((w.alloc o1).alloc (.cells #[.int .i64 0] 3)).alloc o3).heap[w.heap.size + 1]? = some (.cells #[.int .i64 0] 3)) := fun o1 o3 => h3_1 w _ _ _
        refine (kidsOk_any T _ 0 0 0 (w.heap.size + 1) w _ HT.out HZ.out (HB3.out _ _ _) (by omega) (by omega) (by omega) (by omega) (by omega) (by omega) (by omega) (at_block (HBK.out _ _) 0 _ rfl).1 (at_block (HBK.out _ _) 0 _ rfl).2).mono ?_
        rintro e w6 (⟨rfl, hK, hgr, _, _⟩ | ⟨rfl, hK, hgr⟩)
        · have HK : Hid (tB (okT T) = true) := tB_true (by
            obtain ⟨k1, k2, k3, k4⟩ := hK
            refine ⟨HO2.out, k1, by omega, by omega, ?_⟩
            rw [HLN2.out]
            omega)
          have HB6 : Hid (Below w.heap.size w w6) := below_at (HB3.out _ _ _) (by simp; omega) hgr (by omega)
          clear hK hgr
          go_wp2_with fail
          go_ret
          exact ⟨by rw [HK.out]; rfl, HB6.out⟩
        · have HK : Hid (tB (okT T) = false) := tB_false fun hh => hK (by
            obtain ⟨k1, k2, k3, k4, k5⟩ := hh
            rw [HLN2.out] at k5
            exact ⟨k2, by omega, by omega, by omega⟩)
          have HB6 : Hid (Below w.heap.size w w6) := below_at (HB3.out _ _ _) (by simp; omega) hgr (by omega)
          clear hK hgr
          go_wp2_with fail
          go_ret
          exact ⟨by rw [HK.out]; rfl, HB6.out⟩
    · have HK : Hid (tB (okT T) = false) := tB_false fun hh => hm (HOW.out.1 hh.1).1
      have hm2 : (m == 0) = false := by simp; omega
      have hm3 : ((m : Int) == 0) = false := by simp; omega
      go_enter Try.func31, Try.ntmps31
      go_wp2_with fail
      go_ret
      exact ⟨by rw [HK.out]; rfl, HB2.out _ _⟩

end Go.Proofs.Ytdeogmkcomdbjaa
