/- The exact statement of TreeKeys: the walk of the law itself. -/
import Derived.Test.YtdeogmkcomdbjaaTr1
import Derived.Test.YtdeogmkcomdbjaaTr2
import Derived.Test.YtdeogmkcomdbjaaTm1
import Derived.Test.YtdeogmkcomdbjaaTe3
import Derived.Test.YtdeogmkcomdbjaaTe5
import Derived.Test.YtdeogmkcomdbjaaMark
import Derived.Test.YtdeogmkcomdbjaaValE
import Derived.Deep.RegionHeld3
namespace Go.Proofs.Ytdeogmkcomdbjaa
open Go.RowKit

theorem cells4 {w : World} {g : Nat} {v0 v1 v2 v3 : Value} {t : TypeId} (h : w.heap[g]? = some (.cells #[v0, v1, v2, v3] t (0, 0))) : w.cell? ⟨g, 0, none⟩ = some v0 ∧ w.cell? ⟨g, 1, none⟩ = some v1 ∧ w.cell? ⟨g, 2, none⟩ = some v2 ∧ w.cell? ⟨g, 3, none⟩ = some v3 := ⟨(at_block h 0 _ rfl).1, (at_block h 1 _ rfl).1, (at_block h 2 _ rfl).1, (at_block h 3 _ rfl).1⟩
theorem keptN4 {w w' : World} {g : Nat} {a0 a1 a2 a3 : Value} (h : w.cell? ⟨g, 0, none⟩ = some a0 ∧ w.cell? ⟨g, 1, none⟩ = some a1 ∧ w.cell? ⟨g, 2, none⟩ = some a2 ∧ w.cell? ⟨g, 3, none⟩ = some a3) (hb : Below w.heap.size w w') :
    w'.cell? ⟨g, 0, none⟩ = some a0 ∧ w'.cell? ⟨g, 1, none⟩ = some a1 ∧ w'.cell? ⟨g, 2, none⟩ = some a2 ∧ w'.cell? ⟨g, 3, none⟩ = some a3 := by
  have hg : g < w.heap.size := World.block_lt_of_cell? w _ h.1
  obtain ⟨h0, h1, h2, h3⟩ := h
  exact ⟨(hb.cell (p := ⟨g, 0, none⟩) hg).trans h0, (hb.cell (p := ⟨g, 1, none⟩) hg).trans h1, (hb.cell (p := ⟨g, 2, none⟩) hg).trans h2, (hb.cell (p := ⟨g, 3, none⟩) hg).trans h3⟩
theorem keptN8 {w w' : World} {g g' : Nat} {a0 a1 a2 a3 b0 b1 b2 b3 : Value} (h : (w.cell? ⟨g, 0, none⟩ = some a0 ∧ w.cell? ⟨g, 1, none⟩ = some a1 ∧ w.cell? ⟨g, 2, none⟩ = some a2 ∧ w.cell? ⟨g, 3, none⟩ = some a3) ∧ (w.cell? ⟨g', 0, none⟩ = some b0 ∧ w.cell? ⟨g', 1, none⟩ = some b1 ∧ w.cell? ⟨g', 2, none⟩ = some b2 ∧ w.cell? ⟨g', 3, none⟩ = some b3)) (hb : Below w.heap.size w w') :
    (w'.cell? ⟨g, 0, none⟩ = some a0 ∧ w'.cell? ⟨g, 1, none⟩ = some a1 ∧ w'.cell? ⟨g, 2, none⟩ = some a2 ∧ w'.cell? ⟨g, 3, none⟩ = some a3) ∧ (w'.cell? ⟨g', 0, none⟩ = some b0 ∧ w'.cell? ⟨g', 1, none⟩ = some b1 ∧ w'.cell? ⟨g', 2, none⟩ = some b2 ∧ w'.cell? ⟨g', 3, none⟩ = some b3) :=
  ⟨keptN4 h.1 hb, keptN4 h.2 hb⟩
theorem MkT.mid {lo hi : Nat} {w w' : World} (h : MkT lo hi w w') : Mid lo hi w w' := ⟨h.os, h.tape, h.output, h.size, h.out⟩

set_option maxRecDepth 20000 in
set_option maxHeartbeats 2000000 in
theorem law_TreeKeys_of (hI : ∀ (d : Nat) (t : DTree d), L6Says t) (v u : Value) {d : Nat} (t : DTree d) (key : List Int) (w : World) (h : VTree w t v) (hu : RV w u key) :
    Calls Try.prog 4 #[v, u] w fun e w' => e = .returned (.bool true) ∧ Below w.heap.size w w' := by
  have hE : ∀ w : World, ∀ o, Ext w (w.alloc o) := fun w o => World.grownBy_alloc _ _ _
  have hB : ∀ w : World, ∀ o, Below w.heap.size w (w.alloc o) := fun w o => (Below.refl _ w).alloc (Nat.le_refl _) _
  have h0 : Hid (VTree w t v) := h
  have u0 : Hid (RV w u key) := hu
  have HRK : Hid (∀ x ∈ key, 0 ≤ x ∧ x ≤ 255) := rv_rng hu
  have HI : Hid (∀ (d : Nat) (t : DTree d), L6Says t) := hI
  have HR : Hid (rngT t) := h.rng
  clear hI
  obtain ⟨r, hR⟩ : ∃ r, r = keysPD t key := ⟨_, rfl⟩
  have HRG : Hid (∀ x ∈ r, ∀ y ∈ x, 0 ≤ y ∧ y ≤ 255) := by rw [hR]; exact keysPD_rng h key
  have HLR : Hid (r.length ≤ 200 ∧ ∀ x ∈ r, x.length ≤ 20) := by rw [hR]; exact keysPD_bd t key
  have HRR := hideM hR
  clear hR
  have HLR2 : Hid (∀ i, i < r.length → (atL r i).length ≤ 2097152) := fun i _ => Nat.le_trans (atL_len HLR.out.2 i) (by omega)
  have HAH : Hid (ahead (atL r) r.length ≤ 4000) := by have h1 := ahead_bd (atL_len HLR.out.2) r.length; have h2 := HLR.out.1; show _ ≤ _; omega
  obtain ⟨q1, q2, q3, hv, xv, q4, q5, q6, rfl⟩ := VTree.agg h
  clear h
  obtain ⟨ua, uc, rfl, _, hu1, hu2⟩ := hu
  obtain ⟨kl, hkl⟩ : ∃ kl, kl = key.length := ⟨_, rfl⟩
  have HKL : Hid (kl = key.length) := hkl
  rw [← hkl] at u0 hu1 ⊢
  unfold maxLen at hu2
  clear hkl
  by_cases hbig : (1048576 : Int) < (kl : Int)
  · go_enter Try.func4, Try.ntmps4
    go_wp2_with fail
    go_ret
    exact ⟨rfl, hB _ _⟩
  have HKS : Hid (key.length ≤ 1048576) := by show _ ≤ _; have := HKL.out; omega
  go_enter Try.func4, Try.ntmps4
  go_wp2_with fail
  refine (szTree_any t _ 1048576 _ (VTree.ext (hE _ _) _ _ h0.out) (by omega) (by omega)).mono ?_
  rintro e w1 ⟨r1, rfl, hrr, b1⟩
  have B1 := (hB w _).trans (b1.mono (by simp))
  have P1 := below_blk b1 (by simp) (heap_alloc_new w _)
  rcases hrr with ⟨h1, rfl⟩ | ⟨h1, h2⟩
  · go_wp2_with fail
    go_ret
    exact ⟨rfl, B1⟩
  have HL : Hid (szT t ≤ 1048576) := by show _ ≤ _; omega
  have hr0 : 0 ≤ r1 := by omega
  clear h1 h2 b1
  obtain ⟨p0, p1, p2, p3⟩ := cells4 P1
  go_wp2_with fail
  refine (toTree_any t _ w1 (VTree.ext (ext_below B1) _ _ h0.out) HL.out).mono ?_
  rintro e w2 ⟨v2, rfl, o2, b2⟩
  have B2 := B1.trans (b2.mono B1.size)
  have P2 := below_blk b2 (Array.getElem?_eq_some_iff.1 P1).1 P1
  go_wp2_with fail
  refine (toV _ key w2 (u0.out.ext (ext_below B2)) HKS.out).mono ?_
  rintro e wa ⟨va, rfl, oa, ba⟩
  have Ba := B2.trans (ba.mono B2.size)
  have Pa := below_blk ba (Array.getElem?_eq_some_iff.1 P2).1 P2
  go_wp2_with fail
  refine (sTreeKeysV_of HI.out t _ _ key wa (VTree.ext (ext_below ba) _ _ (o2.v HR.out)) (oa.rv HRK.out) HL.out HKS.out).mono ?_
  rw [← HRR.out]
  rintro e w3 ⟨sv, Fs, rfl, o3, b3⟩
  have B3 := Ba.trans (b3.mono Ba.size)
  have P3 := below_blk b3 (Array.getElem?_eq_some_iff.1 Pa).1 Pa
  have HFX : Hid (∀ W, Below w3.heap.size w3 W → (W.heap[w.heap.size]? = some (.cells #[.slice q1 q2 q3, .bool hv, .int .i64 xv, .slice q4 q5 q6] 25 (0, 0))) ∧ VTree W t (.agg #[.slice q1 q2 q3, .bool hv, .int .i64 xv, .slice q4 q5 q6]) ∧ RV W (.slice ua kl uc) key ∧ (SSR W sv r.length (atF Fs) ∧ ∀ i, i < r.length → RV W (atF Fs i) (atL r i)) ∧ Below w.heap.size w W) := fun W hb => by
    have hw := B3.trans (hb.mono B3.size)
    exact ⟨below_blk hb (Array.getElem?_eq_some_iff.1 P3).1 P3, VTree.ext (ext_below hw) _ _ h0.out, u0.out.ext (ext_below hw), ⟨ssr_of (o3.ext (ext_below hb)), rvs_of (o3.ext (ext_below hb)) HRG.out⟩, hw⟩
  obtain ⟨sa, sc, hsv⟩ := o3.shape
  generalize Fs.length = rl at hsv
  subst hsv
  have HB3 : Hid (Below w3.heap.size w3 w3) := Below.refl _ _
  clear p0 p1 p2 p3 P1 P2 Pa P3 B1 B2 Ba B3 b2 ba b3 o2 oa o3
  obtain ⟨f1, f2, f3, f4, f5⟩ := HFX.out w3 HB3.out
  obtain ⟨p0, p1, p2, p3⟩ := cells4 f1
  have F2 := hideM f2
  clear f1 f2 f3 f4 f5
  go_wp2_with fail
  refine (toTree_any t _ w3 F2.out HL.out).mono ?_
  rintro e w4 ⟨v4, rfl, o4, b4⟩
  have HWT : Hid (WT w4 w3.heap.size w4.heap.size t v4) := wt_of o4 HL.out
  have HV4 : Hid (VTree w4 t v4) := o4.v HR.out
  obtain ⟨a4, m4, c4, h4, x4, g4, n4, rfl⟩ := o4.cells HR.out
  have HB4 := hideM b4
  clear o4 b4 p0 p1 p2 p3 F2
  go_upto_region 9 with fail
  generalize hX : w4.alloc _ = wx
  have BX : wx.heap[w4.heap.size]? = some (.cells #[.slice a4 m4 c4, .bool h4, .int .i64 x4, .slice (some ⟨g4, 0, none⟩) n4 n4] 30 (0, 0)) := by rw [← hX]; exact heap_alloc_new w4 _
  have XX : Ext w4 wx := by rw [← hX]; exact hE _ _
  have HBX := hideM BX
  have HXX := hideM XX
  have HBw : Hid (Below w3.heap.size w3 wx) := HB4.out.trans ((ext_bel XX).mono HB4.out.size)
  have HZX : Hid (w4.heap.size < wx.heap.size) := (Array.getElem?_eq_some_iff.1 BX).1
  clear hX BX XX
  have F3 := hideM (HFX.out wx HBw.out).2.2.1
  go_wp2_with fail
  refine (toV _ key wx F3.out HKS.out).mono ?_
  rintro e wb ⟨vb, rfl, ob, bb⟩
  have HWB : Hid (WB wx.heap.size wb.heap.size wb vb) := WB.of ob (Nat.le_refl _) HKS.out
  have RB : Hid (RV wb vb key) := ob.rv HRK.out
  obtain ⟨ba5, bc5, hvb, _⟩ := ob.rv HRK.out
  rw [← HKL.out] at hvb
  subst hvb
  have Xb : Hid (Ext wx wb) := ext_below bb
  have HTb := hideM (ext_blk Xb.out HBX.out)
  obtain ⟨t0, t1, t2, t3⟩ := cells4 HTb.out
  have HBb := hideM (HBw.out.trans (bb.mono HBw.out.size))
  clear ob bb F3
  go_wp2_with fail
  refine (iTreeKeysV t _ _ key wb (VTree.ext (HXX.out.tr Xb.out) _ _ HV4.out) RB.out HL.out HKS.out).mono ?_
  rw [← HRR.out]
  rintro e w5 ⟨gv, Fg, rfl, o5, ap5, b5⟩
  have X5 : Hid (Ext wb w5) := ext_below b5
  have HB5 := hideM (HBb.out.trans (b5.mono HBb.out.size))
  have HO5 := hideM (sso_of o5 ap5)
  obtain ⟨ga, gc, hgv⟩ := o5.shape
  generalize Fg.length = gl at hgv
  subst hgv
  have HT5 := hideM (ext_blk X5.out HTb.out)
  have F5 := hideM (HFX.out w5 HB5.out)
  clear o5 b5 ap5 t0 t1 t2 t3
  obtain ⟨ahl, hahl⟩ : ∃ ahl, ahl = ahead (atL r) r.length := ⟨_, rfl⟩
  have HAL := hideM hahl
  have hal : (ahl : Int) ≤ 4000 := by have := HAH.out; omega
  have HA2 : Hid (ahead (atL r) r.length ≤ 1048576) := Nat.le_trans HAH.out (by omega)
  clear hahl
  go_wp2_with fail
  refine (eqSSV _ _ r.length (atF Fg) (atF Fs) (atL r) w5 HO5.out.r F5.out.2.2.2.1.1 (fun i hi => (HO5.out.tx i hi).rv (HRG.out _ (atL_mem hi))) F5.out.2.2.2.1.2 HLR2.out).mono ?_
  rintro e w6 ⟨rfl, q6', hw6⟩
  have X6 : Hid (Ext w5 w6) := by show Ext _ _; rw [hw6]; exact ext_drewN _ _
  have HB6 := hideM (HB5.out.trans ((ext_bel X6.out).mono HB5.out.size))
  have HT6 := hideM (ext_blk X6.out HT5.out)
  have F6 := hideM (HFX.out w6 HB6.out)
  have HS6 : Hid ((w6.cell? ⟨w4.heap.size, 0, none⟩ = some (.slice a4 m4 c4) ∧ w6.cell? ⟨w4.heap.size, 1, none⟩ = some (.bool h4) ∧ w6.cell? ⟨w4.heap.size, 2, none⟩ = some (.int .i64 x4) ∧ w6.cell? ⟨w4.heap.size, 3, none⟩ = some (.slice (some ⟨g4, 0, none⟩) n4 n4)) ∧ (w6.cell? ⟨w.heap.size, 0, none⟩ = some (.slice q1 q2 q3) ∧ w6.cell? ⟨w.heap.size, 1, none⟩ = some (.bool hv) ∧ w6.cell? ⟨w.heap.size, 2, none⟩ = some (.int .i64 xv) ∧ w6.cell? ⟨w.heap.size, 3, none⟩ = some (.slice q4 q5 q6))) := ⟨cells4 HT6.out, cells4 F6.out.1⟩
  have HV6 : Hid (VTree w6 t (.agg #[.slice a4 m4 c4, .bool h4, .int .i64 x4, .slice (some ⟨g4, 0, none⟩) n4 n4])) := VTree.ext (HXX.out.tr (Xb.out.tr (X5.out.tr X6.out))) _ _ HV4.out
  obtain ⟨⟨t0, t1, t2, t3⟩, ⟨s0, s1, s2, s3⟩⟩ := HS6.out
  have XD : Hid (Ext w6 w6.drew) := ext_drewN w6 1
  clear hw6 F5
  go_wp2_with fail
  go_region_held3 (fun w' => w'.cell? ⟨w4.heap.size, 0, none⟩ = some (.slice a4 m4 c4) ∧ w'.cell? ⟨w4.heap.size, 1, none⟩ = some (.bool h4) ∧ w'.cell? ⟨w4.heap.size, 2, none⟩ = some (.int .i64 x4) ∧ w'.cell? ⟨w4.heap.size, 3, none⟩ = some (.slice (some ⟨g4, 0, none⟩) n4 n4) ∧ w'.cell? ⟨w.heap.size, 0, none⟩ = some (.slice q1 q2 q3) ∧ w'.cell? ⟨w.heap.size, 1, none⟩ = some (.bool hv) ∧ w'.cell? ⟨w.heap.size, 2, none⟩ = some (.int .i64 xv) ∧ w'.cell? ⟨w.heap.size, 3, none⟩ = some (.slice q4 q5 q6)) (first | (simp [*]; done) | go_keep)
    (first
      | (have zz := HO7; clear zz; go_at_call 11; refine (eqTree_any t _ _ _ ?_ ?_ HL.out).mono ?_; exact VTree.ext (XD.out.tr X7.out) _ _ HV6.out; exact HO7.out; rintro e w8 ⟨rfl, b8⟩; have X8 : Hid (Ext w6 w8) := (XD.out.tr X7.out).tr (ext_below b8); obtain ⟨⟨a0', a1', a2', a3'⟩, ⟨c0', c1', c2', c3'⟩⟩ := keptN8 ⟨⟨a0, a1, a2, a3⟩, ⟨c0, c1, c2, c3⟩⟩ b8; clear b8)
      | (go_at_call 9; refine (toTree_any t _ _ ?_ HL.out).mono ?_; exact VTree.ext XD.out _ _ F6.out.2.1; rintro e w7 ⟨v7, rfl, o7, b7⟩; obtain ⟨⟨a0, a1, a2, a3⟩, ⟨c0, c1, c2, c3⟩⟩ := keptN8 (w := w6.drew) HS6.out b7; have HO7 : Hid (VTree w7 t v7) := o7.v HR.out; have X7 : Hid (Ext w6.drew w7) := ext_below b7; clear o7 b7))
  all_goals
    have HB8 := hideM (HB6.out.trans ((ext_bel X8.out).mono HB6.out.size))
    have F8 := hideM (HFX.out w8 HB8.out)
    clear a0 a1 a2 a3 c0 c1 c2 c3 a0' a1' a2' a3' c0' c1' c2' c3' t0 t1 t2 t3 s0 s1 s2 s3
    go_wp2_with fail
    refine (toV _ key w8 F8.out.2.2.1 HKS.out).mono ?_
    rintro e w9 ⟨v9, rfl, o9, b9⟩
    have X9 : Hid (Ext w8 w9) := ext_below b9
    have HO9 : Hid (RV w9 v9 key) := o9.rv HRK.out
    have HR9 : Hid (RV w9 (.slice ba5 kl bc5) key) := RB.out.ext (X5.out.tr (X6.out.tr (X8.out.tr X9.out)))
    clear o9 b9
    go_wp2_with fail
    refine (eqV_yes _ _ key w9 HR9.out HO9.out (Nat.le_trans HKS.out (by omega))).mono ?_
    rintro e w10 ⟨rfl, q10, hw10⟩
    have X10 : Hid (Ext wb w10) := by show Ext _ _; rw [hw10]; exact X5.out.tr (X6.out.tr (X8.out.tr (X9.out.tr (ext_drewN _ _))))
    have X510 : Hid (Ext w5 w10) := by show Ext _ _; rw [hw10]; exact X6.out.tr (X8.out.tr (X9.out.tr (ext_drewN _ _)))
    have HB10 := hideM (HBb.out.trans ((ext_bel X10.out).mono HBb.out.size))
    have HT10 := hideM (ext_blk X10.out HTb.out)
    have HZ10 : Hid (w4.heap.size ≤ w10.heap.size ∧ w3.heap.size ≤ wx.heap.size ∧ w4.heap.size ≤ wb.heap.size ∧ w3.heap.size ≤ wb.heap.size) := ⟨Nat.le_trans HXX.out.size (Nat.le_trans Xb.out.size X10.out.size), HBw.out.size, Nat.le_trans HXX.out.size Xb.out.size, HBb.out.size⟩
    obtain ⟨t0, t1, t2, t3⟩ := cells4 HT10.out
    clear hw10
    go_wp2_with fail
    refine (markTreeW t _ w3.heap.size w4.heap.size 1 w10 (HWT.out.mkT (MkT.ext (HXX.out.tr (Xb.out.tr X10.out)))) HZ10.out.1 (by omega) (by omega)).mono ?_
    rintro e w11 ⟨m11, hm11, rfl, k11⟩
    have HB11 := hideM (mkT_below HB10.out k11 (Nat.le_refl _))
    have HO11 := hideM ((HO5.out.ext X510.out).mid k11.mid (.inr HZ10.out.2.2.1))
    have HW11 := hideM ((HWB.out.mkT (MkT.ext (lo := 0) (hi := 0) X10.out)).mkT k11)
    have hm11' : (m11 : Int) ≤ 1099514773504 := by omega
    clear k11 t0 t1 t2 t3
    go_wp2_with fail
    refine (markW wx.heap.size wb.heap.size none _ (1 + m11) w11 HW11.out (by omega) (by omega)).mono ?_
    rintro e w12 ⟨m12, hm12, rfl, k12⟩
    have HB12 := hideM (mk_below HB11.out k12 HZ10.out.2.1)
    have HO12 := hideM (HO11.out.mid k12.mid (.inr (Nat.le_refl _)))
    have hk12 : decide (1 + (m11 : Int) + (m12 : Int) < 0) = false := decide_eq_false (by omega)
    have F12 := hideM (HFX.out w12 HB12.out)
    clear k12
    go_wp2_with fail
    refine (eqSSV _ _ r.length (atF Fg) (atF Fs) (atL r) w12 HO12.out.r F12.out.2.2.2.1.1 (fun i hi => (HO12.out.tx i hi).rv (HRG.out _ (atL_mem hi))) F12.out.2.2.2.1.2 HLR2.out).mono ?_
    rintro e w13 ⟨rfl, q13, hw13⟩
    have X13 : Hid (Ext w12 w13) := by show Ext _ _; rw [hw13]; exact ext_drewN _ _
    have HB13 := hideM (HB12.out.trans ((ext_bel X13.out).mono HB12.out.size))
    have HO13 := hideM (HO12.out.ext X13.out)
    clear hw13 F12
    go_wp2_with fail
    refine (markSSV wb.heap.size w5.heap.size _ r.length (atF Fg) (atL r) 1 w13 HO13.out HA2.out (by omega) (by omega)).mono ?_
    rintro e w14 ⟨rfl, o14, g14⟩
    rw [← HAL.out]
    have HO14 := hideM o14
    have HB14 := hideM (Mid.below HB13.out HB13.out.size HZ10.out.2.2.2 g14)
    clear o14 g14
    go_wp2_with fail
    refine (heldSSV _ r.length (atF Fg) (atL r) 1 w14 HO14.out.r (fun i hi => (HO14.out.tx i hi).rv (marks_rng _ _)) HA2.out (by omega) (by omega)).mono ?_
    rw [← HAL.out]
    rintro e w15 ⟨rfl, hw15⟩
    have hw15' := hw15.symm
    clear hw15
    subst hw15'
    have F14 := hideM (HFX.out w14 HB14.out)
    obtain ⟨t0, t1, t2, t3⟩ := cells4 F14.out.1
    have hq1 : decide ((1 : Int) + (ahl : Int) < 0) = false := decide_eq_false (by omega)
    have hq2 : ((1 : Int) + (ahl : Int) != (1 : Int) + (ahl : Int)) = false := by simp
    go_wp2_with fail
    refine (toTree_any t _ w14 F14.out.2.1 HL.out).mono ?_
    rintro e w15 ⟨v15, rfl, o15, b15⟩
    have HB15 := hideM (HB14.out.trans (b15.mono HB14.out.size))
    have HV15 : Hid (VTree w15 t v15) := o15.v HR.out
    have F15 := hideM (HFX.out w15 HB15.out)
    have X15 : Hid (Ext w14 w15) := ext_below b15
    clear o15 b15 t0 t1 t2 t3
    go_wp2_with fail
    refine (toV _ key w15 F15.out.2.2.1 HKS.out).mono ?_
    rintro e w16 ⟨v16, rfl, o16, b16⟩
    have HB16 := hideM (HB15.out.trans (b16.mono HB15.out.size))
    have X16 : Hid (Ext w15 w16) := ext_below b16
    have HV16 : Hid (RV w16 v16 key) := o16.rv HRK.out
    clear o16 b16
    go_wp2_with fail
    refine (iTreeKeysV t _ _ key w16 (VTree.ext X16.out _ _ HV15.out) HV16.out HL.out HKS.out).mono ?_
    rw [← HRR.out]
    rintro e w17 ⟨h17, F17h, rfl, o17, _, b17⟩
    have HB17 := hideM (HB16.out.trans (b17.mono HB16.out.size))
    have X17 : Hid (Ext w14 w17) := X15.out.tr (X16.out.tr (ext_below b17))
    have HV17 := hideM (ssr_of o17)
    have HW17 := hideM (rvs_of o17 HRG.out)
    obtain ⟨a17, c17, hv17⟩ := o17.shape
    generalize F17h.length = l17 at hv17
    subst hv17
    have F17 := hideM (HFX.out w17 HB17.out)
    clear o17 b17
    go_wp2_with fail
    refine (eqSSV _ _ r.length (atF F17h) (atF Fs) (atL r) w17 HV17.out F17.out.2.2.2.1.1 HW17.out F17.out.2.2.2.1.2 HLR2.out).mono ?_
    rintro e w18 ⟨rfl, q18, hw18⟩
    have X18 : Hid (Ext w17 w18) := by show Ext _ _; rw [hw18]; exact ext_drewN _ _
    have HB18 := hideM (HB17.out.trans ((ext_bel X18.out).mono HB17.out.size))
    have F18 := hideM (HFX.out w18 HB18.out)
    clear hw18
    go_wp2_with fail
    refine (heldSSV _ r.length (atF Fg) (atL r) 1 w18 (HO14.out.ext (X17.out.tr X18.out)).r (fun i hi => ((HO14.out.ext (X17.out.tr X18.out)).tx i hi).rv (marks_rng _ _)) HA2.out (by omega) (by omega)).mono ?_
    rw [← HAL.out]
    rintro e w19 ⟨rfl, hw19⟩
    have hw19' := hw19.symm
    clear hw19
    subst hw19'
    go_wp2_with fail
    go_ret
    exact ⟨rfl, F18.out.2.2.2.2⟩

theorem law_TreeKeys (v : Value) (T : (d : Nat) × DTree d) (a : Option Addr) (len cap : Nat) (key : List Int) (w : World) (h : VTree w T.2 v) (hr : Rd w a len key) (hl : len ≤ cap) (hc : cap ≤ maxLen) :
    Calls Try.prog 4 #[v, .slice a len cap] w fun e w' => e = .returned (.bool true) ∧ Below w.heap.size w w' :=
  law_TreeKeys_of l6ok_anyD v _ T.2 key w h ⟨a, cap, by rw [hr.len], by rw [hr.len]; exact hr, by rw [hr.len]; exact hl, hc⟩

end Go.Proofs.Ytdeogmkcomdbjaa
