
/- The program's checksOk and serviceOk. -/
import Derived.Test.YtpnachakijpjkaaLo1
import Derived.Test.YtpnachakijpjkaaLp0
import Derived.Test.YtpnachakijpjkaaCk6
import Derived.Test.YtpnachakijpjkaaSum0
import Derived.Test.YtpnachakijpjkaaQB
import Derived.Deep.CutRange
namespace Go.Proofs.Ytpnachakijpjkaa
open Go.RowKit

def ChksB (cs : List DChk) : Prop := cs.length ≤ 4 ∧ ChksP cs

set_option maxRecDepth 20000 in
set_option maxHeartbeats 4000000 in
theorem iChecksOkV (v : Value) (cs : List DChk) (w : World) (h : VChks w v cs) (hl : cs.length ≤ 1048576) :
    Calls Try.prog 63 #[v] w fun e w' => e = .returned (.bool (tB (ChksB cs))) ∧ Below w.heap.size w w' := by
  have hE : ∀ w : World, ∀ o, Ext w (w.alloc o) := fun w o => World.grownBy_alloc _ _ _
  obtain ⟨D, ⟨a, cd, rfl, q4, q5, q6⟩, hD⟩ := h
  obtain ⟨cl, hcl⟩ : ∃ cl, cl = cs.length := ⟨_, rfl⟩
  have HCL := hidL hcl
  rw [← hcl] at q4 q6 hl ⊢
  have HD : Hid (∀ i d, cs[i]? = some d → RV w (D i 0) d.name ∧ D i 1 = .int .i64 d.ttl ∧ D i 2 = .int .i64 d.most ∧ D i 3 = .int .i64 d.st ∧ D i 4 = .int .i64 d.age ∧ D i 5 = .int .i64 d.fails) := hD
  have H6 : Hid (0 < cl → ∃ b o, a = some ⟨b, o, none⟩ ∧ b < w.heap.size ∧ ∀ i, i < cl → ∀ j, j < 6 → w.cell? ⟨b, o + i * 6 + j, none⟩ = some (D i j)) := q6
  have hcm : (cl : Int) ≤ 1048576 := by omega
  obtain ⟨R, hR⟩ : ∃ R, R = tB (ChksB cs) := ⟨_, rfl⟩
  rw [← hR]
  have HNO : Hid (¬ ChksB cs → R = false) := fun h => by rw [hR]; exact tB_false h
  have HYE : Hid (ChksB cs → R = true) := fun h => by rw [hR]; exact tB_true h
  clear hD q6 q5 hR hcl
  go_enter Try.func63, Try.ntmps63
  by_cases h4 : 4 < cl
  · have HK : Hid (R = false) := HNO.out (fun h => by have := h.1; have := HCL.out; omega)
    have h4' : (4 : Int) < (cl : Int) := by omega
    go_wp2
    go_ret
    exact ⟨by rw [HK.out]; rfl, Below.refl _ w⟩
  have h4' : ¬ (4 : Int) < (cl : Int) := by omega
  go_wp2
  go_loopw [10] (fun i wr => ∃ j : Nat, j ≤ cl ∧ i = .int .i64 j ∧ Hid (∀ t, t < j → ChkAt cs t) ∧ Hid (Below w.heap.size w wr)) (fun i _ => cl - (intOf i).toNat)
  case atStart => exact ⟨0, Nat.zero_le _, rfl, fun j hj => absurd hj (by omega), Below.refl _ w⟩
  case round =>
    obtain ⟨j, hj, rfl, hdone, hb⟩ := hrel
    by_cases hjl : j < cl
    · obtain ⟨g, og, rfl, hgl, hgc⟩ := H6.out (by omega)
      obtain ⟨c, hcs⟩ : ∃ c, cs[j]? = some c := ⟨_, List.getElem?_eq_getElem (by have := HCL.out; omega)⟩
      obtain ⟨f0, f1, f2, f3, f4, f5⟩ := HD.out j c hcs
      have XV : Ext w wr := ext_below hb.out
      have r0 := f0.ext XV
      obtain ⟨ma, mc, hmv⟩ := rv_shape f0
      have cc0 := World.grownBy.cell XV (hgc j hjl 0 (by omega)) (by simp)
      rw [Nat.add_zero, hmv] at cc0
      rw [hmv] at r0
      have cc1 := World.grownBy.cell XV (hgc j hjl 1 (by omega)) (by simp)
      rw [f1] at cc1
      have cc2 := World.grownBy.cell XV (hgc j hjl 2 (by omega)) (by simp)
      rw [f2] at cc2
      have cc3 := World.grownBy.cell XV (hgc j hjl 3 (by omega)) (by simp)
      rw [f3] at cc3
      have cc4 := World.grownBy.cell XV (hgc j hjl 4 (by omega)) (by simp)
      rw [f4] at cc4
      have cc5 := World.grownBy.cell XV (hgc j hjl 5 (by omega)) (by simp)
      rw [f5] at cc5
      have HCI := hidL (chkAt_iff hcs)
      have hjl' : (j : Int) < (cl : Int) := by omega
      have HGC := hidL (show ∀ i, i < cl → ∀ j, j < 6 → w.cell? ⟨g, og + i * 6 + j, none⟩ = some (D i j) from hgc)
      have HXV := hidL XV
      have HRN := hidL r0
      have HNX : Hid (ChkAt cs j → ∀ t, t < j + 1 → ChkAt cs t) := fun h t ht => by
        by_cases e : t = j
        · subst e; exact h
        · exact hdone.out t (by omega)
      have HFC : Hid (¬ ChkAt cs j → R = false) := fun h => HNO.out (fun h' => h (h'.2 j (by have := HCL.out; omega)))
      clear hgc f0 f1 f2 f3 f4 f5 hmv hcs XV hdone r0
      obtain ⟨cn, hcn⟩ : ∃ cn, cn = c.name.length := ⟨_, rfl⟩
      rw [← hcn] at cc0 HRN
      clear hcn
      go_upto_region 6 with fail
      generalize hV : World.alloc wr _ = V
      have XV2 : Ext wr V := by rw [← hV]; exact hE _ _
      have PV : V.heap[wr.heap.size]? = some (.cells #[.slice ma cn mc, .int .i64 c.ttl, .int .i64 c.most, .int .i64 c.st, .int .i64 c.age, .int .i64 c.fails] 45 (0, 0)) := by rw [← hV]; exact heap_alloc_new wr _
      clear hV
      have HX2 := hidL XV2
      have HBV := hidL (hb.out.trans ((ext_bel XV2).mono hb.out.size))
      have y0 := bw_cell (at_block PV 0 _ rfl).1
      have y1 := bw_cell (at_block PV 1 _ rfl).1
      have y2 := bw_cell (at_block PV 2 _ rfl).1
      have y3 := bw_cell (at_block PV 3 _ rfl).1
      have y4 := bw_cell (at_block PV 4 _ rfl).1
      have y5 := bw_cell (at_block PV 5 _ rfl).1
      clear cc0 cc1 cc2 cc3 cc4 cc5 XV2 PV
      have nonV := bw_ne V
      obtain ⟨b1, hb1⟩ : ∃ b1, b1 = chkB c := ⟨_, rfl⟩
      have HB1 := hidL hb1
      have HCO : Hid (∀ U, Ext V U → Calls Try.prog 53 #[.agg #[.slice ma cn mc, .int .i64 c.ttl, .int .i64 c.most, .int .i64 c.st, .int .i64 c.age, .int .i64 c.fails]] U fun e w' => e = .returned (.bool b1) ∧ Below U.heap.size U w') := fun U e => by
        rw [hb1]
        exact iCheckOkV _ c U ⟨_, rfl, (HRN.out.ext HX2.out).ext e⟩
      clear hb1
      go_cut [33] from 15 to 33 (fun s33 wx => ∃ bb, s33 = .bool bb ∧ Hid (bb = true → ¬ ChkAt cs j) ∧ Hid (bb = false → ChkAt cs j) ∧ Hid (Below V.heap.size V wx))
      case first =>
        cases b1
        case false =>
          have HK : Hid (¬ ChkAt cs j) := fun h => by have h1 := (HCI.out.1 h).1; rw [← HB1.out] at h1; cases h1
          refine wp_region_bw (by kernel_rfl) (by kernel_rfl) ?_
          repeat (go_big_quiet_step ((go_at_call 53; exact bw_below (HCO.out _ (bw_ext _)))))
          refine wpQuiet_nil ?_
          rintro _ ⟨z, rfl⟩
          go_wp2_with fail
          go_meet
          exact ⟨true, rfl, fun _ => HK.out, fun h => (by cases h), z.h⟩
        case true =>
          by_cases hj0 : j = 0
          · have hkd : decide ((0 : Int) < (j : Int)) = false := decide_eq_false (by omega)
            have hkn : decide (0 < j) = false := decide_eq_false (by omega)
            have HJ0 := hidL hj0
            clear hj0
            refine wp_region_bw (by kernel_rfl) (by kernel_rfl) ?_
            repeat (go_big_quiet_step ((go_at_call 53; exact bw_below (HCO.out _ (bw_ext _)))))
            refine wpQuiet_nil ?_
            rintro _ ⟨z, rfl⟩
            go_wp2_with fail
            go_meet
            exact ⟨false, by simp, fun h => (by cases h), fun _ => HCI.out.2 ⟨HB1.out.symm, fun p h => by have := HJ0.out; omega⟩, z.h⟩
          · obtain ⟨p, hp⟩ : ∃ p, cs[j - 1]? = some p := ⟨_, List.getElem?_eq_getElem (by have := HCL.out; omega)⟩
            obtain ⟨j', rfl⟩ : ∃ j', j = j' + 1 := ⟨j - 1, by omega⟩
            have hpi : cs[j']? = some p := hp
            obtain ⟨f0, _⟩ := HD.out j' p hpi
            obtain ⟨pa, pc, hpv⟩ := rv_shape f0
            have y6 := World.grownBy.cell (HXV.out.tr HX2.out) (HGC.out j' (by omega) 0 (by omega)) (by simp)
            rw [Nat.add_zero, hpv] at y6
            rw [hpv] at f0
            have y7 := bw_cell y6
            obtain ⟨pn, hpn⟩ : ∃ pn, pn = p.name.length := ⟨_, rfl⟩
            rw [← hpn] at y7 f0
            obtain ⟨r, hr⟩ : ∃ r, r = cmpK p.name c.name := ⟨_, rfl⟩
            have HR : Hid (r < 0 ↔ ltK p.name c.name = true) := by show _ ↔ _; rw [hr]; exact cmpK_lt _ _
            have HCM : Hid (∀ U, Ext V U → Calls Try.prog 39 #[.slice pa pn pc, .slice ma cn mc] U fun e w' => e = .returned (.int .i64 r) ∧ w' = U) := fun U e => by
              rw [hr]
              exact compareE _ _ _ _ U ((f0.ext (HXV.out.tr HX2.out)).ext e) ((HRN.out.ext HX2.out).ext e)
            have HPI := hidL hpi
            have hw1 : IntKind.i64.wrap ((j' : Int) + 1 - 1) = (j' : Int) := by rw [Int.add_sub_cancel, IntKind.wrap_i64]; omega
            have hw2 : IntKind.i64.wrap (j' : Int) = (j' : Int) := by rw [IntKind.wrap_i64]; omega
            have hkd : decide ((0 : Int) < (j' : Int) + 1) = true := decide_eq_true (by omega)
            have hkm : (j' : Int) < (cl : Int) := by omega
            clear hj0 hp hpi f0 hpv y6 hpn hr
            refine wp_region_bw (by kernel_rfl) (by kernel_rfl) ?_
            repeat (go_big_quiet_step ((first | (go_at_call 53; exact bw_below (HCO.out _ (bw_ext _))) | (go_at_call 39; exact bw_same (HCM.out _ (bw_ext _))))))
            refine wpQuiet_nil ?_
            rintro _ ⟨z, rfl⟩
            go_wp2_with fail
            go_meet
            refine ⟨decide (0 ≤ r), by simp, fun h h' => ?_, fun h => HCI.out.2 ⟨HB1.out.symm, fun q _ hq => ?_⟩, z.h⟩
            · have h1 := (HCI.out.1 h').2 p (by omega) HPI.out
              have h2 := HR.out.2 h1
              have h3 := of_decide_eq_true h
              omega
            · have h2 : cs[j']? = some q := hq
              rw [HPI.out] at h2
              cases h2
              have h3 := of_decide_eq_false h
              exact HR.out.1 (by omega)
      obtain ⟨bb, rfl, HBT, HBF, HBY⟩ := hcut
      clear y0 y1 y2 y3 y4 y5
      have HZ := hidL (HBV.out.trans (HBY.out.mono HBV.out.size))
      cases bb
      · have HK := hidL (HNX.out (HBF.out rfl))
        clear HBT HBF HFC HCI
        go_wp2
        go_roundw
        case rel => exact ⟨j + 1, by omega, by go_num, HK, HZ⟩
        case measure => simp [intOf]; omega
      · have HK : Hid (R = false) := HFC.out (HBT.out rfl)
        clear HBT HBF HFC HCI
        go_wp2
        go_ret
        exact ⟨by rw [HK.out]; rfl, HZ.out⟩
    · have hjl2 : j = cl := by omega
      subst hjl2
      have HK : Hid (R = true) := HYE.out ⟨by have := HCL.out; omega, fun t ht => hdone.out t (by have := HCL.out; omega)⟩
      go_wp2
      go_ret
      exact ⟨by rw [HK.out]; rfl, hb.out⟩

def SvcP (node : List Int) (s : DSvc) : Prop := partB s.name = true ∧ keyB (placeL node s.name) = true ∧ ChksB s.checks

set_option maxRecDepth 20000 in
set_option maxHeartbeats 2000000 in
theorem iServiceOkV (nv sv : Value) (node : List Int) (s : DSvc) (w : World) (h : RV w nv node) (k : VSvc w sv s) (hn : node.length ≤ 1048576) (hl : LenSv s) :
    Calls Try.prog 38 #[nv, sv] w fun e w' => e = .returned (.bool (tB (SvcP node s))) ∧ Below w.heap.size w w' := by
  have hE : ∀ w : World, ∀ o, Ext w (w.alloc o) := fun w o => World.grownBy_alloc _ _ _
  obtain ⟨mv, cv, rfl, hm, hc⟩ := k
  obtain ⟨na, nc, rfl⟩ := rv_shape h
  obtain ⟨ma, mc, rfl⟩ := rv_shape hm
  obtain ⟨ca, cc, rfl⟩ := chks_shape hc
  obtain ⟨nn, hnn⟩ : ∃ nn, nn = node.length := ⟨_, rfl⟩
  obtain ⟨mn, hmn⟩ : ∃ mn, mn = s.name.length := ⟨_, rfl⟩
  obtain ⟨cn, hcn⟩ : ∃ cn, cn = s.checks.length := ⟨_, rfl⟩
  rw [← hnn] at h ⊢
  rw [← hmn] at hm ⊢
  rw [← hcn] at hc ⊢
  obtain ⟨R, hR⟩ : ∃ R, R = tB (SvcP node s) := ⟨_, rfl⟩
  rw [← hR]
  have HNO : Hid (¬ SvcP node s → R = false) := fun h => by rw [hR]; exact tB_false h
  have HYE : Hid (SvcP node s → R = true) := fun h => by rw [hR]; exact tB_true h
  have HP : Hid (∀ V, Ext w V → Calls Try.prog 37 #[.slice ma mn mc] V fun e w' => e = .returned (.bool (partB s.name)) ∧ w' = V) := fun V e => iPartV _ _ V (hm.ext e)
  have HQ : Hid (∀ V, Ext w V → Calls Try.prog 62 #[.slice na nn nc, .slice ma mn mc] V fun e w' => ∃ v, e = .returned v ∧ RV w' v (placeL node s.name) ∧ Below V.heap.size V w') := fun V e => (iPlaceV _ _ _ _ V (h.ext e) (hm.ext e) hn hl.1).mono fun e' w' ⟨v, h1, h2, h3⟩ => ⟨v, h1, Ow.rv h2 (placeL_rng (rv_rngK h) (rv_rngK hm)), h3⟩
  have HC : Hid (∀ V, Ext w V → Calls Try.prog 63 #[.slice ca cn cc] V fun e w' => e = .returned (.bool (tB (ChksB s.checks))) ∧ Below V.heap.size V w') := fun V e => iChecksOkV _ _ V (hc.ext e) hl.2.1
  clear h hm hc hnn hmn hcn hR
  go_enter Try.func38, Try.ntmps38
  cases hp : partB s.name
  · have HK : Hid (R = false) := HNO.out (fun h => by have h1 := h.1; rw [hp] at h1; cases h1)
    go_wp2_with (go_at_call 37; refine (HP.out _ (hE _ _)).mono ?_; rintro e w1 ⟨rfl, rfl⟩; rw [hp])
    go_ret
    exact ⟨by rw [HK.out]; rfl, ext_bel (hE _ _)⟩
  go_wp2_with (first | (go_at_call 37; refine (HP.out _ (hE _ _)).mono ?_; rintro e w1 ⟨rfl, rfl⟩; rw [hp]))
  refine (HQ.out _ (hE _ _)).mono ?_
  rintro e w2 ⟨v, rfl, rv, b2⟩
  obtain ⟨va, vc, rfl⟩ := rv_shape rv
  have HB2 := hidL ((ext_bel (hE w _)).trans (b2.mono (by simp)))
  have z1 := World.grownBy.cell (ext_below b2) (at_block (heap_alloc_new w _) 1 _ rfl).1 (by simp)
  clear b2
  cases hk : keyB (placeL node s.name)
  · have HK : Hid (R = false) := HNO.out (fun h => by have h1 := h.2.1; rw [hk] at h1; cases h1)
    go_wp2_with (go_at_call 60; refine (keyOkV _ _ _ rv).mono ?_; rintro e w1 ⟨rfl, rfl⟩; rw [hk])
    go_ret
    exact ⟨by rw [HK.out]; rfl, HB2.out⟩
  go_wp2_with (first | (go_at_call 60; refine (keyOkV _ _ _ rv).mono ?_; rintro e w1 ⟨rfl, rfl⟩; rw [hk]))
  refine (HC.out _ (ext_below HB2.out)).mono ?_
  rintro e w3 ⟨rfl, b3⟩
  have HB3 := hidL (HB2.out.trans (b3.mono HB2.out.size))
  have HK : Hid (R = tB (ChksB s.checks)) := by
    show _ = _
    by_cases hh : ChksB s.checks
    · rw [tB_true hh]; exact HYE.out ⟨hp, hk, hh⟩
    · rw [tB_false hh]; exact HNO.out (fun h => hh h.2.2)
  generalize tB (ChksB s.checks) = t at HK ⊢
  clear b3 rv z1
  go_wp2
  go_ret
  exact ⟨by rw [HK.out]; rfl, HB3.out⟩

end Go.Proofs.Ytpnachakijpjkaa
