
/- The program's LocalOk. -/
import Derived.Test.YtpnachakijpjkaaLp1
namespace Go.Proofs.Ytpnachakijpjkaa
open Go.RowKit

theorem svcAt_svcP {node : List Int} {ss : List DSvc} {i : Nat} {s : DSvc} (h : ss[i]? = some s) : SvcAt node ss i ↔ SvcP node s ∧ ∀ p, 0 < i → ss[i - 1]? = some p → ltK p.name s.name = true := by
  rw [svcAt_iff h]
  unfold SvcP ChksB
  constructor
  · rintro ⟨h1, h2, h3, h4, h5⟩
    exact ⟨⟨h1, h2, h3, h5⟩, h4⟩
  · rintro ⟨⟨h1, h2, h3, h5⟩, h4⟩
    exact ⟨h1, h2, h3, h4, h5⟩

set_option maxRecDepth 20000 in
set_option maxHeartbeats 4000000 in
theorem iLocalOkV (v : Value) (L : DLoc) (w : World) (h : VLoc w v L) (hl : LenLo L) :
    Calls Try.prog 11 #[v] w fun e w' => e = .returned (.bool (tB (LocP L))) ∧ Below w.heap.size w w' := by
  have hE : ∀ w : World, ∀ o, Ext w (w.alloc o) := fun w o => World.grownBy_alloc _ _ _
  obtain ⟨nv, sv, rfl, hn, hs⟩ := h
  have HL := hidL hl
  obtain ⟨na, nc, hnv⟩ := rv_shape hn
  obtain ⟨nn, hnn⟩ : ∃ nn, nn = L.node.length := ⟨_, rfl⟩
  rw [← hnn] at hnv
  subst hnv
  have HNV : Hid (RV w (.slice na nn nc) L.node) := hn
  obtain ⟨C, ⟨a, sc, rfl, q1, q2, q3⟩, hC⟩ := hs
  obtain ⟨m, hm⟩ : ∃ m, m = L.svcs.length := ⟨_, rfl⟩
  have HM := hidL hm
  have HC : Hid (∀ i d, L.svcs[i]? = some d → RV w (C i 0) d.name ∧ VChks w (C i 1) d.checks) := hC
  rw [← hm] at q1 q3 ⊢
  have H3 : Hid (0 < m → ∃ b o, a = some ⟨b, o, none⟩ ∧ b < w.heap.size ∧ ∀ i, i < m → ∀ j, j < 2 → w.cell? ⟨b, o + i * 2 + j, none⟩ = some (C i j)) := q3
  have hmm : (m : Int) ≤ 1048576 := by have := hl.2.1; omega
  obtain ⟨R, hR⟩ : ∃ R, R = tB (LocP L) := ⟨_, rfl⟩
  rw [← hR]
  have HNO : Hid (¬ LocP L → R = false) := fun h => by rw [hR]; exact tB_false h
  have HYE : Hid (LocP L → R = true) := fun h => by rw [hR]; exact tB_true h
  unfold maxLen at q2
  clear hn hnn hC hm q3 hR hl
  go_enter Try.func11, Try.ntmps11
  go_wp2_with fail
  generalize hW : World.alloc w _ = W
  have XW : Ext w W := by rw [← hW]; exact hE _ _
  have P0 : W.heap[w.heap.size]? = some (.cells #[.slice na nn nc, .slice a m sc] 30 (0, 0)) := by rw [← hW]; exact heap_alloc_new w _
  clear hW
  refine (iPartV (.slice na nn nc) L.node W (HNV.out.ext XW)).mono ?_
  rintro e w1 ⟨rfl, rfl⟩
  have HP0 := hidL P0
  have HXW := hidL XW
  obtain ⟨p0, f0⟩ := at_block P0 0 _ rfl
  obtain ⟨p1, f1⟩ := at_block P0 1 _ rfl
  clear P0 XW f0 f1
  cases hb : partB L.node
  · have HK : Hid (R = false) := HNO.out (fun h => by have h1 := h.1; rw [hb] at h1; cases h1)
    clear hb
    go_wp2
    go_ret
    exact ⟨by rw [HK.out]; rfl, ext_bel HXW.out⟩
  have HNB := hidL hb
  clear hb
  by_cases h6 : 6 < m
  · have HK : Hid (R = false) := HNO.out (fun h => by have := h.2.1; have := HM.out; omega)
    have h6' : (6 : Int) < (m : Int) := by omega
    go_wp2
    go_ret
    exact ⟨by rw [HK.out]; rfl, ext_bel HXW.out⟩
  have h6' : ¬ (6 : Int) < (m : Int) := by omega
  go_wp2
  go_loopw [18] (fun i wr => ∃ k : Nat, k ≤ m ∧ i = .int .i64 k ∧ Hid (∀ j, j < k → SvcAt L.node L.svcs j) ∧ Hid (Ext w1 wr)) (fun i _ => m - (intOf i).toNat)
  case atStart => exact ⟨0, Nat.zero_le _, rfl, fun j hj => absurd hj (by omega), grown_same _ _⟩
  case round =>
    obtain ⟨k, hk, rfl, hall, hX⟩ := hrel
    clear p0 p1
    have PX := ext_blk hX.out HP0.out
    obtain ⟨p0, f0⟩ := at_block PX 0 _ rfl
    obtain ⟨p1, f1⟩ := at_block PX 1 _ rfl
    clear PX f0 f1
    by_cases hlt : k < m
    · obtain ⟨b, o, rfl, hbl, hc⟩ := H3.out (by omega)
      obtain ⟨s, hs⟩ : ∃ s, L.svcs[k]? = some s := ⟨_, List.getElem?_eq_getElem (by have := HM.out; omega)⟩
      obtain ⟨e0, e1⟩ := HC.out k s hs
      have HLS := hidL (HL.out.2.2 k s hs)
      have HXA := hidL (HXW.out.tr hX.out)
      obtain ⟨ka, kc, hkv⟩ := rv_shape e0
      obtain ⟨cb, cd, hcv⟩ := chks_shape e1
      obtain ⟨kl, hkl⟩ : ∃ kl, kl = s.name.length := ⟨_, rfl⟩
      obtain ⟨cl, hcl⟩ : ∃ cl, cl = s.checks.length := ⟨_, rfl⟩
      rw [← hkl] at hkv
      rw [← hcl] at hcv
      rw [hkv] at e0
      rw [hcv] at e1
      have x0 := World.grownBy.cell HXA.out (hc k hlt 0 (by omega)) (by simp)
      rw [Nat.add_zero, hkv] at x0
      have x1 := World.grownBy.cell HXA.out (hc k hlt 1 (by omega)) (by simp)
      rw [hcv] at x1
      have HCB := hidL (show ∀ i, i < m → ∀ j, j < 2 → w.cell? ⟨b, o + i * 2 + j, none⟩ = some (C i j) from hc)
      have HNM : Hid (RV wr (.slice ka kl kc) s.name) := e0.ext HXA.out
      have HCK : Hid (VChks wr (.slice cb cl cd) s.checks) := e1.ext HXA.out
      have HSI := hidL (svcAt_svcP (node := L.node) hs)
      have hlt' : (k : Int) < (m : Int) := by omega
      have HAA : Hid (SvcAt L.node L.svcs k → ∀ j, j < k + 1 → SvcAt L.node L.svcs j) := fun h j hj => by
        by_cases e : j = k
        · subst e; exact h
        · exact hall.out j (by omega)
      have HF : Hid (¬ SvcAt L.node L.svcs k → R = false) := fun h => HNO.out (fun h' => h (h'.2.2 k (by have := HM.out; omega)))
      have HSS := hidL hs
      clear hc hkv hcv e0 e1 hs hall hkl hcl
      go_upto_region 6 with fail
      generalize hU : World.alloc wr _ = U
      have XU : Ext wr U := by rw [← hU]; exact hE _ _
      have PU : U.heap[wr.heap.size]? = some (.cells #[.slice ka kl kc, .slice cb cl cd] 57 (0, 0)) := by rw [← hU]; exact heap_alloc_new wr _
      clear hU
      have HXU := hidL XU
      have HBU := hidL (ext_bel (HXA.out.tr XU))
      obtain ⟨b1, hb1⟩ : ∃ b1, b1 = tB (SvcP L.node s) := ⟨_, rfl⟩
      have HB1 := hidL hb1
      have HSV : Hid (∀ V, Ext U V → Calls Try.prog 38 #[.slice na nn nc, .agg #[.slice ka kl kc, .slice cb cl cd]] V fun e w' => e = .returned (.bool b1) ∧ Below V.heap.size V w') := fun V e => by
        rw [hb1]
        exact iServiceOkV _ _ L.node s V ((HNV.out.ext (HXA.out.tr HXU.out)).ext e) ⟨_, _, rfl, (HNM.out.ext HXU.out).ext e, (HCK.out.ext HXU.out).ext e⟩ HL.out.1 HLS.out
      clear hb1
      have z0 := bw_cell (at_block PU 0 _ rfl).1
      have z1 := bw_cell (at_block PU 1 _ rfl).1
      have z2 := bw_cell (World.grownBy.cell XU p0 (by simp))
      have z3 := bw_cell (World.grownBy.cell XU p1 (by simp))
      clear p0 p1 x0 x1 XU PU
      have nonV := bw_ne U
      go_cut [44] from 23 to 44 (fun s44 wx => ∃ bb, s44 = .bool bb ∧ Hid (bb = true → ¬ SvcAt L.node L.svcs k) ∧ Hid (bb = false → SvcAt L.node L.svcs k) ∧ Hid (Below U.heap.size U wx))
      case first =>
        cases b1
        case false =>
          have HK : Hid (¬ SvcAt L.node L.svcs k) := fun h => by have h1 := tB_true (HSI.out.1 h).1; rw [← HB1.out] at h1; cases h1
          refine wp_region_bw (by kernel_rfl) (by kernel_rfl) ?_
          repeat (go_big_quiet_step ((go_at_call 38; exact bw_below (HSV.out _ (bw_ext _)))))
          refine wpQuiet_nil ?_
          rintro _ ⟨z, rfl⟩
          go_wp2_with fail
          go_meet
          exact ⟨true, rfl, fun _ => HK.out, fun h => (by cases h), z.h⟩
        case true =>
          have HSP : Hid (SvcP L.node s) := tB_iff.1 HB1.out.symm
          by_cases hk0 : k = 0
          · have hkd : decide ((0 : Int) < (k : Int)) = false := decide_eq_false (by omega)
            have hkn : decide (0 < k) = false := decide_eq_false (by omega)
            have HK0 := hidL hk0
            clear hk0
            refine wp_region_bw (by kernel_rfl) (by kernel_rfl) ?_
            repeat (go_big_quiet_step ((go_at_call 38; exact bw_below (HSV.out _ (bw_ext _)))))
            refine wpQuiet_nil ?_
            rintro _ ⟨z, rfl⟩
            go_wp2_with fail
            go_meet
            exact ⟨false, by simp, fun h => (by cases h), fun _ => HSI.out.2 ⟨HSP.out, fun p h => by have := HK0.out; omega⟩, z.h⟩
          · obtain ⟨p, hp⟩ : ∃ p, L.svcs[k - 1]? = some p := ⟨_, List.getElem?_eq_getElem (by have := HM.out; omega)⟩
            obtain ⟨k', rfl⟩ : ∃ k', k = k' + 1 := ⟨k - 1, by omega⟩
            have hpi : L.svcs[k']? = some p := hp
            obtain ⟨f0, _⟩ := HC.out k' p hpi
            obtain ⟨pa, pc, hpv⟩ := rv_shape f0
            have y6 := World.grownBy.cell (HXA.out.tr HXU.out) (HCB.out k' (by omega) 0 (by omega)) (by simp)
            rw [Nat.add_zero, hpv] at y6
            rw [hpv] at f0
            have y7 := bw_cell y6
            obtain ⟨pn, hpn⟩ : ∃ pn, pn = p.name.length := ⟨_, rfl⟩
            rw [← hpn] at y7 f0
            obtain ⟨r, hr⟩ : ∃ r, r = cmpK p.name s.name := ⟨_, rfl⟩
            have HR : Hid (r < 0 ↔ ltK p.name s.name = true) := by show _ ↔ _; rw [hr]; exact cmpK_lt _ _
            have HCM : Hid (∀ V, Ext U V → Calls Try.prog 39 #[.slice pa pn pc, .slice ka kl kc] V fun e w' => e = .returned (.int .i64 r) ∧ w' = V) := fun V e => by
              rw [hr]
              exact compareE _ _ _ _ V ((f0.ext (HXA.out.tr HXU.out)).ext e) ((HNM.out.ext HXU.out).ext e)
            have HPI := hidL hpi
            have hw1 : IntKind.i64.wrap ((k' : Int) + 1 - 1) = (k' : Int) := by rw [Int.add_sub_cancel, IntKind.wrap_i64]; omega
            have hw2 : IntKind.i64.wrap (k' : Int) = (k' : Int) := by rw [IntKind.wrap_i64]; omega
            have hkd : decide ((0 : Int) < (k' : Int) + 1) = true := decide_eq_true (by omega)
            have hkm : (k' : Int) < (m : Int) := by omega
            clear hk0 hp hpi f0 hpv y6 hpn hr
            refine wp_region_bw (by kernel_rfl) (by kernel_rfl) ?_
            repeat (go_big_quiet_step ((first | (go_at_call 38; exact bw_below (HSV.out _ (bw_ext _))) | (go_at_call 39; exact bw_same (HCM.out _ (bw_ext _))))))
            refine wpQuiet_nil ?_
            rintro _ ⟨z, rfl⟩
            go_wp2_with fail
            go_meet
            refine ⟨decide (0 ≤ r), by simp, fun h h' => ?_, fun h => HSI.out.2 ⟨HSP.out, fun q _ hq => ?_⟩, z.h⟩
            · have h1 := (HSI.out.1 h').2 p (by omega) HPI.out
              have h2 := HR.out.2 h1
              have h3 := of_decide_eq_true h
              omega
            · have h2 : L.svcs[k']? = some q := hq
              rw [HPI.out] at h2
              cases h2
              have h3 := of_decide_eq_false h
              exact HR.out.1 (by omega)
      obtain ⟨bb, rfl, HBT, HBF, HBX⟩ := hcut
      clear z0 z1 z2 z3
      cases bb
      · have HK := hidL (HAA.out (HBF.out rfl))
        have HZ := hidL (hX.out.tr (HXU.out.tr (ext_below HBX.out)))
        clear HBT HBF HF HSI HAA
        go_wp2
        go_roundw
        case rel => exact ⟨k + 1, by omega, by go_num, HK, HZ⟩
        case measure => simp [intOf]; omega
      · have HK : Hid (R = false) := HF.out (HBT.out rfl)
        have HZ := hidL (HBU.out.trans (HBX.out.mono HBU.out.size))
        clear HBT HBF HF HSI HAA
        go_wp2
        go_ret
        exact ⟨by rw [HK.out]; rfl, HZ.out⟩
    · have hkm : k = m := by omega
      subst hkm
      have HK : Hid (R = true) := HYE.out ⟨HNB.out, by have := HM.out; omega, fun i hi => hall.out i (by have := HM.out; omega)⟩
      have HZ := hidL (ext_bel (HXW.out.tr hX.out))
      clear H3
      go_wp2
      go_ret
      exact ⟨by rw [HK.out]; rfl, HZ.out⟩

end Go.Proofs.Ytpnachakijpjkaa
