
/- The specification's LocalOk. -/
import Derived.Test.YtjkhadaoldbceaaLo1
import Derived.Test.YtjkhadaoldbceaaCk1z
import Derived.Test.YtjkhadaoldbceaaSum0
import Derived.Test.YtjkhadaoldbceaaRgS
namespace Go.Proofs.Ytjkhadaoldbceaa
open Go.RowKit

theorem cells2L {w : World} {g : Nat} {v0 v1 : Value} {t : TypeId} (h : w.heap[g]? = some (.cells #[v0, v1] t (0, 0))) : w.cell? ⟨g, 0, none⟩ = some v0 ∧ w.cell? ⟨g, 1, none⟩ = some v1 := ⟨(at_block h 0 _ rfl).1, (at_block h 1 _ rfl).1⟩

set_option maxRecDepth 20000 in
set_option maxHeartbeats 4000000 in
theorem sLocalOkV (v : Value) (L : DLoc) (w : World) (h : VLoc w v L) (hl : LenLo L) :
    Calls Try.prog 23 #[v] w fun e w' => e = .returned (.bool (tB (LocP L))) ∧ Below w.heap.size w w' := by
  have hE : ∀ w : World, ∀ o, Ext w (w.alloc o) := fun w o => World.grownBy_alloc _ _ _
  have hB : ∀ w : World, ∀ o, Below w.heap.size w (w.alloc o) := fun w o => (Below.refl _ w).alloc (Nat.le_refl _) _
  obtain ⟨nv, sv, rfl, hn, hs⟩ := h
  have HL := hidL hl
  obtain ⟨na, nc, hnv⟩ := rv_shape hn
  obtain ⟨nn, hnn⟩ : ∃ nn, nn = L.node.length := ⟨_, rfl⟩
  rw [← hnn] at hnv
  subst hnv
  have HNV : Hid (RV w (.slice na nn nc) L.node) := hn
  obtain ⟨C, ⟨a, sc, rfl, q1, q2, q3⟩, hC⟩ := hs
  obtain ⟨m, hm⟩ : ∃ m, m = L.svcs.length := ⟨_, rfl⟩
  have HM := hidL hm
  have HC : Hid (∀ i d, L.svcs[i]? = some d → RV w (C i 0) d.name ∧ VChks w (C i 1) d.checks) := hC
  rw [← hm] at q1 q3 ⊢
  have H3 : Hid (0 < m → ∃ b o, a = some ⟨b, o, none⟩ ∧ b < w.heap.size ∧ ∀ i, i < m → ∀ j, j < 2 → w.cell? ⟨b, o + i * 2 + j, none⟩ = some (C i j)) := q3
  have HMM := hidL (show m ≤ 1048576 by rw [hm]; exact hl.2.1)
  obtain ⟨R, hR⟩ : ∃ R, R = tB (LocP L) := ⟨_, rfl⟩
  rw [← hR]
  have HNO : Hid (¬ LocP L → R = false) := fun h => by rw [hR]; exact tB_false h
  have HYE : Hid (LocP L → R = true) := fun h => by rw [hR]; exact tB_true h
  unfold maxLen at q2
  clear hn hnn hC hm q3 hR hl
  go_enter Try.func23, Try.ntmps23
  go_wp2_with fail
  generalize hW : World.alloc w _ = W
  have XW : Ext w W := by rw [← hW]; exact hE _ _
  have P0 : W.heap[w.heap.size]? = some (.cells #[.slice na nn nc, .slice a m sc] 29 (0, 0)) := by rw [← hW]; exact heap_alloc_new w _
  clear hW
  refine (sPartV (.slice na nn nc) L.node W (HNV.out.ext XW)).mono ?_
  rintro e w1 ⟨rfl, rfl⟩
  have HP0 := hidL P0
  have HXW := hidL XW
  obtain ⟨p0, p1⟩ := cells2L P0
  clear P0 XW
  cases hb : partB L.node
  · have HK : Hid (R = false) := HNO.out (fun h => by have h1 := h.1; rw [hb] at h1; cases h1)
    clear hb
    go_wp2
    go_ret
    exact ⟨by rw [HK.out]; rfl, ext_bel HXW.out⟩
  have HNB := hidL hb
  clear hb
  by_cases h6 : 6 < m
  · have HK : Hid (R = false) := HNO.out (fun h => by have := h.2.1; have := HM.out; omega)
    have h6' : (6 : Int) < (m : Int) := by omega
    go_wp2
    go_ret
    exact ⟨by rw [HK.out]; rfl, ext_bel HXW.out⟩
  have h6' : ¬ (6 : Int) < (m : Int) := by omega
  go_wp2
  go_loopw [3] (fun i wr => ∃ k : Nat, k ≤ m ∧ i = .int .i64 k ∧ Hid (∀ j, j < k → SvcAt L.node L.svcs j) ∧ Hid (Ext w1 wr)) (fun i _ => m - (intOf i).toNat)
  case atStart => exact ⟨0, Nat.zero_le _, rfl, fun j hj => absurd hj (by omega), grown_same _ _⟩
  case round =>
    obtain ⟨k, hk, rfl, hall, hX⟩ := hrel
    clear p0 p1
    obtain ⟨p0, p1⟩ := cells2L (ext_blk hX.out HP0.out)
    by_cases hlt : k < m
    · obtain ⟨b, o, rfl, hbl, hc⟩ := H3.out (by omega)
      obtain ⟨s, hs⟩ : ∃ s, L.svcs[k]? = some s := ⟨_, List.getElem?_eq_getElem (by have := HM.out; omega)⟩
      obtain ⟨e0, e1⟩ := HC.out k s hs
      have HLS := hidL (HL.out.2.2 k s hs)
      have HXA := hidL (HXW.out.tr hX.out)
      obtain ⟨ka, kc, hkv⟩ := rv_shape e0
      obtain ⟨cb, cd, hcv⟩ := chks_shape e1
      obtain ⟨kl, hkl⟩ : ∃ kl, kl = s.name.length := ⟨_, rfl⟩
      obtain ⟨cl, hcl⟩ : ∃ cl, cl = s.checks.length := ⟨_, rfl⟩
      rw [← hkl] at hkv
      rw [← hcl] at hcv
      rw [hkv] at e0
      rw [hcv] at e1
      have x0 := World.grownBy.cell HXA.out (hc k hlt 0 (by omega)) (by simp)
      rw [Nat.add_zero, hkv] at x0
      have x1 := World.grownBy.cell HXA.out (hc k hlt 1 (by omega)) (by simp)
      rw [hcv] at x1
      have HCB := hidL (show ∀ i, i < m → ∀ j, j < 2 → w.cell? ⟨b, o + i * 2 + j, none⟩ = some (C i j) from hc)
      have HNM : Hid (RV wr (.slice ka kl kc) s.name) := e0.ext HXA.out
      have HCK : Hid (VChks wr (.slice cb cl cd) s.checks) := e1.ext HXA.out
      have HSI := hidL (svcAt_iff (node := L.node) hs)
      have HCL := hidL hcl
      have hlt' : (k : Int) < (m : Int) := by omega
      have HAA : Hid (SvcAt L.node L.svcs k → ∀ j, j < k + 1 → SvcAt L.node L.svcs j) := fun h j hj => by
        by_cases e : j = k
        · subst e; exact h
        · exact hall.out j (by omega)
      have HF : Hid (¬ SvcAt L.node L.svcs k → R = false) := fun h => HNO.out (fun h' => h (h'.2.2 k (by have := HM.out; omega)))
      have HSS := hidL hs
      clear hc hkv hcv e0 e1 hs hall hkl hcl
      go_upto_region 7 with fail
      generalize hU : World.alloc wr _ = U
      have XU : Ext wr U := by rw [← hU]; exact hE _ _
      have PU : U.heap[wr.heap.size]? = some (.cells #[.slice ka kl kc, .slice cb cl cd] 54 (0, 0)) := by rw [← hU]; exact heap_alloc_new wr _
      clear hU
      have HXU := hidL XU
      have HPU := hidL PU
      have HBU := hidL (ext_bel (HXA.out.tr XU))
      have HPT : Hid (∀ V, Ext U V → Calls Try.prog 43 #[.slice ka kl kc] V fun e w' => e = .returned (.bool (partB s.name)) ∧ w' = V) := fun V e => sPartV _ s.name V ((HNM.out.ext HXU.out).ext e)
      have HKY : Hid (∀ V, Below U.heap.size U V → Calls Try.prog 45 #[.slice na nn nc, .slice ka kl kc] V fun e w' => ∃ ya yn yc, e = .returned (.slice ya yn yc) ∧ RV w' (.slice ya yn yc) (placeL L.node s.name) ∧ Below U.heap.size U w') := fun V e => (sPlaceV _ _ L.node s.name V ((HNV.out.ext (HXA.out.tr HXU.out)).ext (ext_below e)) ((HNM.out.ext HXU.out).ext (ext_below e)) HL.out.1 HLS.out.1).mono fun e' w' ⟨y, h1, h2, h3⟩ => by
        have hrv := h2.rv (placeL_rng (rv_rngK HNV.out) (rv_rngK HNM.out))
        obtain ⟨ya, yc, hy⟩ := rv_shape hrv
        rw [hy] at h1 hrv
        exact ⟨ya, _, yc, h1, hrv, e.trans (h3.mono e.size)⟩
      obtain ⟨u0, u1⟩ := cells2L PU
      have z0 := bw_cell u0
      have z1 := bw_cell u1
      have z2 := bw_cell (World.grownBy.cell XU p0 (by simp))
      have z3 := bw_cell (World.grownBy.cell XU p1 (by simp))
      clear p0 p1 x0 x1 XU PU u0 u1
      have nonV := bw_ne U
      go_cut [64] from 28 to 64 (fun s64 wx => ∃ bb, s64 = .bool bb ∧ Hid (bb = true → ¬ SvcAt L.node L.svcs k) ∧ Hid (bb = false → partB s.name = true ∧ keyB (placeL L.node s.name) = true ∧ s.checks.length ≤ 4 ∧ (∀ p, 0 < k → L.svcs[k - 1]? = some p → ltK p.name s.name = true)) ∧ Hid (Below U.heap.size U wx))
      case first =>
        refine wp_region_seg (S := fun w' => ∃ p : BW U, w' = p.u) (by kernel_rfl) (inBW_drew U) (fun hHeld => ?_)
        refine wpAnyH_seg 0 2 35 (by kernel_rfl) (by kernel_rfl) (by kernel_rfl) (by kernel_rfl) (fun _ _ _ _ _ h => h) hHeld ?_
        simp only [List.drop_zero, List.take_succ_cons, List.take_zero]
        repeat (go_big_quiet_step (fail))
        refine wpQuiet_nil ?_
        refine wpAnyH_one 2 34 (by kernel_rfl) (by kernel_rfl) rfl (fun K hK => ?_)
        go_simp
        go_at_call 43
        refine (HPT.out _ (ext_drewN U 1)).mono ?_
        rintro e w2 ⟨rfl, rfl⟩
        dsimp only
        refine hK.out _ _ (inBW_drew U) (fun hHeld => ?_)
        clear hK K
        try simp only [Act.put, List.setIfInBounds_toArray, List.set_cons_zero, List.set_cons_succ]
        cases hpart : partB s.name
        · have HK : Hid (¬ SvcAt L.node L.svcs k) := fun h => by have h1 := (HSI.out.1 h).1; rw [hpart] at h1; cases h1
          clear hpart
          refine wpAnyH_seg 3 6 28 (by kernel_rfl) (by kernel_rfl) (by kernel_rfl) (by kernel_rfl) (fun _ _ _ _ _ h => h) hHeld ?_
          simp only [List.drop_succ_cons, List.drop_zero, List.take_succ_cons, List.take_zero]
          repeat (go_big_quiet_step (fail))
          refine wpQuiet_nil ?_
          refine wpAnyH_struck 9 37 27 (by kernel_rfl) (by kernel_rfl) (by kernel_rfl) (by kernel_rfl) (by kernel_rfl) (fun _ _ _ _ _ h => h) (by rfl) hHeld ?_
          simp only [Act.put, List.setIfInBounds_toArray, List.set_cons_zero, List.set_cons_succ]
          refine wpAnyH_struck 10 38 26 (by kernel_rfl) (by kernel_rfl) (by kernel_rfl) (by kernel_rfl) (by kernel_rfl) (fun _ _ _ _ _ h => h) (by rfl) hHeld ?_
          simp only [Act.put, List.setIfInBounds_toArray, List.set_cons_zero, List.set_cons_succ]
          refine wpAnyH_seg 11 26 0 (by kernel_rfl) (by kernel_rfl) (by kernel_rfl) (by kernel_rfl) (fun _ _ _ _ _ h => h) hHeld ?_
          simp only [List.drop_succ_cons, List.drop_zero, List.take_succ_cons, List.take_zero]
          repeat (go_big_quiet_step (fail))
          refine wpQuiet_nil ?_
          refine wpAnyH_endN (by kernel_rfl) ?_
          go_wp2_with fail
          go_meet
          exact ⟨true, rfl, fun _ => HK.out, fun h => (by cases h), below_drew1 U⟩
        have HP1 := hidL hpart
        clear hpart
        refine wpAnyH_seg 3 6 28 (by kernel_rfl) (by kernel_rfl) (by kernel_rfl) (by kernel_rfl) (fun _ _ _ _ _ h => h) hHeld ?_
        simp only [List.drop_succ_cons, List.drop_zero, List.take_succ_cons, List.take_zero]
        repeat (go_big_quiet_step (fail))
        refine wpQuiet_nil ?_
        refine wpAnyH_one 9 27 (by kernel_rfl) (by kernel_rfl) rfl (fun K hK => ?_)
        go_simp
        go_at_call 45
        refine (HKY.out _ (below_drew1 U)).mono ?_
        rintro e w5 ⟨ya, yn, yc, rfl, V5, B5⟩
        dsimp only
        refine hK.out _ _ ⟨⟨_, B5⟩, rfl⟩ (fun hHeld => ?_)
        clear hK K
        try simp only [Act.put, List.setIfInBounds_toArray, List.set_cons_zero, List.set_cons_succ]
        refine wpAnyH_one 10 26 (by kernel_rfl) (by kernel_rfl) rfl (fun K hK => ?_)
        go_simp
        go_at_call 44
        refine (l2keyV _ _ _ V5).mono ?_
        rintro e w6 ⟨rfl, rfl⟩
        dsimp only
        refine hK.out _ _ ⟨⟨_, B5⟩, rfl⟩ (fun hHeld => ?_)
        clear hK K
        try simp only [Act.put, List.setIfInBounds_toArray, List.set_cons_zero, List.set_cons_succ]
        cases hkey : keyB (placeL L.node s.name)
        · have HK : Hid (¬ SvcAt L.node L.svcs k) := fun h => by have h1 := (HSI.out.1 h).2.1; rw [hkey] at h1; cases h1
          clear hkey
          refine wpAnyH_seg 11 26 0 (by kernel_rfl) (by kernel_rfl) (by kernel_rfl) (by kernel_rfl) (fun _ _ _ _ _ h => h) hHeld ?_
          simp only [List.drop_succ_cons, List.drop_zero, List.take_succ_cons, List.take_zero]
          repeat (go_big_quiet_step (fail))
          refine wpQuiet_nil ?_
          refine wpAnyH_endN (by kernel_rfl) ?_
          go_wp2_with fail
          go_meet
          exact ⟨true, rfl, fun _ => HK.out, fun h => (by cases h), B5⟩
        have HP2 := hidL hkey
        clear hkey
        by_cases h4 : 4 < cl
        · have HK : Hid (¬ SvcAt L.node L.svcs k) := fun h => by have h1 := (HSI.out.1 h).2.2.1; have := HCL.out; omega
          have h4' : decide ((4 : Int) < (cl : Int)) = true := decide_eq_true (by omega)
          have h4n : decide (4 < cl) = true := decide_eq_true h4
          clear h4
          refine wpAnyH_seg 11 26 0 (by kernel_rfl) (by kernel_rfl) (by kernel_rfl) (by kernel_rfl) (fun _ _ _ _ _ h => h) hHeld ?_
          simp only [List.drop_succ_cons, List.drop_zero, List.take_succ_cons, List.take_zero]
          repeat (go_big_quiet_step (fail))
          refine wpQuiet_nil ?_
          refine wpAnyH_endN (by kernel_rfl) ?_
          go_wp2_with fail
          go_meet
          exact ⟨true, by simp, fun _ => HK.out, fun h => (by cases h), B5⟩
        have h4' : decide ((4 : Int) < (cl : Int)) = false := decide_eq_false (by omega)
        have h4n : decide (4 < cl) = false := decide_eq_false h4
        have HP3 : Hid (s.checks.length ≤ 4) := by show _ ≤ _; have := HCL.out; omega
        clear h4
        by_cases hk0 : k = 0
        · have hkd : decide ((0 : Int) < (k : Int)) = false := decide_eq_false (by omega)
          have hkn : decide (0 < k) = false := decide_eq_false (by omega)
          have HK0 := hidL hk0
          clear hk0
          refine wpAnyH_seg 11 26 0 (by kernel_rfl) (by kernel_rfl) (by kernel_rfl) (by kernel_rfl) (fun _ _ _ _ _ h => h) hHeld ?_
          simp only [List.drop_succ_cons, List.drop_zero, List.take_succ_cons, List.take_zero]
          repeat (go_big_quiet_step (fail))
          refine wpQuiet_nil ?_
          refine wpAnyH_endN (by kernel_rfl) ?_
          go_wp2_with fail
          go_meet
          exact ⟨false, by simp, fun h => (by cases h), fun _ => ⟨HP1.out, HP2.out, HP3.out, fun p h => by have := HK0.out; omega⟩, B5⟩
        · obtain ⟨p, hp⟩ : ∃ p, L.svcs[k - 1]? = some p := ⟨_, List.getElem?_eq_getElem (by have := HM.out; omega)⟩
          obtain ⟨k', rfl⟩ : ∃ k', k = k' + 1 := ⟨k - 1, by omega⟩
          have hpi : L.svcs[k']? = some p := hp
          obtain ⟨f0, _⟩ := HC.out k' p hpi
          obtain ⟨pa, pc, hpv⟩ := rv_shape f0
          have y0 := World.grownBy.cell (HXA.out.tr HXU.out) (HCB.out k' (by omega) 0 (by omega)) (by simp)
          rw [Nat.add_zero, hpv] at y0
          rw [hpv] at f0
          have z4 := bw_cell y0
          have hcp : ∀ z : BW U, (convert 22 9 (.slice pa p.name.length pc)).run Try.prog z.u = .ok (.string (strOfNums p.name)) z.u := fun z => by
            have h1 := (f0.ext (HXA.out.tr HXU.out)).ext (bw_ext z)
            obtain ⟨a1, c1, e1, r1, _, _⟩ := h1
            cases e1
            exact convR r1 pc
          have hck : ∀ z : BW U, (convert 22 9 (.slice ka kl kc)).run Try.prog z.u = .ok (.string (strOfNums s.name)) z.u := fun z => by
            have h1 := (HNM.out.ext HXU.out).ext (bw_ext z)
            obtain ⟨a1, c1, e1, r1, _, _⟩ := h1
            injection e1 with e1 e2 e3
            subst e1 e2 e3
            exact convR r1 kc
          obtain ⟨b4, K4⟩ : ∃ c, Op.bytesLess (strOfNums p.name).toList (strOfNums s.name).toList = c := ⟨_, rfl⟩
          have HB4 : Hid (b4 = ltK p.name s.name) := K4.symm
          have HPI := hidL hpi
          generalize p.name.length = pn at z4 hcp
          have hw1 : IntKind.i64.wrap ((k' : Int) + 1 - 1) = (k' : Int) := by rw [Int.add_sub_cancel, IntKind.wrap_i64]; have := HMM.out; omega
          have hw2 : IntKind.i64.wrap (k' : Int) = (k' : Int) := by rw [IntKind.wrap_i64]; have := HMM.out; omega
          have hkd : decide ((0 : Int) < (k' : Int) + 1) = true := decide_eq_true (by omega)
          have hkm : (k' : Int) < (m : Int) := by omega
          clear hk0 hp hpi f0 hpv y0
          refine wpAnyH_seg 11 26 0 (by kernel_rfl) (by kernel_rfl) (by kernel_rfl) (by kernel_rfl) (fun _ _ _ _ _ h => h) hHeld ?_
          simp only [List.drop_succ_cons, List.drop_zero, List.take_succ_cons, List.take_zero]
          repeat (go_big_quiet_step (fail))
          refine wpQuiet_nil ?_
          refine wpAnyH_endN (by kernel_rfl) ?_
          go_wp2_with fail
          go_meet
          refine ⟨!b4, by simp, fun h h' => ?_, fun h => ⟨HP1.out, HP2.out, HP3.out, fun q _ hq => ?_⟩, B5⟩
          · have h1 := (HSI.out.1 h').2.2.2.1 p (by omega) HPI.out
            rw [← HB4.out] at h1
            rw [h1] at h
            cases h
          · have h2 : L.svcs[k']? = some q := hq
            rw [HPI.out] at h2
            cases h2
            rw [← HB4.out]
            cases b4
            · cases h
            · rfl
      obtain ⟨bb, rfl, HBT, HBF, HBX⟩ := hcut
      clear z0 z1 z2 z3
      cases bb
      case true =>
        have HK : Hid (R = false) := HF.out (HBT.out rfl)
        have HZ := hidL (HBU.out.trans (HBX.out.mono HBU.out.size))
        clear HF HAA HSI HBT HBF HBX
        go_wp2
        go_ret
        exact ⟨by rw [HK.out]; rfl, HZ.out⟩
      have HHD := hidL (HBF.out rfl)
      clear HBT HBF
      obtain ⟨D, ⟨ca, cc, hD0, q4, q5, q6⟩, hD⟩ := HCK.out
      injection hD0 with e1 e2 e3
      subst e1 e3
      rw [← e2] at q4 q6
      have HD : Hid (∀ i d, s.checks[i]? = some d → RV wr (D i 0) d.name ∧ D i 1 = .int .i64 d.ttl ∧ D i 2 = .int .i64 d.most ∧ D i 3 = .int .i64 d.st ∧ D i 4 = .int .i64 d.age ∧ D i 5 = .int .i64 d.fails) := hD
      have H6 : Hid (0 < cl → ∃ b o, cb = some ⟨b, o, none⟩ ∧ b < wr.heap.size ∧ ∀ i, i < cl → ∀ j, j < 6 → wr.cell? ⟨b, o + i * 6 + j, none⟩ = some (D i j)) := q6
      have HCM : Hid (cl ≤ 1048576) := by show _ ≤ _; rw [e2]; exact HLS.out.2.1
      have hcm : (cl : Int) ≤ 1048576 := by have := HCM.out; omega
      clear e2 q5 q6 hD
      obtain ⟨wo, hwo⟩ : ∃ wo, wo = wr := ⟨_, rfl⟩
      subst hwo
      have PX := below_blk HBX.out (Array.getElem?_eq_some_iff.1 HPU.out).1 HPU.out
      obtain ⟨x0, x1⟩ := cells2L PX
      clear PX
      go_wp2
      go_loopw [5] (fun i wv => ∃ j : Nat, j ≤ cl ∧ i = .int .i64 j ∧ Hid (∀ t, t < j → ChkAt s.checks t) ∧ Hid (Below U.heap.size U wv)) (fun i _ => cl - (intOf i).toNat)
      case atStart => exact ⟨0, Nat.zero_le _, rfl, fun j hj => absurd hj (by omega), HBX.out⟩
      case round =>
        obtain ⟨j, hj, rfl, hdone, hbv⟩ := hrel
        clear x0 x1
        have PX := below_blk hbv.out (Array.getElem?_eq_some_iff.1 HPU.out).1 HPU.out
        obtain ⟨x0, x1⟩ := cells2L PX
        clear PX
        by_cases hjl : j < cl
        · obtain ⟨g, og, rfl, hgl, hgc⟩ := H6.out (by omega)
          obtain ⟨c, hcs⟩ : ∃ c, s.checks[j]? = some c := ⟨_, List.getElem?_eq_getElem (by have := HCL.out; omega)⟩
          obtain ⟨f0, f1, f2, f3, f4, f5⟩ := HD.out j c hcs
          have XV : Ext wo wr := HXU.out.tr (ext_below hbv.out)
          have r0 := f0.ext XV
          obtain ⟨ma, mc, hmv⟩ := rv_shape f0
          have cc0 := World.grownBy.cell XV (hgc j hjl 0 (by omega)) (by simp)
          rw [Nat.add_zero, hmv] at cc0
          rw [hmv] at r0
          have cc1 := World.grownBy.cell XV (hgc j hjl 1 (by omega)) (by simp)
          rw [f1] at cc1
          have cc2 := World.grownBy.cell XV (hgc j hjl 2 (by omega)) (by simp)
          rw [f2] at cc2
          have cc3 := World.grownBy.cell XV (hgc j hjl 3 (by omega)) (by simp)
          rw [f3] at cc3
          have cc4 := World.grownBy.cell XV (hgc j hjl 4 (by omega)) (by simp)
          rw [f4] at cc4
          have cc5 := World.grownBy.cell XV (hgc j hjl 5 (by omega)) (by simp)
          rw [f5] at cc5
          have HCI := hidL (chkAt_iff hcs)
          have HCC := hidL hcs
          have hjl' : (j : Int) < (cl : Int) := by omega
          have HGC := hidL (show ∀ i, i < cl → ∀ j, j < 6 → wo.cell? ⟨g, og + i * 6 + j, none⟩ = some (D i j) from hgc)
          have HXV := hidL XV
          have HRN := hidL r0
          have HNX : Hid (ChkAt s.checks j → ∀ t, t < j + 1 → ChkAt s.checks t) := fun h t ht => by
            by_cases e : t = j
            · subst e; exact h
            · exact hdone.out t (by omega)
          have HFC : Hid (¬ ChkAt s.checks j → R = false) := fun h => HF.out (fun h' => h ((HSI.out.1 h').2.2.2.2 j (by have := HCL.out; omega)))
          clear hgc f0 f1 f2 f3 f4 f5 hmv hcs XV hdone r0
          go_upto_region 12 with fail
          have z0 := bw_cell x0
          have z1 := bw_cell x1
          have y0 := bw_cell cc0
          have y1 := bw_cell cc1
          have y2 := bw_cell cc2
          have y3 := bw_cell cc3
          have y4 := bw_cell cc4
          have y5 := bw_cell cc5
          clear cc0 cc1 cc2 cc3 cc4 cc5 x0 x1
          have nonV := bw_ne wr
          obtain ⟨b1, hb1⟩ : ∃ b1, b1 = chkB c := ⟨_, rfl⟩
          have HB1 := hidL hb1
          have HCO : Hid (∀ V, Ext wr V → Calls Try.prog 38 #[.agg #[.slice ma c.name.length mc, .int .i64 c.ttl, .int .i64 c.most, .int .i64 c.st, .int .i64 c.age, .int .i64 c.fails]] V fun e w' => e = .returned (.bool b1) ∧ Below V.heap.size V w') := fun V e => by
            rw [hb1]
            exact sCheckOkV _ c V ⟨_, rfl, HRN.out.ext e⟩
          clear hb1
          go_cut [100] from 72 to 100 (fun s100 wx => ∃ bb, s100 = .bool bb ∧ Hid (bb = true → ¬ ChkAt s.checks j) ∧ Hid (bb = false → ChkAt s.checks j) ∧ Hid (Below wr.heap.size wr wx))
          case first =>
            cases b1
            case false =>
              have HK : Hid (¬ ChkAt s.checks j) := fun h => by have h1 := (HCI.out.1 h).1; rw [← HB1.out] at h1; cases h1
              refine wp_region_bw (by kernel_rfl) (by kernel_rfl) ?_
              repeat (go_big_quiet_step ((go_at_call 38; exact bw_below (HCO.out _ (bw_ext _)))))
              refine wpQuiet_nil ?_
              rintro _ ⟨z, rfl⟩
              go_wp2_with fail
              go_meet
              exact ⟨true, rfl, fun _ => HK.out, fun h => (by cases h), z.h⟩
            case true =>
              by_cases hj0 : j = 0
              · have hkd : decide ((0 : Int) < (j : Int)) = false := decide_eq_false (by omega)
                have hkn : decide (0 < j) = false := decide_eq_false (by omega)
                have HJ0 := hidL hj0
                clear hj0
                refine wp_region_bw (by kernel_rfl) (by kernel_rfl) ?_
                repeat (go_big_quiet_step ((go_at_call 38; exact bw_below (HCO.out _ (bw_ext _)))))
                refine wpQuiet_nil ?_
                rintro _ ⟨z, rfl⟩
                go_wp2_with fail
                go_meet
                exact ⟨false, by simp, fun h => (by cases h), fun _ => HCI.out.2 ⟨HB1.out.symm, fun p h => by have := HJ0.out; omega⟩, z.h⟩
              · obtain ⟨p, hp⟩ : ∃ p, s.checks[j - 1]? = some p := ⟨_, List.getElem?_eq_getElem (by have := HCL.out; omega)⟩
                obtain ⟨j', rfl⟩ : ∃ j', j = j' + 1 := ⟨j - 1, by omega⟩
                have hpi : s.checks[j']? = some p := hp
                obtain ⟨f0, _⟩ := HD.out j' p hpi
                obtain ⟨pa, pc, hpv⟩ := rv_shape f0
                have y6 := World.grownBy.cell HXV.out (HGC.out j' (by omega) 0 (by omega)) (by simp)
                rw [Nat.add_zero, hpv] at y6
                rw [hpv] at f0
                have y7 := bw_cell y6
                have hcp : ∀ z : BW wr, (convert 22 9 (.slice pa p.name.length pc)).run Try.prog z.u = .ok (.string (strOfNums p.name)) z.u := fun z => by
                  have h1 := (f0.ext HXV.out).ext (bw_ext z)
                  obtain ⟨a1, c1, e1, r1, _, _⟩ := h1
                  cases e1
                  exact convR r1 pc
                have hck : ∀ z : BW wr, (convert 22 9 (.slice ma c.name.length mc)).run Try.prog z.u = .ok (.string (strOfNums c.name)) z.u := fun z => by
                  have h1 := HRN.out.ext (bw_ext z)
                  obtain ⟨a1, c1, e1, r1, _, _⟩ := h1
                  cases e1
                  exact convR r1 mc
                obtain ⟨b4, K4⟩ : ∃ d, Op.bytesLess (strOfNums p.name).toList (strOfNums c.name).toList = d := ⟨_, rfl⟩
                have HB4 : Hid (b4 = ltK p.name c.name) := K4.symm
                have HPI := hidL hpi
                generalize p.name.length = pn at y7 hcp
                generalize c.name.length = cn at y0 hck HCO
                have hw1 : IntKind.i64.wrap ((j' : Int) + 1 - 1) = (j' : Int) := by rw [Int.add_sub_cancel, IntKind.wrap_i64]; omega
                have hw2 : IntKind.i64.wrap (j' : Int) = (j' : Int) := by rw [IntKind.wrap_i64]; omega
                have hkd : decide ((0 : Int) < (j' : Int) + 1) = true := decide_eq_true (by omega)
                have hkm : (j' : Int) < (cl : Int) := by omega
                clear hj0 hp hpi f0 hpv y6
                refine wp_region_bw (by kernel_rfl) (by kernel_rfl) ?_
                repeat (go_big_quiet_step ((go_at_call 38; exact bw_below (HCO.out _ (bw_ext _)))))
                refine wpQuiet_nil ?_
                rintro _ ⟨z, rfl⟩
                go_wp2_with fail
                go_meet
                refine ⟨!b4, by simp, fun h h' => ?_, fun h => HCI.out.2 ⟨HB1.out.symm, fun q _ hq => ?_⟩, z.h⟩
                · have h1 := (HCI.out.1 h').2 p (by omega) HPI.out
                  rw [← HB4.out] at h1
                  rw [h1] at h
                  cases h
                · have h2 : s.checks[j']? = some q := hq
                  rw [HPI.out] at h2
                  cases h2
                  rw [← HB4.out]
                  cases b4
                  · cases h
                  · rfl
          obtain ⟨bb, rfl, HBT, HBF, HBY⟩ := hcut
          clear z0 z1 y0 y1 y2 y3 y4 y5
          have HZ := hidL (hbv.out.trans (HBY.out.mono hbv.out.size))
          cases bb
          · have HK := hidL (HNX.out (HBF.out rfl))
            clear HBT HBF HFC HCI
            go_wp2
            go_roundw
            case rel => exact ⟨j + 1, by omega, by go_num, HK, HZ⟩
            case measure => simp [intOf]; omega
          · have HK : Hid (R = false) := HFC.out (HBT.out rfl)
            have HZ2 := hidL (HBU.out.trans (HZ.out.mono HBU.out.size))
            clear HBT HBF HFC HCI HZ
            go_wp2
            go_ret
            exact ⟨by rw [HK.out]; rfl, HZ2.out⟩
        · have hjl2 : j = cl := by omega
          subst hjl2
          have HK : Hid (∀ t, t < k + 1 → SvcAt L.node L.svcs t) := HAA.out (HSI.out.2 ⟨HHD.out.1, HHD.out.2.1, HHD.out.2.2.1, HHD.out.2.2.2, fun t ht => hdone.out t (by have := HCL.out; omega)⟩)
          have HZ := hidL (hX.out.tr (HXU.out.tr (ext_below hbv.out)))
          clear HF HAA HSI HHD
          go_wp2
          go_roundw
          case rel => exact ⟨k + 1, by omega, by go_num, HK, HZ⟩
          case measure => simp [intOf]; omega
    · have hkm : k = m := by omega
      subst hkm
      have HK : Hid (R = true) := HYE.out ⟨HNB.out, by have := HM.out; omega, fun i hi => hall.out i (by have := HM.out; omega)⟩
      have HZ := hidL (ext_bel (HXW.out.tr hX.out))
      clear H3
      go_wp2
      go_ret
      exact ⟨by rw [HK.out]; rfl, HZ.out⟩

end Go.Proofs.Ytjkhadaoldbceaa
