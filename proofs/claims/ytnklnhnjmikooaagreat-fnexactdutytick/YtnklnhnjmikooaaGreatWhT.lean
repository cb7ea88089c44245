
/- The contract of the specification's WheelOk. -/
import Derived.Test.YtnklnhnjmikooaaGreatWhS
namespace Go.Proofs.YtnklnhnjmikooaaGreat
open Go.RowKit

theorem find_part {ts : List DTim} {k : Nat} {id r : Int} (h : r = placeT (ts.take k) id) : (0 ≤ r → ¬ ∀ (j : Nat) (p : DTim), j < k → ts[j]? = some p → p.id ≠ id) ∧ (¬ 0 ≤ r → ∀ (j : Nat) (p : DTim), j < k → ts[j]? = some p → p.id ≠ id) := by
  rcases placeT_cases (ts.take k) id with ⟨h1, h2⟩ | ⟨i, t, h1, h2, _, h4⟩
  · refine ⟨fun h0 => ?_, fun _ j p hj hp => h2 j p ?_⟩
    · rw [h, h1] at h0; omega
    · rw [List.getElem?_take, if_pos hj]; exact hp
  · rw [List.getElem?_take] at h1
    split at h1
    · rename_i hi
      exact ⟨fun _ hn => hn i t hi h1 h2, fun h0 => absurd (show (0 : Int) ≤ r by rw [h, h4]; omega) h0⟩
    · cases h1

set_option maxHeartbeats 4000000 in
set_option maxRecDepth 20000 in
theorem sWheelOkV (v : Value) (D : DWheel) (w : World) (h : VWheel w v D) :
    Calls Tryz.prog 62 #[v] w fun e w' => e = .returned (.bool (tB (WheelP D))) ∧ Below w.heap.size w w' := by
  have hB : ∀ w : World, ∀ o, Below w.heap.size w (w.alloc o) := fun w o => (Below.refl _ w).alloc (Nat.le_refl _) _
  have HV0 : Hid (VWheel w v D) := h
  obtain ⟨tv, rfl, h⟩ := h
  have HV : Hid (VTims w tv D.tms) := h
  obtain ⟨C, ⟨a, cap, rfl, h1, h2, h3⟩, hC⟩ := h
  have HC : Hid (∀ (i : Nat) (r : DTim), D.tms[i]? = some r → C i 0 = Value.int IntKind.i64 r.id ∧ C i 1 = Value.int IntKind.i64 r.due) := hC
  clear hC
  obtain ⟨n, hn⟩ : ∃ n, n = D.tms.length := ⟨_, rfl⟩
  rw [← hn] at h1 h3 HV HV0 ⊢
  have HN : Hid (n = D.tms.length) := hn
  clear hn
  unfold maxLen at h2
  have H3 : Hid (0 < n → ∃ b o, a = some ⟨b, o, none⟩ ∧ b < w.heap.size ∧ ∀ i, i < n → ∀ j, j < 2 → w.cell? ⟨b, o + i * 2 + j, none⟩ = some (C i j)) := h3
  clear h3
  by_cases g0 : D.now < 0
  · have HK : Hid (tB (WheelP D) = false) := tB_false (fun h => by have := h.1; omega)
    go_enter Tryz.func62, Tryz.ntmps62
    go_wp2
    go_ret
    exact ⟨by rw [HK.out]; rfl, hB _ _⟩
  by_cases g1 : 1000000 < D.now
  · have HK : Hid (tB (WheelP D) = false) := tB_false (fun h => by have := h.1; omega)
    have g0' : decide (D.now < 0) = false := by simpa using g0
    go_enter Tryz.func62, Tryz.ntmps62
    go_wp2
    go_ret
    exact ⟨by rw [HK.out]; rfl, hB _ _⟩
  have g0' : decide (D.now < 0) = false := by simpa using g0
  have g1' : decide (1000000 < D.now) = false := by simpa using g1
  by_cases g2 : (40 : Int) < n
  · have HK : Hid (tB (WheelP D) = false) := tB_false (fun h => by have := h.2.1; have := HN.out; omega)
    go_enter Tryz.func62, Tryz.ntmps62
    go_wp2
    go_ret
    exact ⟨by rw [HK.out]; rfl, hB _ _⟩
  have g2' : decide ((40 : Int) < n) = false := by simpa using g2
  go_enter Tryz.func62, Tryz.ntmps62
  go_wp2
  generalize hW : w.alloc _ = W
  have HW : Hid (Below w.heap.size w W ∧ Ext w W) := by rw [← hW]; exact ⟨hB _ _, World.grownBy_alloc _ _ _⟩
  have HQ0 : Hid (W.cell? ⟨w.heap.size, 0, none⟩ = some (.int .i64 D.now) ∧ W.cell? ⟨w.heap.size, 1, none⟩ = some (.slice a n cap)) := by
    rw [← hW]
    exact ⟨(at_block (heap_alloc_new w _) 0 _ rfl).1, (at_block (heap_alloc_new w _) 1 _ rfl).1⟩
  clear hW g0 g1
  go_loopw [3] (fun i wr => ∃ k : Nat, k ≤ n ∧ i = .int .i64 k ∧ Ext W wr ∧ Below w.heap.size w wr ∧ Hid (∀ j, j < k → TimAt D.now D.tms j)) (fun i _ => n - (intOf i).toNat)
  case atStart => exact ⟨0, Nat.zero_le _, rfl, Ext.re _, HW.out.1, fun j hj => absurd hj (by omega)⟩
  case round =>
    obtain ⟨k, hk, rfl, hx, hb, hall⟩ := hrel
    have q0 := World.grownBy.cell hx HQ0.out.1 (by simp)
    have q1 := World.grownBy.cell hx HQ0.out.2 (by simp)
    by_cases hlt : k < n
    · obtain ⟨b, o, rfl, hbl, hc⟩ := H3.out (by omega)
      obtain ⟨s, hs⟩ : ∃ s, D.tms[k]? = some s := ⟨_, List.getElem?_eq_getElem (by have := HN.out; omega)⟩
      have HS : Hid (D.tms[k]? = some s) := hs
      obtain ⟨e0, e1⟩ := HC.out k s hs
      have X := HW.out.2.tr hx
      have c0 := World.grownBy.cell X (hc k hlt 0 (by omega)) (by simp)
      have c1 := World.grownBy.cell X (hc k hlt 1 (by omega)) (by simp)
      rw [e0, Nat.add_zero] at c0
      rw [e1] at c1
      have hlt' : (k : Int) < (n : Int) := by omega
      have HKF : Hid (¬ TimAt D.now D.tms k → tB (WheelP D) = false) := fun hh => tB_false (fun h => hh (h.2.2 k (by have := HN.out; omega)))
      clear hs e0 e1
      have HCC : Hid (∀ i, i < n → ∀ j, j < 2 → wr.cell? ⟨b, o + i * 2 + j, none⟩ = some (C i j)) := fun i hi j hj => World.grownBy.cell X (hc i hi j hj) (by simp)
      clear hc
      go_wp2_with fail
      generalize hV : wr.alloc _ = V
      have EV : Ext wr V := by rw [← hV]; exact World.grownBy_alloc _ _ _
      have HBV : Hid (Below w.heap.size w V) := by rw [← hV]; exact hb.alloc hb.size _
      have HXV : Hid (Ext W V) := hx.tr EV
      have y0 : V.cell? ⟨wr.heap.size, 0, none⟩ = some (.int .i64 s.id) := by rw [← hV]; exact (at_block (heap_alloc_new wr _) 0 _ rfl).1
      have y1 : V.cell? ⟨wr.heap.size, 1, none⟩ = some (.int .i64 s.due) := by rw [← hV]; exact (at_block (heap_alloc_new wr _) 1 _ rfl).1
      have q0' := World.grownBy.cell EV q0 (by simp)
      have q1' := World.grownBy.cell EV q1 (by simp)
      clear hV
      have zy0 := bw_cell y0
      have zy1 := bw_cell y1
      have zq0 := bw_cell q0'
      have zq1 := bw_cell q1'
      clear y0 y1 q0 q1 c0 c1 q0' q1'
      obtain ⟨r, hr⟩ : ∃ r, r = placeT (D.tms.take k) s.id := ⟨_, rfl⟩
      have HFP : Hid (0 ≤ r → ¬ ∀ (j : Nat) (p : DTim), j < k → D.tms[j]? = some p → p.id ≠ s.id) := (find_part hr).1
      have HFN : Hid (¬ 0 ≤ r → ∀ (j : Nat) (p : DTim), j < k → D.tms[j]? = some p → p.id ≠ s.id) := (find_part hr).2
      have HFI : Hid (∀ z : BW V, Calls Tryz.prog 71 #[.slice (some ⟨b, o, none⟩) k cap, .int .i64 s.id] z.u fun e w' => e = .returned (.int .i64 r) ∧ w' = z.u) := fun z => by
        rw [hr]
        exact sfindV _ _ _ _ (((HV.out.ext X).ext (EV.tr (bw_ext z))).take (by omega))
      clear hr X
      have nonV := bw_ne V
      by_cases hk0 : k = 0
      · as_aux_lemma =>
        have HK00 : Hid (k = 0) := hk0
        subst hk0
        have hkd2 : decide ((0 : Int) < ((0 : Nat) : Int)) = false := decide_eq_false (by omega)
        refine wp_region_bw (by kernel_rfl) (by kernel_rfl) ?_
        repeat (go_big_quiet_step ((first | (go_at_call 93; exact bw_below (HAH.out _)) | (go_at_call 71; exact bw_same (HFI.out _)))))
        cases t1 : decide (s.id < 0)
        case true =>
          repeat (go_big_quiet_step ((first | (go_at_call 93; exact bw_below (HAH.out _)) | (go_at_call 71; exact bw_same (HFI.out _)))))
          refine wpQuiet_nil ?_
          intro _ hw'
          obtain ⟨z, hw''⟩ := hw'
          subst hw''
          have HK : Hid (tB (WheelP D) = false) := HKF.out (fun h => by
            obtain ⟨⟨a1, a2⟩, ⟨a3, a4⟩, a5, a6⟩ := h s HS.out
            have := of_decide_eq_true t1; omega)
          clear HKF hall
          go_wp2
          go_ret
          exact ⟨by rw [HK.out]; rfl, HBV.out.trans (z.h.mono HBV.out.size)⟩
        repeat (go_big_quiet_step ((first | (go_at_call 93; exact bw_below (HAH.out _)) | (go_at_call 71; exact bw_same (HFI.out _)))))
        cases t2 : decide (2147483647 < s.id)
        case true =>
          repeat (go_big_quiet_step ((first | (go_at_call 93; exact bw_below (HAH.out _)) | (go_at_call 71; exact bw_same (HFI.out _)))))
          refine wpQuiet_nil ?_
          intro _ hw'
          obtain ⟨z, hw''⟩ := hw'
          subst hw''
          have HK : Hid (tB (WheelP D) = false) := HKF.out (fun h => by
            obtain ⟨⟨a1, a2⟩, ⟨a3, a4⟩, a5, a6⟩ := h s HS.out
            have := of_decide_eq_true t2; omega)
          clear HKF hall
          go_wp2
          go_ret
          exact ⟨by rw [HK.out]; rfl, HBV.out.trans (z.h.mono HBV.out.size)⟩
        repeat (go_big_quiet_step ((first | (go_at_call 93; exact bw_below (HAH.out _)) | (go_at_call 71; exact bw_same (HFI.out _)))))
        cases t3 : decide (s.due ≤ D.now)
        case true =>
          repeat (go_big_quiet_step ((first | (go_at_call 93; exact bw_below (HAH.out _)) | (go_at_call 71; exact bw_same (HFI.out _)))))
          refine wpQuiet_nil ?_
          intro _ hw'
          obtain ⟨z, hw''⟩ := hw'
          subst hw''
          have HK : Hid (tB (WheelP D) = false) := HKF.out (fun h => by
            obtain ⟨⟨a1, a2⟩, ⟨a3, a4⟩, a5, a6⟩ := h s HS.out
            have := of_decide_eq_true t3; omega)
          clear HKF hall
          go_wp2
          go_ret
          exact ⟨by rw [HK.out]; rfl, HBV.out.trans (z.h.mono HBV.out.size)⟩
        repeat (go_big_quiet_step ((first | (go_at_call 93; exact bw_below (HAH.out _)) | (go_at_call 71; exact bw_same (HFI.out _)))))
        cases t4 : decide (2000000 < s.due)
        case true =>
          repeat (go_big_quiet_step ((first | (go_at_call 93; exact bw_below (HAH.out _)) | (go_at_call 71; exact bw_same (HFI.out _)))))
          refine wpQuiet_nil ?_
          intro _ hw'
          obtain ⟨z, hw''⟩ := hw'
          subst hw''
          have HK : Hid (tB (WheelP D) = false) := HKF.out (fun h => by
            obtain ⟨⟨a1, a2⟩, ⟨a3, a4⟩, a5, a6⟩ := h s HS.out
            have := of_decide_eq_true t4; omega)
          clear HKF hall
          go_wp2
          go_ret
          exact ⟨by rw [HK.out]; rfl, HBV.out.trans (z.h.mono HBV.out.size)⟩
        repeat (go_big_quiet_step ((first | (go_at_call 93; exact bw_below (HAH.out _)) | (go_at_call 71; exact bw_same (HFI.out _)))))
        cases t6 : decide (0 ≤ r)
        case true =>
          repeat (go_big_quiet_step ((first | (go_at_call 93; exact bw_below (HAH.out _)) | (go_at_call 71; exact bw_same (HFI.out _)))))
          refine wpQuiet_nil ?_
          intro _ hw'
          obtain ⟨z, hw''⟩ := hw'
          subst hw''
          have HK : Hid (tB (WheelP D) = false) := HKF.out (fun h => by
            obtain ⟨⟨a1, a2⟩, ⟨a3, a4⟩, a5, a6⟩ := h s HS.out
            have h0 := of_decide_eq_true t6
            exact HFP.out h0 a6)
          clear HKF hall
          go_wp2
          go_ret
          exact ⟨by rw [HK.out]; rfl, HBV.out.trans (z.h.mono HBV.out.size)⟩
        repeat (go_big_quiet_step ((first | (go_at_call 93; exact bw_below (HAH.out _)) | (go_at_call 71; exact bw_same (HFI.out _)))))
        refine wpQuiet_nil ?_
        intro _ hw'
        obtain ⟨z, hw''⟩ := hw'
        subst hw''
        have HA : Hid (∀ j, j < 0 + 1 → TimAt D.now D.tms j) := fun j hj => by
          by_cases e : j = 0
          · subst e
            intro s' hs'
            rw [HS.out] at hs'
            cases hs'
            have := of_decide_eq_false t1
            have := of_decide_eq_false t2
            have := of_decide_eq_false t3
            have := of_decide_eq_false t4
            have h6 := of_decide_eq_false t6
            refine ⟨⟨by omega, by omega⟩, ⟨by omega, by omega⟩, fun p' hp0 hp' => ?_, HFN.out h6⟩
            exact absurd hp0 (by have := HK00.out; omega)
          · exact hall.out j (by omega)
        clear HKF hall
        have HX : Hid (Ext W z.u) := HXV.out.tr (ext_below z.h)
        have HBZ : Hid (Below w.heap.size w z.u) := HBV.out.trans (z.h.mono HBV.out.size)
        go_wp2
        go_roundw
        case rel => exact ⟨0 + 1, by omega, by go_num, HX.out, HBZ.out, HA⟩
        case measure => simp [intOf]; omega
      as_aux_lemma =>
      obtain ⟨k', hkk⟩ : ∃ k', k = k' + 1 := ⟨k - 1, by omega⟩
      subst hkk
      obtain ⟨p, hpr⟩ : ∃ p, D.tms[k']? = some p := ⟨_, List.getElem?_eq_getElem (by have := HN.out; omega)⟩
      have HPR : Hid (D.tms[k' + 1 - 1]? = some p) := by rw [Nat.add_sub_cancel]; exact hpr
      have p0 := World.grownBy.cell EV (HCC.out k' (by omega) 0 (by omega)) (by simp)
      have p1 := World.grownBy.cell EV (HCC.out k' (by omega) 1 (by omega)) (by simp)
      rw [(HC.out k' p hpr).1, Nat.add_zero] at p0
      rw [(HC.out k' p hpr).2] at p1
      have zp0 := bw_cell p0
      have zp1 := bw_cell p1
      obtain ⟨b1, K1⟩ : ∃ c, aheadB p s = c := ⟨_, rfl⟩
      have HAH : Hid (∀ z : BW V, Calls Tryz.prog 93 #[.agg #[.int .i64 p.id, .int .i64 p.due], .agg #[.int .i64 s.id, .int .i64 s.due]] z.u fun e w' => e = .returned (.bool b1) ∧ Below z.u.heap.size z.u w') := fun z => by
        rw [← K1]
        exact saheadV _ _ _
      have hk1 : (k' : Int) < (n : Int) := by omega
      have hk2 : (0 : Int) ≤ (k' : Int) := by omega
      have hw1 : IntKind.i64.wrap ((k' : Int) + 1 - 1) = (k' : Int) := by rw [Int.add_sub_cancel, IntKind.wrap_i64]; omega
      have hw2 : IntKind.i64.wrap (k' : Int) = (k' : Int) := by rw [IntKind.wrap_i64]; omega
      have hkd : decide ((0 : Int) < (k' : Int) + 1) = true := decide_eq_true (by omega)
      clear hk0 hpr p0 p1
      refine wp_region_bw (by kernel_rfl) (by kernel_rfl) ?_
      repeat (go_big_quiet_step ((first | (go_at_call 93; exact bw_below (HAH.out _)) | (go_at_call 71; exact bw_same (HFI.out _)))))
      cases t1 : decide (s.id < 0)
      case true =>
        repeat (go_big_quiet_step ((first | (go_at_call 93; exact bw_below (HAH.out _)) | (go_at_call 71; exact bw_same (HFI.out _)))))
        refine wpQuiet_nil ?_
        intro _ hw'
        obtain ⟨z, hw''⟩ := hw'
        subst hw''
        have HK : Hid (tB (WheelP D) = false) := HKF.out (fun h => by
          obtain ⟨⟨a1, a2⟩, ⟨a3, a4⟩, a5, a6⟩ := h s HS.out
          have := of_decide_eq_true t1; omega)
        clear HKF hall
        go_wp2
        go_ret
        exact ⟨by rw [HK.out]; rfl, HBV.out.trans (z.h.mono HBV.out.size)⟩
      repeat (go_big_quiet_step ((first | (go_at_call 93; exact bw_below (HAH.out _)) | (go_at_call 71; exact bw_same (HFI.out _)))))
      cases t2 : decide (2147483647 < s.id)
      case true =>
        repeat (go_big_quiet_step ((first | (go_at_call 93; exact bw_below (HAH.out _)) | (go_at_call 71; exact bw_same (HFI.out _)))))
        refine wpQuiet_nil ?_
        intro _ hw'
        obtain ⟨z, hw''⟩ := hw'
        subst hw''
        have HK : Hid (tB (WheelP D) = false) := HKF.out (fun h => by
          obtain ⟨⟨a1, a2⟩, ⟨a3, a4⟩, a5, a6⟩ := h s HS.out
          have := of_decide_eq_true t2; omega)
        clear HKF hall
        go_wp2
        go_ret
        exact ⟨by rw [HK.out]; rfl, HBV.out.trans (z.h.mono HBV.out.size)⟩
      repeat (go_big_quiet_step ((first | (go_at_call 93; exact bw_below (HAH.out _)) | (go_at_call 71; exact bw_same (HFI.out _)))))
      cases t3 : decide (s.due ≤ D.now)
      case true =>
        repeat (go_big_quiet_step ((first | (go_at_call 93; exact bw_below (HAH.out _)) | (go_at_call 71; exact bw_same (HFI.out _)))))
        refine wpQuiet_nil ?_
        intro _ hw'
        obtain ⟨z, hw''⟩ := hw'
        subst hw''
        have HK : Hid (tB (WheelP D) = false) := HKF.out (fun h => by
          obtain ⟨⟨a1, a2⟩, ⟨a3, a4⟩, a5, a6⟩ := h s HS.out
          have := of_decide_eq_true t3; omega)
        clear HKF hall
        go_wp2
        go_ret
        exact ⟨by rw [HK.out]; rfl, HBV.out.trans (z.h.mono HBV.out.size)⟩
      repeat (go_big_quiet_step ((first | (go_at_call 93; exact bw_below (HAH.out _)) | (go_at_call 71; exact bw_same (HFI.out _)))))
      cases t4 : decide (2000000 < s.due)
      case true =>
        repeat (go_big_quiet_step ((first | (go_at_call 93; exact bw_below (HAH.out _)) | (go_at_call 71; exact bw_same (HFI.out _)))))
        refine wpQuiet_nil ?_
        intro _ hw'
        obtain ⟨z, hw''⟩ := hw'
        subst hw''
        have HK : Hid (tB (WheelP D) = false) := HKF.out (fun h => by
          obtain ⟨⟨a1, a2⟩, ⟨a3, a4⟩, a5, a6⟩ := h s HS.out
          have := of_decide_eq_true t4; omega)
        clear HKF hall
        go_wp2
        go_ret
        exact ⟨by rw [HK.out]; rfl, HBV.out.trans (z.h.mono HBV.out.size)⟩
      repeat (go_big_quiet_step ((first | (go_at_call 93; exact bw_below (HAH.out _)) | (go_at_call 71; exact bw_same (HFI.out _)))))
      cases b1
      case false =>
        simp only [Bool.not_false]
        repeat (go_big_quiet_step ((first | (go_at_call 93; exact bw_below (HAH.out _)) | (go_at_call 71; exact bw_same (HFI.out _)))))
        refine wpQuiet_nil ?_
        intro _ hw'
        obtain ⟨z, hw''⟩ := hw'
        subst hw''
        have HK : Hid (tB (WheelP D) = false) := HKF.out (fun h => by
          obtain ⟨⟨a1, a2⟩, ⟨a3, a4⟩, a5, a6⟩ := h s HS.out
          have hh := a5 p (by omega) HPR.out
          rw [K1] at hh
          cases hh)
        clear HKF hall
        go_wp2
        go_ret
        exact ⟨by rw [HK.out]; rfl, HBV.out.trans (z.h.mono HBV.out.size)⟩
      simp only [Bool.not_true]
      repeat (go_big_quiet_step ((first | (go_at_call 93; exact bw_below (HAH.out _)) | (go_at_call 71; exact bw_same (HFI.out _)))))
      cases t6 : decide (0 ≤ r)
      case true =>
        repeat (go_big_quiet_step ((first | (go_at_call 93; exact bw_below (HAH.out _)) | (go_at_call 71; exact bw_same (HFI.out _)))))
        refine wpQuiet_nil ?_
        intro _ hw'
        obtain ⟨z, hw''⟩ := hw'
        subst hw''
        have HK : Hid (tB (WheelP D) = false) := HKF.out (fun h => by
          obtain ⟨⟨a1, a2⟩, ⟨a3, a4⟩, a5, a6⟩ := h s HS.out
          have h0 := of_decide_eq_true t6
          exact HFP.out h0 a6)
        clear HKF hall
        go_wp2
        go_ret
        exact ⟨by rw [HK.out]; rfl, HBV.out.trans (z.h.mono HBV.out.size)⟩
      repeat (go_big_quiet_step ((first | (go_at_call 93; exact bw_below (HAH.out _)) | (go_at_call 71; exact bw_same (HFI.out _)))))
      refine wpQuiet_nil ?_
      intro _ hw'
      obtain ⟨z, hw''⟩ := hw'
      subst hw''
      have HA : Hid (∀ j, j < (k' + 1) + 1 → TimAt D.now D.tms j) := fun j hj => by
        by_cases e : j = (k' + 1)
        · subst e
          intro s' hs'
          rw [HS.out] at hs'
          cases hs'
          have := of_decide_eq_false t1
          have := of_decide_eq_false t2
          have := of_decide_eq_false t3
          have := of_decide_eq_false t4
          have h6 := of_decide_eq_false t6
          refine ⟨⟨by omega, by omega⟩, ⟨by omega, by omega⟩, fun p' hp0 hp' => ?_, HFN.out h6⟩
          rw [HPR.out] at hp'; cases hp'; exact K1
        · exact hall.out j (by omega)
      clear HKF hall
      have HX : Hid (Ext W z.u) := HXV.out.tr (ext_below z.h)
      have HBZ : Hid (Below w.heap.size w z.u) := HBV.out.trans (z.h.mono HBV.out.size)
      go_wp2
      go_roundw
      case rel => exact ⟨(k' + 1) + 1, by omega, by go_num, HX.out, HBZ.out, HA⟩
      case measure => simp [intOf]; omega
    · have hkn : k = n := by omega
      subst hkn
      have HK : Hid (tB (WheelP D) = true) := tB_true ⟨by have := of_decide_eq_false g0'; have := of_decide_eq_false g1'; omega, by have := of_decide_eq_false g2'; have := HN.out; omega, fun i hi => hall.out i (by have := HN.out; omega)⟩
      clear hall
      go_wp2
      go_ret
      exact ⟨by rw [HK.out]; rfl, hb⟩

end Go.Proofs.YtnklnhnjmikooaaGreat
