/- The specification's MsgOk behind a good head. -/
import Derived.Test.YtplgnohncdfgcalMsC0
import Derived.Test.YtplgnohncdfgcalMsP
import Derived.Test.YtplgnohncdfgcalQB
namespace Go.Proofs.Ytplgnohncdfgcal
open Go.RowKit
set_option linter.unusedSimpArgs false in
set_option maxHeartbeats 40000000 in
set_option maxRecDepth 100000 in
theorem sMsgA (M : DMsg) (v : Value) (w : World) (h : VMsg w v M) (hg : MHeadP M) (hz0 : (M.prev == 0) = (M.prevTerm == 0)) :
    Calls Try.prog 23 #[v] w fun e w' => e = .returned (.bool (tB (MsgP M))) ∧ Below w.heap.size w w' := by
  have hE : ∀ w : World, ∀ o, Ext w (w.alloc o) := fun w o => World.grownBy_alloc _ _ _
  have hB : ∀ w : World, ∀ o, Below w.heap.size w (w.alloc o) := fun w o => (Below.refl _ w).alloc (Nat.le_refl _) _
  obtain ⟨iv, rfl, hi⟩ := h
  obtain ⟨C, ⟨a, cap, rfl, h1, h2, h3⟩, hC⟩ := hi
  have HC : Hid (∀ i d, M.items[i]? = some d → C i 0 = .int .i64 d.term ∧ C i 1 = .int .i64 d.cmd.client ∧ C i 2 = .int .i64 d.cmd.req ∧ C i 3 = .int .i64 d.cmd.op.kind ∧ RV w (C i 4) d.cmd.op.key ∧ RV w (C i 5) d.cmd.op.val ∧ C i 6 = .int .i64 d.cmd.op.n) := hC
  clear hC
  unfold maxLen at h2
  have HG : Hid (MHeadP M) := hg
  have HZ : Hid (MZeroP M) := .inr (.inr (by constructor <;> intro e <;> simp_all))
  obtain ⟨⟨q1, q2⟩, ⟨q3, q4⟩, ⟨q5, q6⟩, hg5, ⟨q7, q8⟩, ⟨hp81, hp82⟩, ⟨q9, q10⟩, q11, ⟨q12, q13⟩, q14, q15⟩ := hg
  have HX : Hid (∀ p : Int, 0 ≤ p → p ≤ 400 → IntKind.i64.wrap (400 - p) = 400 - p) := fun p h1 h2 => by rw [IntKind.wrap_i64]; omega
  obtain ⟨n, hn⟩ : ∃ n, n = M.items.length := ⟨_, rfl⟩
  rw [← hn] at h1 h3 q14 q15 ⊢
  have HN : Hid (n = M.items.length) := hn
  clear hn
  have H3 : Hid (0 < n → ∃ b o, a = some ⟨b, o, none⟩ ∧ b < w.heap.size ∧ ∀ i, i < n → ∀ j, j < 7 → w.cell? ⟨b, o + i * 7 + j, none⟩ = some (C i j)) := h3
  clear h3
  have f1 : decide (M.kind < 0) = false := by simp; omega
  have f2 : decide (3 < M.kind) = false := by simp; omega
  have f3 : (decide (0 ≤ M.from_) && decide (M.from_ < 5)) = true := by simp; omega
  have f4 : (decide (0 ≤ M.to) && decide (M.to < 5)) = true := by simp; omega
  have f5 : (M.from_ == M.to) = false := by simpa using hg5
  have f6 : decide (M.term < 1) = false := by simp; omega
  have f7 : (decide (0 ≤ M.term) && decide (M.term ≤ 100000)) = true := by simp; omega
  have f8 : (decide (0 ≤ M.prev) && decide (M.prev ≤ 400)) = true := by simp; omega
  have f9 : (decide (0 ≤ M.prevTerm) && decide (M.prevTerm ≤ 100000)) = true := by simp; omega
  have f10 : decide (M.term < M.prevTerm) = false := by simp; omega
  have f11 : (decide (0 ≤ M.commit) && decide (M.commit ≤ 400)) = true := by simp; omega
  have f12 : decide (4 < (n : Int)) = false := by simp; omega
  have f13 : decide (400 - M.prev < (n : Int)) = false := by simp; omega
  have hn4 : n ≤ 4 := q14
  clear q1 q2 q3 q4 q5 q6 hg5 q7 q8 q9 q10 q11 q12 q13 q14 q15
  go_enter Try.func23, Try.ntmps23
  go_wp2_with (first
      | (go_at_call 66; refine (l3serverV _ _).mono ?_; rintro e wq ⟨rfl, rfl⟩; first | rw [f3] | rw [f4])
      | (go_at_call 67; refine (l3termV _ _).mono ?_; rintro e wq ⟨rfl, rfl⟩; first | rw [f7] | rw [f9])
      | (go_at_call 68; refine (l3placeV _ _).mono ?_; rintro e wq ⟨rfl, rfl⟩; first | rw [f8] | rw [f11]))
  clear f1 f2 f3 f4 f5 f6 f7 f8 f9 f10 f11 f12 f13 hz0
  generalize hW : w.alloc _ = W
  have HW : Hid (Below w.heap.size w W ∧ Ext w W) := by rw [← hW]; exact ⟨hB _ _, hE _ _⟩
  have HQ : Hid (W.cell? ⟨w.heap.size, 3, none⟩ = some (.int .i64 M.term) ∧ W.cell? ⟨w.heap.size, 5, none⟩ = some (.int .i64 M.prevTerm) ∧ W.cell? ⟨w.heap.size, 6, none⟩ = some (.slice a n cap)) := by
    rw [← hW]
    exact ⟨(at_block (heap_alloc_new w _) 3 _ rfl).1, (at_block (heap_alloc_new w _) 5 _ rfl).1, (at_block (heap_alloc_new w _) 6 _ rfl).1⟩
  have HQT : Hid (W.cell? ⟨w.heap.size, 0, none⟩ = some (.int .i64 M.kind) ∧ W.cell? ⟨w.heap.size, 4, none⟩ = some (.int .i64 M.prev) ∧ W.cell? ⟨w.heap.size, 5, none⟩ = some (.int .i64 M.prevTerm) ∧ W.cell? ⟨w.heap.size, 6, none⟩ = some (.slice a n cap) ∧ W.cell? ⟨w.heap.size, 7, none⟩ = some (.int .i64 M.commit) ∧ W.cell? ⟨w.heap.size, 8, none⟩ = some (.bool M.yes)) := by
    rw [← hW]
    exact ⟨(at_block (heap_alloc_new w _) 0 _ rfl).1, (at_block (heap_alloc_new w _) 4 _ rfl).1, (at_block (heap_alloc_new w _) 5 _ rfl).1, (at_block (heap_alloc_new w _) 6 _ rfl).1, (at_block (heap_alloc_new w _) 7 _ rfl).1, (at_block (heap_alloc_new w _) 8 _ rfl).1⟩
  have HKF0 : Hid (∀ k, k < n → ¬ MItemAt M k → tB (MsgP M) = false) := fun k hk h => tB_false (fun h' => h (h'.2.2.1 k (by have := HN.out; omega)))
  clear hW
  go_loopw [3] (fun i wr => ∃ k : Nat, k ≤ n ∧ i = .int .i64 k ∧ Ext W wr ∧ Below w.heap.size w wr ∧ Hid (∀ j, j < k → MItemAt M j)) (fun i _ => n - (intOf i).toNat)
  case atStart => exact ⟨0, Nat.zero_le _, rfl, Ext.re _, HW.out.1, fun j hj => absurd hj (by omega)⟩
  case round =>
    obtain ⟨k, hk, rfl, hx, hb, hall⟩ := hrel
    by_cases hlt : k < n
    · obtain ⟨b, o, rfl, hbl, hc⟩ := H3.out (by omega)
      obtain ⟨s, hs⟩ : ∃ s, M.items[k]? = some s := ⟨_, List.getElem?_eq_getElem (by have := HN.out; omega)⟩
      have HS : Hid (M.items[k]? = some s) := hs
      obtain ⟨e0, e1, e2, e3, e4, e5, e6⟩ := HC.out k s hs
      have X := HW.out.2.tr hx
      obtain ⟨Q3, Q5, Q6⟩ := HQ.out
      have j6 := World.grownBy.cell hx Q6 (by simp)
      have s3 := bw_cell (World.grownBy.cell hx Q3 (by simp))
      have s5 := bw_cell (World.grownBy.cell hx Q5 (by simp))
      have s6 := bw_cell (World.grownBy.cell hx Q6 (by simp))
      clear Q3 Q5 Q6
      have HKC : Hid (∀ i, i < n → wr.cell? ⟨b, o + i * 7, none⟩ = some (C i 0)) := fun i hi => World.grownBy.cell X (hc i hi 0 (by omega)) (by simp)
      have c0 := bw_cell (World.grownBy.cell X (hc k hlt 0 (by omega)) (by simp))
      rw [Nat.add_zero, e0] at c0
      have c1 := bw_cell (World.grownBy.cell X (hc k hlt 1 (by omega)) (by simp))
      rw [e1] at c1
      have c2 := bw_cell (World.grownBy.cell X (hc k hlt 2 (by omega)) (by simp))
      rw [e2] at c2
      have c3 := bw_cell (World.grownBy.cell X (hc k hlt 3 (by omega)) (by simp))
      rw [e3] at c3
      have c4 := bw_cell (World.grownBy.cell X (hc k hlt 4 (by omega)) (by simp))
      have cr4 := e4.ext X
      obtain ⟨ca4, cp4, cx4, _, _, _⟩ := e4
      rw [cx4] at cr4 c4
      have c5 := bw_cell (World.grownBy.cell X (hc k hlt 5 (by omega)) (by simp))
      have cr5 := e5.ext X
      obtain ⟨ca5, cp5, cx5, _, _, _⟩ := e5
      rw [cx5] at cr5 c5
      have c6 := bw_cell (World.grownBy.cell X (hc k hlt 6 (by omega)) (by simp))
      rw [e6] at c6
      have hlt' : (k : Int) < (n : Int) := by omega
      have HKF : Hid (¬ MItemAt M k → tB (MsgP M) = false) := HKF0.out k hlt
      obtain ⟨b1, K1⟩ : ∃ c, itemB s = c := ⟨_, rfl⟩
      have HIO : Hid (∀ z : BW wr, Calls Try.prog 18 #[.agg #[.int .i64 s.term, .int .i64 s.cmd.client, .int .i64 s.cmd.req, .int .i64 s.cmd.op.kind, .slice ca4 s.cmd.op.key.length cp4, .slice ca5 s.cmd.op.val.length cp5, .int .i64 s.cmd.op.n]] z.u fun e w' => e = .returned (.bool b1) ∧ Below z.u.heap.size z.u w') := fun z => by
        rw [← K1]
        exact itemOkV _ s _ ⟨_, _, rfl, cr4.ext (bw_ext z), cr5.ext (bw_ext z)⟩
      clear hc cr4 cr5 hs X cx4 cx5 e0 e1 e2 e3 e6
      by_cases hk0 : k = 0
      · have HK00 : Hid (k = 0) := hk0
        have hkd : decide (0 < k) = false := by simp; omega
        have hkd2 : decide ((0 : Int) < (k : Int)) = false := decide_eq_false (by omega)
        clear hk0
        have nonV := bw_ne wr
        go_wp2
        refine wp_region_bw (by kernel_rfl) (by kernel_rfl) ?_
        repeat (go_big_quiet_step ((go_at_call 18; exact bw_below (HIO.out _))))
        cases b1
        case false =>
          simp only [Bool.not_false]
          repeat (go_big_quiet_step ((go_at_call 18; exact bw_below (HIO.out _))))
          refine wpQuiet_nil ?_
          intro _ hw'
          obtain ⟨z, hw''⟩ := hw'
          subst hw''
          have HK : Hid (tB (MsgP M) = false) := HKF.out (fun h => by
            obtain ⟨a1, a2, a3, a4⟩ := h s HS.out
            rw [K1] at a1; cases a1
            )
          clear HKF hall
          go_wp2
          go_ret
          exact ⟨by rw [HK.out]; rfl, hb.trans (z.h.mono hb.size)⟩
        simp only [Bool.not_true]
        repeat (go_big_quiet_step ((go_at_call 18; exact bw_below (HIO.out _))))
        cases t1 : decide (M.term < s.term)
        case true =>
          repeat (go_big_quiet_step ((go_at_call 18; exact bw_below (HIO.out _))))
          refine wpQuiet_nil ?_
          intro _ hw'
          obtain ⟨z, hw''⟩ := hw'
          subst hw''
          have HK : Hid (tB (MsgP M) = false) := HKF.out (fun h => by
            obtain ⟨a1, a2, a3, a4⟩ := h s HS.out
            have := of_decide_eq_true t1; omega
            )
          clear HKF hall
          go_wp2
          go_ret
          exact ⟨by rw [HK.out]; rfl, hb.trans (z.h.mono hb.size)⟩
        repeat (go_big_quiet_step ((go_at_call 18; exact bw_below (HIO.out _))))
        cases t3 : decide (s.term < M.prevTerm)
        case true =>
          repeat (go_big_quiet_step ((go_at_call 18; exact bw_below (HIO.out _))))
          refine wpQuiet_nil ?_
          intro _ hw'
          obtain ⟨z, hw''⟩ := hw'
          subst hw''
          have HK : Hid (tB (MsgP M) = false) := HKF.out (fun h => by
            obtain ⟨a1, a2, a3, a4⟩ := h s HS.out
            have := of_decide_eq_true t3; omega
            )
          clear HKF hall
          go_wp2
          go_ret
          exact ⟨by rw [HK.out]; rfl, hb.trans (z.h.mono hb.size)⟩
        repeat (go_big_quiet_step ((go_at_call 18; exact bw_below (HIO.out _))))
        refine wpQuiet_nil ?_
        intro _ hw'
        obtain ⟨z, hw''⟩ := hw'
        subst hw''
        have HA : Hid (∀ j, j < k + 1 → MItemAt M j) := fun j hj => by
          by_cases e : j = k
          · subst e
            intro d hd
            rw [HS.out] at hd
            cases hd
            exact ⟨K1, by have := of_decide_eq_false t1; omega, fun p h0 => absurd h0 (by have := HK00.out; omega), by have := of_decide_eq_false t3; omega⟩
          · exact hall.out j (by omega)
        clear HKF hall
        go_wp2
        go_roundw
        case rel => exact ⟨k + 1, by omega, by go_num, hx.tr (bw_ext z), hb.trans (z.h.mono hb.size), HA⟩
        case measure => simp [intOf]; omega
      · obtain ⟨k', rfl⟩ : ∃ k', k = k' + 1 := ⟨k - 1, by omega⟩
        obtain ⟨p, hpr⟩ : ∃ p, M.items[k']? = some p := ⟨_, List.getElem?_eq_getElem (by have := HN.out; omega)⟩
        have HPR : Hid (M.items[k']? = some p) := hpr
        have y1 := bw_cell (HKC.out k' (by omega))
        rw [(HC.out k' p hpr).1] at y1
        have hk1 : (k' : Int) < (n : Int) := by omega
        have hk2 : (0 : Int) ≤ (k' : Int) := by omega
        have hw1 : IntKind.i64.wrap ((k' : Int) + 1 - 1) = (k' : Int) := by rw [Int.add_sub_cancel, IntKind.wrap_i64]; omega
        have hw2 : IntKind.i64.wrap (k' : Int) = (k' : Int) := by rw [IntKind.wrap_i64]; omega
        have hkd : decide ((0 : Int) < (k' : Int) + 1) = true := decide_eq_true (by omega)
        clear hk0 hpr
        have nonV := bw_ne wr
        go_wp2
        refine wp_region_bw (by kernel_rfl) (by kernel_rfl) ?_
        repeat (go_big_quiet_step ((go_at_call 18; exact bw_below (HIO.out _))))
        cases b1
        case false =>
          simp only [Bool.not_false]
          repeat (go_big_quiet_step ((go_at_call 18; exact bw_below (HIO.out _))))
          refine wpQuiet_nil ?_
          intro _ hw'
          obtain ⟨z, hw''⟩ := hw'
          subst hw''
          have HK : Hid (tB (MsgP M) = false) := HKF.out (fun h => by
            obtain ⟨a1, a2, a3, a4⟩ := h s HS.out
            rw [K1] at a1; cases a1
            )
          clear HKF hall
          go_wp2
          go_ret
          exact ⟨by rw [HK.out]; rfl, hb.trans (z.h.mono hb.size)⟩
        simp only [Bool.not_true]
        repeat (go_big_quiet_step ((go_at_call 18; exact bw_below (HIO.out _))))
        cases t1 : decide (M.term < s.term)
        case true =>
          repeat (go_big_quiet_step ((go_at_call 18; exact bw_below (HIO.out _))))
          refine wpQuiet_nil ?_
          intro _ hw'
          obtain ⟨z, hw''⟩ := hw'
          subst hw''
          have HK : Hid (tB (MsgP M) = false) := HKF.out (fun h => by
            obtain ⟨a1, a2, a3, a4⟩ := h s HS.out
            have := of_decide_eq_true t1; omega
            )
          clear HKF hall
          go_wp2
          go_ret
          exact ⟨by rw [HK.out]; rfl, hb.trans (z.h.mono hb.size)⟩
        repeat (go_big_quiet_step ((go_at_call 18; exact bw_below (HIO.out _))))
        cases t2 : decide (s.term < p.term)
        case true =>
          repeat (go_big_quiet_step ((go_at_call 18; exact bw_below (HIO.out _))))
          refine wpQuiet_nil ?_
          intro _ hw'
          obtain ⟨z, hw''⟩ := hw'
          subst hw''
          have HK : Hid (tB (MsgP M) = false) := HKF.out (fun h => by
            obtain ⟨a1, a2, a3, a4⟩ := h s HS.out
            have := of_decide_eq_true t2
            have := a3 p (by omega) (by simpa using HPR.out)
            omega
            )
          clear HKF hall
          go_wp2
          go_ret
          exact ⟨by rw [HK.out]; rfl, hb.trans (z.h.mono hb.size)⟩
        repeat (go_big_quiet_step ((go_at_call 18; exact bw_below (HIO.out _))))
        cases t3 : decide (s.term < M.prevTerm)
        case true =>
          repeat (go_big_quiet_step ((go_at_call 18; exact bw_below (HIO.out _))))
          refine wpQuiet_nil ?_
          intro _ hw'
          obtain ⟨z, hw''⟩ := hw'
          subst hw''
          have HK : Hid (tB (MsgP M) = false) := HKF.out (fun h => by
            obtain ⟨a1, a2, a3, a4⟩ := h s HS.out
            have := of_decide_eq_true t3; omega
            )
          clear HKF hall
          go_wp2
          go_ret
          exact ⟨by rw [HK.out]; rfl, hb.trans (z.h.mono hb.size)⟩
        repeat (go_big_quiet_step ((go_at_call 18; exact bw_below (HIO.out _))))
        refine wpQuiet_nil ?_
        intro _ hw'
        obtain ⟨z, hw''⟩ := hw'
        subst hw''
        have HA : Hid (∀ j, j < k' + 1 + 1 → MItemAt M j) := fun j hj => by
          by_cases e : j = k' + 1
          · subst e
            intro d hd
            rw [HS.out] at hd
            cases hd
            exact ⟨K1, by have := of_decide_eq_false t1; omega, fun p' _ hp' => by
              rw [Nat.add_sub_cancel, HPR.out] at hp'
              cases hp'
              have := of_decide_eq_false t2
              omega, by have := of_decide_eq_false t3; omega⟩
          · exact hall.out j (by omega)
        clear HKF hall
        go_wp2
        go_roundw
        case rel => exact ⟨k' + 1 + 1, by omega, by go_num, hx.tr (bw_ext z), hb.trans (z.h.mono hb.size), HA⟩
        case measure => simp [intOf]; omega
    · have hkn : k = n := by omega
      subst hkn
      obtain ⟨Q0, Q4, Q5, Q6, Q7, Q8⟩ := HQT.out
      have i0 := World.grownBy.cell hx Q0 (by simp)
      have i4 := World.grownBy.cell hx Q4 (by simp)
      have i5 := World.grownBy.cell hx Q5 (by simp)
      have i6 := World.grownBy.cell hx Q6 (by simp)
      have i7 := World.grownBy.cell hx Q7 (by simp)
      have i8 := World.grownBy.cell hx Q8 (by simp)
      clear Q0 Q4 Q5 Q6 Q7 Q8
      have HTL : Hid (MsgP M ↔ MTailP M) := ⟨fun h => h.2.2.2, fun h => ⟨HG.out, HZ.out, fun i hi => hall.out i (by have := HN.out; omega), h⟩⟩
      clear hall
      obtain ⟨kd, hkd⟩ : ∃ kd, kd = M.kind := ⟨_, rfl⟩
      have HKD : Hid (kd = M.kind) := hkd
      have hkr : 0 ≤ kd ∧ kd ≤ 3 := by rw [hkd]; exact HG.out.1
      rw [← hkd] at i0
      clear hkd
      by_cases z0 : kd = 0
      · subst z0
        have hkd9 : M.kind = 0 := HKD.out.symm
        cases g6 : ((k : Int) == 0)
        case false =>
          have HR : Hid (tB (MsgP M) = false) := by
            have g6q := g6
            simp only [beq_iff_eq, beq_eq_false_iff_ne, ne_eq] at g6q
            have hn9 := HN.out
            exact tB_false (fun h => by
              have hc9 := HTL.out.1 h |>.1 hkd9
              omega)
          clear HTL
          go_wp2
          go_ret
          exact ⟨by rw [HR.out]; rfl, hb⟩
        case true =>
          cases g7 : (M.commit == 0)
          case false =>
            have HR : Hid (tB (MsgP M) = false) := by
              have g6q := g6
              simp only [beq_iff_eq, beq_eq_false_iff_ne, ne_eq] at g6q
              have g7q := g7
              simp only [beq_iff_eq, beq_eq_false_iff_ne, ne_eq] at g7q
              have hn9 := HN.out
              exact tB_false (fun h => by
                have hc9 := HTL.out.1 h |>.1 hkd9
                omega)
            clear HTL
            go_wp2
            go_ret
            exact ⟨by rw [HR.out]; rfl, hb⟩
          case true =>
            cases g8 : (M.yes)
            case false =>
              have HR : Hid (tB (MsgP M) = true) := by
                have g6q := g6
                simp only [beq_iff_eq, beq_eq_false_iff_ne, ne_eq] at g6q
                have g7q := g7
                simp only [beq_iff_eq, beq_eq_false_iff_ne, ne_eq] at g7q
                have hn9 := HN.out
                exact tB_true (HTL.out.2 (by refine ⟨?_, ?_, ?_, ?_⟩ <;> intro hk9 <;> first | (exfalso; omega) | (refine ⟨?_, ?_, ?_, ?_⟩ <;> omega) | (refine ⟨?_, ?_, ?_⟩ <;> first | omega | exact g8) | exact g8))
              clear HTL
              go_wp2
              go_ret
              exact ⟨by rw [HR.out]; rfl, hb⟩
            case true =>
              have HR : Hid (tB (MsgP M) = false) := by
                have g6q := g6
                simp only [beq_iff_eq, beq_eq_false_iff_ne, ne_eq] at g6q
                have g7q := g7
                simp only [beq_iff_eq, beq_eq_false_iff_ne, ne_eq] at g7q
                have hn9 := HN.out
                exact tB_false (fun h => by
                  have hc9 := HTL.out.1 h |>.1 hkd9
                  have := hc9.2.2; rw [g8] at this; cases this)
              clear HTL
              go_wp2
              go_ret
              exact ⟨by rw [HR.out]; rfl, hb⟩
      by_cases z1 : kd = 1
      · subst z1
        have hkd9 : M.kind = 1 := HKD.out.symm
        cases g4 : (M.prev == 0)
        case false =>
          have HR : Hid (tB (MsgP M) = false) := by
            have g4q := g4
            simp only [beq_iff_eq, beq_eq_false_iff_ne, ne_eq] at g4q
            have hn9 := HN.out
            exact tB_false (fun h => by
              have hc9 := HTL.out.1 h |>.2.1 hkd9
              omega)
          clear HTL
          go_wp2
          go_ret
          exact ⟨by rw [HR.out]; rfl, hb⟩
        case true =>
          cases g5 : (M.prevTerm == 0)
          case false =>
            have HR : Hid (tB (MsgP M) = false) := by
              have g4q := g4
              simp only [beq_iff_eq, beq_eq_false_iff_ne, ne_eq] at g4q
              have g5q := g5
              simp only [beq_iff_eq, beq_eq_false_iff_ne, ne_eq] at g5q
              have hn9 := HN.out
              exact tB_false (fun h => by
                have hc9 := HTL.out.1 h |>.2.1 hkd9
                omega)
            clear HTL
            go_wp2
            go_ret
            exact ⟨by rw [HR.out]; rfl, hb⟩
          case true =>
            cases g6 : ((k : Int) == 0)
            case false =>
              have HR : Hid (tB (MsgP M) = false) := by
                have g4q := g4
                simp only [beq_iff_eq, beq_eq_false_iff_ne, ne_eq] at g4q
                have g5q := g5
                simp only [beq_iff_eq, beq_eq_false_iff_ne, ne_eq] at g5q
                have g6q := g6
                simp only [beq_iff_eq, beq_eq_false_iff_ne, ne_eq] at g6q
                have hn9 := HN.out
                exact tB_false (fun h => by
                  have hc9 := HTL.out.1 h |>.2.1 hkd9
                  omega)
              clear HTL
              go_wp2
              go_ret
              exact ⟨by rw [HR.out]; rfl, hb⟩
            case true =>
              cases g7 : (M.commit == 0)
              case false =>
                have HR : Hid (tB (MsgP M) = false) := by
                  have g4q := g4
                  simp only [beq_iff_eq, beq_eq_false_iff_ne, ne_eq] at g4q
                  have g5q := g5
                  simp only [beq_iff_eq, beq_eq_false_iff_ne, ne_eq] at g5q
                  have g6q := g6
                  simp only [beq_iff_eq, beq_eq_false_iff_ne, ne_eq] at g6q
                  have g7q := g7
                  simp only [beq_iff_eq, beq_eq_false_iff_ne, ne_eq] at g7q
                  have hn9 := HN.out
                  exact tB_false (fun h => by
                    have hc9 := HTL.out.1 h |>.2.1 hkd9
                    omega)
                clear HTL
                go_wp2
                go_ret
                exact ⟨by rw [HR.out]; rfl, hb⟩
              case true =>
                have HR : Hid (tB (MsgP M) = true) := by
                  have g4q := g4
                  simp only [beq_iff_eq, beq_eq_false_iff_ne, ne_eq] at g4q
                  have g5q := g5
                  simp only [beq_iff_eq, beq_eq_false_iff_ne, ne_eq] at g5q
                  have g6q := g6
                  simp only [beq_iff_eq, beq_eq_false_iff_ne, ne_eq] at g6q
                  have g7q := g7
                  simp only [beq_iff_eq, beq_eq_false_iff_ne, ne_eq] at g7q
                  have hn9 := HN.out
                  exact tB_true (HTL.out.2 (by refine ⟨?_, ?_, ?_, ?_⟩ <;> intro hk9 <;> first | (exfalso; omega) | (refine ⟨?_, ?_, ?_, ?_⟩ <;> omega) | (refine ⟨?_, ?_, ?_⟩ <;> first | omega | exact g8) | exact g8))
                clear HTL
                go_wp2
                go_ret
                exact ⟨by rw [HR.out]; rfl, hb⟩
      by_cases z2 : kd = 2
      · subst z2
        have hkd9 : M.kind = 2 := HKD.out.symm
        cases g8 : (M.yes)
        case false =>
          have HR : Hid (tB (MsgP M) = true) := by
            have hn9 := HN.out
            exact tB_true (HTL.out.2 (by refine ⟨?_, ?_, ?_, ?_⟩ <;> intro hk9 <;> first | (exfalso; omega) | (refine ⟨?_, ?_, ?_, ?_⟩ <;> omega) | (refine ⟨?_, ?_, ?_⟩ <;> first | omega | exact g8) | exact g8))
          clear HTL
          go_wp2
          go_ret
          exact ⟨by rw [HR.out]; rfl, hb⟩
        case true =>
          have HR : Hid (tB (MsgP M) = false) := by
            have hn9 := HN.out
            exact tB_false (fun h => by
              have hc9 := HTL.out.1 h |>.2.2.1 hkd9
              rw [g8] at hc9; cases hc9)
          clear HTL
          go_wp2
          go_ret
          exact ⟨by rw [HR.out]; rfl, hb⟩
      have z3 : kd = 3 := by omega
      subst z3
      have hkd9 : M.kind = 3 := HKD.out.symm
      cases g5 : (M.prevTerm == 0)
      case false =>
        have HR : Hid (tB (MsgP M) = false) := by
          have g5q := g5
          simp only [beq_iff_eq, beq_eq_false_iff_ne, ne_eq] at g5q
          have hn9 := HN.out
          exact tB_false (fun h => by
            have hc9 := HTL.out.1 h |>.2.2.2 hkd9
            omega)
        clear HTL
        go_wp2
        go_ret
        exact ⟨by rw [HR.out]; rfl, hb⟩
      case true =>
        cases g6 : ((k : Int) == 0)
        case false =>
          have HR : Hid (tB (MsgP M) = false) := by
            have g5q := g5
            simp only [beq_iff_eq, beq_eq_false_iff_ne, ne_eq] at g5q
            have g6q := g6
            simp only [beq_iff_eq, beq_eq_false_iff_ne, ne_eq] at g6q
            have hn9 := HN.out
            exact tB_false (fun h => by
              have hc9 := HTL.out.1 h |>.2.2.2 hkd9
              omega)
          clear HTL
          go_wp2
          go_ret
          exact ⟨by rw [HR.out]; rfl, hb⟩
        case true =>
          cases g7 : (M.commit == 0)
          case false =>
            have HR : Hid (tB (MsgP M) = false) := by
              have g5q := g5
              simp only [beq_iff_eq, beq_eq_false_iff_ne, ne_eq] at g5q
              have g6q := g6
              simp only [beq_iff_eq, beq_eq_false_iff_ne, ne_eq] at g6q
              have g7q := g7
              simp only [beq_iff_eq, beq_eq_false_iff_ne, ne_eq] at g7q
              have hn9 := HN.out
              exact tB_false (fun h => by
                have hc9 := HTL.out.1 h |>.2.2.2 hkd9
                omega)
            clear HTL
            go_wp2
            go_ret
            exact ⟨by rw [HR.out]; rfl, hb⟩
          case true =>
            have HR : Hid (tB (MsgP M) = true) := by
              have g5q := g5
              simp only [beq_iff_eq, beq_eq_false_iff_ne, ne_eq] at g5q
              have g6q := g6
              simp only [beq_iff_eq, beq_eq_false_iff_ne, ne_eq] at g6q
              have g7q := g7
              simp only [beq_iff_eq, beq_eq_false_iff_ne, ne_eq] at g7q
              have hn9 := HN.out
              exact tB_true (HTL.out.2 (by refine ⟨?_, ?_, ?_, ?_⟩ <;> intro hk9 <;> first | (exfalso; omega) | (refine ⟨?_, ?_, ?_, ?_⟩ <;> omega) | (refine ⟨?_, ?_, ?_⟩ <;> first | omega | exact g8) | exact g8))
            clear HTL
            go_wp2
            go_ret
            exact ⟨by rw [HR.out]; rfl, hb⟩

end Go.Proofs.Ytplgnohncdfgcal
