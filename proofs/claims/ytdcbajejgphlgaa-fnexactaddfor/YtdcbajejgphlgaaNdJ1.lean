/- The specification's NodeOk behind a good head: role 1. -/
import Derived.Test.YtdcbajejgphlgaaNdC0
import Derived.Test.YtdcbajejgphlgaaQB
namespace Go.Proofs.Ytdcbajejgphlgaa
open Go.RowKit
set_option linter.unusedSimpArgs false in
set_option linter.unusedVariables false in
set_option maxHeartbeats 40000000 in
set_option maxRecDepth 100000 in
theorem sNode1 (M : DNode) (s : Int) (v : Value) (w : World) (h : VNode w v M) (hg : NHeadP M s) (hr : M.role = 1) :
    Calls Try.prog 16 #[v, .int .i64 s] w fun e w' => e = .returned (.bool (tB (NodeP M s))) ∧ Below w.heap.size w w' := by
  have hE : ∀ w : World, ∀ o, Ext w (w.alloc o) := fun w o => World.grownBy_alloc _ _ _
  have hB : ∀ w : World, ∀ o, Below w.heap.size w (w.alloc o) := fun w o => (Below.refl _ w).alloc (Nat.le_refl _) _
  obtain ⟨lv, bv, nv, mv, rfl, hi, hbv, hnv, hmv⟩ := h
  obtain ⟨C, ⟨a, cap, rfl, h1, h2, h3⟩, hC⟩ := hi
  obtain ⟨ba, bc, rfl, b1, b2, b3⟩ := hbv
  obtain ⟨na, nc, rfl, n1', n2', n3'⟩ := hnv
  obtain ⟨ma, mc, rfl, m1, m2, m3⟩ := hmv
  have HC : Hid (∀ i d, M.log[i]? = some d → C i 0 = .int .i64 d.term ∧ C i 1 = .int .i64 d.cmd.client ∧ C i 2 = .int .i64 d.cmd.req ∧ C i 3 = .int .i64 d.cmd.op.kind ∧ RV w (C i 4) d.cmd.op.key ∧ RV w (C i 5) d.cmd.op.val ∧ C i 6 = .int .i64 d.cmd.op.n) := hC
  clear hC
  unfold maxLen at h2 b2 n2' m2
  have HG : Hid (NHeadP M s) := hg
  have HRR : Hid (M.role = 1) := hr
  obtain ⟨⟨q1, q2⟩, ⟨q3, q4⟩, ⟨q5, q6⟩, ⟨q7, q8⟩, q9, ⟨q10, q11⟩, ⟨q12, q13⟩, ⟨q14, q15⟩, ⟨q16, q17⟩, q18, q19, q20⟩ := hg
  rw [hr]
  rw [hr] at q12 q13
  obtain ⟨n, hn⟩ : ∃ n, n = M.log.length := ⟨_, rfl⟩
  obtain ⟨n1, hn1⟩ : ∃ n, n = M.votes.length := ⟨_, rfl⟩
  obtain ⟨n2, hn2⟩ : ∃ n, n = M.next.length := ⟨_, rfl⟩
  obtain ⟨n3, hn3⟩ : ∃ n, n = M.mat.length := ⟨_, rfl⟩
  rw [← hn] at h1 h3 q9 q11
  rw [← hn1] at b1 b3 q18
  rw [← hn2] at n1' n3' q19
  rw [← hn3] at m1 m3 q20
  rw [← hn, ← hn1, ← hn2, ← hn3]
  have HN : Hid (n = M.log.length) := hn
  have HN1 : Hid (n1 = M.votes.length) := hn1
  have HN2 : Hid (n2 = M.next.length) := hn2
  have HN3 : Hid (n3 = M.mat.length) := hn3
  clear hn hn1 hn2 hn3
  have H3 : Hid (0 < n → ∃ b o, a = some ⟨b, o, none⟩ ∧ b < w.heap.size ∧ ∀ i, i < n → ∀ j, j < 7 → w.cell? ⟨b, o + i * 7 + j, none⟩ = some (C i j)) := h3
  have HV : Hid (0 < n1 → ∃ b o, ba = some ⟨b, o, none⟩ ∧ b < w.heap.size ∧ ∀ (i : Nat) (x : Bool), M.votes[i]? = some x → w.cell? ⟨b, o + i, none⟩ = some (fB x)) := b3
  have HX : Hid (0 < n2 → ∃ b o, na = some ⟨b, o, none⟩ ∧ b < w.heap.size ∧ ∀ (i : Nat) (x : Int), M.next[i]? = some x → w.cell? ⟨b, o + i, none⟩ = some (fI x)) := n3'
  have HT : Hid (0 < n3 → ∃ b o, ma = some ⟨b, o, none⟩ ∧ b < w.heap.size ∧ ∀ (i : Nat) (x : Int), M.mat[i]? = some x → w.cell? ⟨b, o + i, none⟩ = some (fI x)) := m3
  clear h3 b3 n3' m3
  have f1 : (decide (1 ≤ s) && decide (s ≤ 5)) = true := by simp <;> omega
  have f2 : decide (M.id < 0) = false := by simp <;> omega
  have f3 : decide (s ≤ M.id) = false := by simp <;> omega
  have f4 : (decide (0 ≤ M.term) && decide (M.term ≤ 100000)) = true := by simp <;> omega
  have f5 : (decide (-1 ≤ M.vote) && decide (M.vote < s)) = true := by simp <;> omega
  have f6 : decide (400 < (n : Int)) = false := by simp <;> omega
  have f7 : decide (M.commit < 0) = false := by simp <;> omega
  have f8 : decide ((n : Int) < M.commit) = false := by simp <;> omega
  have f9 : decide (1 < 0) = false := by simp <;> omega
  have f10 : decide (2 < 1) = false := by simp <;> omega
  have f11 : (decide (-1 ≤ M.lead) && decide (M.lead < s)) = true := by simp <;> omega
  have f12 : decide (M.wait < 0) = false := by simp <;> omega
  have f13 : decide (20 < M.wait) = false := by simp <;> omega
  have f14 : ((n1 : Int) != s) = false := by simp <;> omega
  have f15 : ((n2 : Int) != s) = false := by simp <;> omega
  have f16 : ((n3 : Int) != s) = false := by simp <;> omega
  have hn400 : n ≤ 400 := q9
  have HD : Hid (0 ≤ M.term ∧ M.term ≤ 100000) := ⟨q5, q6⟩
  obtain ⟨s', rfl⟩ : ∃ s' : Nat, s = (s' : Int) := ⟨s.toNat, by omega⟩
  have e1 : n1 = s' := by omega
  have e2 : n2 = s' := by omega
  have e3 : n3 = s' := by omega
  have hs5 : s' ≤ 5 := by omega
  subst e1
  subst e2
  subst e3
  clear q1 q2 q3 q4 q5 q6 q7 q8 q9 q10 q11 q12 q13 q14 q15 q16 q17 q18 q19 q20 hr
  go_enter Try.func16, Try.ntmps16
  go_wp2_with (first
      | (go_at_call 34; refine (l4serversV _ _).mono ?_; rintro e wq ⟨rfl, rfl⟩; rw [f1])
      | (go_at_call 35; refine (l3termN _ _).mono ?_; rintro e wq ⟨rfl, rfl⟩; rw [f4])
      | (go_at_call 36; refine (l4whoV _ _ _).mono ?_; rintro e wq ⟨rfl, rfl⟩; first | rw [f5] | rw [f11]))
  clear f1 f2 f3 f4 f5 f6 f7 f8 f9 f10 f11 f12 f13 f14 f15 f16
  generalize hW : w.alloc _ = W
  have HW : Hid (Below w.heap.size w W ∧ Ext w W) := by rw [← hW]; exact ⟨hB _ _, hE _ _⟩
  have HQ : Hid (W.cell? ⟨w.heap.size, 1, none⟩ = some (.int .i64 M.term) ∧ W.cell? ⟨w.heap.size, 3, none⟩ = some (.slice a n cap)) := by
    rw [← hW]
    exact ⟨(at_block (heap_alloc_new w _) 1 _ rfl).1, (at_block (heap_alloc_new w _) 3 _ rfl).1⟩
  have HQT : Hid (W.cell? ⟨w.heap.size, 0, none⟩ = some (.int .i64 M.id) ∧ W.cell? ⟨w.heap.size, 1, none⟩ = some (.int .i64 M.term) ∧ W.cell? ⟨w.heap.size, 2, none⟩ = some (.int .i64 M.vote) ∧ W.cell? ⟨w.heap.size, 3, none⟩ = some (.slice a n cap) ∧ W.cell? ⟨w.heap.size, 5, none⟩ = some (.int .i64 1) ∧ W.cell? ⟨w.heap.size, 6, none⟩ = some (.int .i64 M.lead) ∧ W.cell? ⟨w.heap.size, 8, none⟩ = some (.slice ba n3 bc) ∧ W.cell? ⟨w.heap.size, 9, none⟩ = some (.slice na n3 nc) ∧ W.cell? ⟨w.heap.size, 10, none⟩ = some (.slice ma n3 mc)) := by
    rw [← hW]
    exact ⟨(at_block (heap_alloc_new w _) 0 _ rfl).1, (at_block (heap_alloc_new w _) 1 _ rfl).1, (at_block (heap_alloc_new w _) 2 _ rfl).1, (at_block (heap_alloc_new w _) 3 _ rfl).1, (at_block (heap_alloc_new w _) 5 _ rfl).1, (at_block (heap_alloc_new w _) 6 _ rfl).1, (at_block (heap_alloc_new w _) 8 _ rfl).1, (at_block (heap_alloc_new w _) 9 _ rfl).1, (at_block (heap_alloc_new w _) 10 _ rfl).1⟩
  have HKF0 : Hid (∀ k, k < n → ¬ NItemAt M k → tB (NodeP M n3) = false) := fun k hk h => tB_false (fun h' => h (h'.2.1 k (by have := HN.out; omega)))
  clear hW
  go_loopw [5] (fun i wr => ∃ k : Nat, k ≤ n ∧ i = .int .i64 k ∧ Ext W wr ∧ Below w.heap.size w wr ∧ Hid (∀ j, j < k → NItemAt M j)) (fun i _ => n - (intOf i).toNat)
  case atStart => exact ⟨0, Nat.zero_le _, rfl, Ext.re _, HW.out.1, fun j hj => absurd hj (by omega)⟩
  case round =>
    obtain ⟨k, hk, rfl, hx, hb, hall⟩ := hrel
    by_cases hlt : k < n
    · obtain ⟨b, o, rfl, hbl, hc⟩ := H3.out (by omega)
      obtain ⟨d, hs⟩ : ∃ d, M.log[k]? = some d := ⟨_, List.getElem?_eq_getElem (by have := HN.out; omega)⟩
      have HS : Hid (M.log[k]? = some d) := hs
      obtain ⟨e0, e1, e2, e3, e4, e5, e6⟩ := HC.out k d hs
      have X := HW.out.2.tr hx
      obtain ⟨Q1, Q3⟩ := HQ.out
      have j3 := World.grownBy.cell hx Q3 (by simp)
      have s1 := bw_cell (World.grownBy.cell hx Q1 (by simp))
      have s3 := bw_cell (World.grownBy.cell hx Q3 (by simp))
      clear Q1 Q3
      have HKC : Hid (∀ i, i < n → wr.cell? ⟨b, o + i * 7, none⟩ = some (C i 0)) := fun i hi => World.grownBy.cell X (hc i hi 0 (by omega)) (by simp)
      have c0 := bw_cell (World.grownBy.cell X (hc k hlt 0 (by omega)) (by simp))
      rw [Nat.add_zero, e0] at c0
      have c1 := bw_cell (World.grownBy.cell X (hc k hlt 1 (by omega)) (by simp))
      rw [e1] at c1
      have c2 := bw_cell (World.grownBy.cell X (hc k hlt 2 (by omega)) (by simp))
      rw [e2] at c2
      have c3 := bw_cell (World.grownBy.cell X (hc k hlt 3 (by omega)) (by simp))
      rw [e3] at c3
      have c4 := bw_cell (World.grownBy.cell X (hc k hlt 4 (by omega)) (by simp))
      have cr4 := e4.ext X
      obtain ⟨ca4, cp4, cx4, _, _, _⟩ := e4
      rw [cx4] at cr4 c4
      have c5 := bw_cell (World.grownBy.cell X (hc k hlt 5 (by omega)) (by simp))
      have cr5 := e5.ext X
      obtain ⟨ca5, cp5, cx5, _, _, _⟩ := e5
      rw [cx5] at cr5 c5
      have c6 := bw_cell (World.grownBy.cell X (hc k hlt 6 (by omega)) (by simp))
      rw [e6] at c6
      have hlt' : (k : Int) < (n : Int) := by omega
      have HKF : Hid (¬ NItemAt M k → tB (NodeP M n3) = false) := HKF0.out k hlt
      obtain ⟨b1, K1⟩ : ∃ c, itemB d = c := ⟨_, rfl⟩
      have HIO : Hid (∀ z : BW wr, Calls Try.prog 37 #[.agg #[.int .i64 d.term, .int .i64 d.cmd.client, .int .i64 d.cmd.req, .int .i64 d.cmd.op.kind, .slice ca4 d.cmd.op.key.length cp4, .slice ca5 d.cmd.op.val.length cp5, .int .i64 d.cmd.op.n]] z.u fun e w' => e = .returned (.bool b1) ∧ Below z.u.heap.size z.u w') := fun z => by
        rw [← K1]
        exact itemOkV _ d _ ⟨_, _, rfl, cr4.ext (bw_ext z), cr5.ext (bw_ext z)⟩
      clear hc cr4 cr5 hs X cx4 cx5 e0 e1 e2 e3 e6
      by_cases hk0 : k = 0
      · have HK00 : Hid (k = 0) := hk0
        have hkd : decide (0 < k) = false := by simp; omega
        have hkd2 : decide ((0 : Int) < (k : Int)) = false := decide_eq_false (by omega)
        clear hk0
        have nonV := bw_ne wr
        go_wp2
        refine wp_region_bw (by kernel_rfl) (by kernel_rfl) ?_
        repeat (go_big_quiet_step ((go_at_call 37; exact bw_below (HIO.out _))))
        cases b1
        case false =>
          simp only [Bool.not_false]
          repeat (go_big_quiet_step ((go_at_call 37; exact bw_below (HIO.out _))))
          refine wpQuiet_nil ?_
          intro _ hw'
          obtain ⟨z, hw''⟩ := hw'
          subst hw''
          have HK : Hid (tB (NodeP M n3) = false) := HKF.out (fun h => by
            obtain ⟨a1, a2, a3⟩ := h d HS.out
            rw [K1] at a1; cases a1
            )
          clear HKF hall
          go_wp2
          go_ret
          exact ⟨by rw [HK.out]; rfl, hb.trans (z.h.mono hb.size)⟩
        simp only [Bool.not_true]
        repeat (go_big_quiet_step ((go_at_call 37; exact bw_below (HIO.out _))))
        cases t1 : decide (M.term < d.term)
        case true =>
          repeat (go_big_quiet_step ((go_at_call 37; exact bw_below (HIO.out _))))
          refine wpQuiet_nil ?_
          intro _ hw'
          obtain ⟨z, hw''⟩ := hw'
          subst hw''
          have HK : Hid (tB (NodeP M n3) = false) := HKF.out (fun h => by
            obtain ⟨a1, a2, a3⟩ := h d HS.out
            have := of_decide_eq_true t1; omega
            )
          clear HKF hall
          go_wp2
          go_ret
          exact ⟨by rw [HK.out]; rfl, hb.trans (z.h.mono hb.size)⟩
        repeat (go_big_quiet_step ((go_at_call 37; exact bw_below (HIO.out _))))
        refine wpQuiet_nil ?_
        intro _ hw'
        obtain ⟨z, hw''⟩ := hw'
        subst hw''
        have HA : Hid (∀ j, j < k + 1 → NItemAt M j) := fun j hj => by
          by_cases e : j = k
          · subst e
            intro d' hd
            rw [HS.out] at hd
            cases hd
            exact ⟨K1, by have := of_decide_eq_false t1; omega, fun p h0 => absurd h0 (by have := HK00.out; omega)⟩
          · exact hall.out j (by omega)
        clear HKF hall
        go_wp2
        go_roundw
        case rel => exact ⟨k + 1, by omega, by go_num, hx.tr (bw_ext z), hb.trans (z.h.mono hb.size), HA⟩
        case measure => simp [intOf]; omega
      · obtain ⟨k', rfl⟩ : ∃ k', k = k' + 1 := ⟨k - 1, by omega⟩
        obtain ⟨p, hpr⟩ : ∃ p, M.log[k']? = some p := ⟨_, List.getElem?_eq_getElem (by have := HN.out; omega)⟩
        have HPR : Hid (M.log[k']? = some p) := hpr
        have y1 := bw_cell (HKC.out k' (by omega))
        rw [(HC.out k' p hpr).1] at y1
        have hk1 : (k' : Int) < (n : Int) := by omega
        have hk2 : (0 : Int) ≤ (k' : Int) := by omega
        have hw1 : IntKind.i64.wrap ((k' : Int) + 1 - 1) = (k' : Int) := by rw [Int.add_sub_cancel, IntKind.wrap_i64]; omega
        have hw2 : IntKind.i64.wrap (k' : Int) = (k' : Int) := by rw [IntKind.wrap_i64]; omega
        have hkd : decide ((0 : Int) < (k' : Int) + 1) = true := decide_eq_true (by omega)
        clear hk0 hpr
        have nonV := bw_ne wr
        go_wp2
        refine wp_region_bw (by kernel_rfl) (by kernel_rfl) ?_
        repeat (go_big_quiet_step ((go_at_call 37; exact bw_below (HIO.out _))))
        cases b1
        case false =>
          simp only [Bool.not_false]
          repeat (go_big_quiet_step ((go_at_call 37; exact bw_below (HIO.out _))))
          refine wpQuiet_nil ?_
          intro _ hw'
          obtain ⟨z, hw''⟩ := hw'
          subst hw''
          have HK : Hid (tB (NodeP M n3) = false) := HKF.out (fun h => by
            obtain ⟨a1, a2, a3⟩ := h d HS.out
            rw [K1] at a1; cases a1
            )
          clear HKF hall
          go_wp2
          go_ret
          exact ⟨by rw [HK.out]; rfl, hb.trans (z.h.mono hb.size)⟩
        simp only [Bool.not_true]
        repeat (go_big_quiet_step ((go_at_call 37; exact bw_below (HIO.out _))))
        cases t1 : decide (M.term < d.term)
        case true =>
          repeat (go_big_quiet_step ((go_at_call 37; exact bw_below (HIO.out _))))
          refine wpQuiet_nil ?_
          intro _ hw'
          obtain ⟨z, hw''⟩ := hw'
          subst hw''
          have HK : Hid (tB (NodeP M n3) = false) := HKF.out (fun h => by
            obtain ⟨a1, a2, a3⟩ := h d HS.out
            have := of_decide_eq_true t1; omega
            )
          clear HKF hall
          go_wp2
          go_ret
          exact ⟨by rw [HK.out]; rfl, hb.trans (z.h.mono hb.size)⟩
        repeat (go_big_quiet_step ((go_at_call 37; exact bw_below (HIO.out _))))
        cases t2 : decide (d.term < p.term)
        case true =>
          repeat (go_big_quiet_step ((go_at_call 37; exact bw_below (HIO.out _))))
          refine wpQuiet_nil ?_
          intro _ hw'
          obtain ⟨z, hw''⟩ := hw'
          subst hw''
          have HK : Hid (tB (NodeP M n3) = false) := HKF.out (fun h => by
            obtain ⟨a1, a2, a3⟩ := h d HS.out
            have := of_decide_eq_true t2
            have := a3 p (by omega) (by simpa using HPR.out)
            omega
            )
          clear HKF hall
          go_wp2
          go_ret
          exact ⟨by rw [HK.out]; rfl, hb.trans (z.h.mono hb.size)⟩
        repeat (go_big_quiet_step ((go_at_call 37; exact bw_below (HIO.out _))))
        refine wpQuiet_nil ?_
        intro _ hw'
        obtain ⟨z, hw''⟩ := hw'
        subst hw''
        have HA : Hid (∀ j, j < k' + 1 + 1 → NItemAt M j) := fun j hj => by
          by_cases e : j = k' + 1
          · subst e
            intro d' hd
            rw [HS.out] at hd
            cases hd
            exact ⟨K1, by have := of_decide_eq_false t1; omega, fun p' _ hp' => by
              rw [Nat.add_sub_cancel, HPR.out] at hp'
              cases hp'
              have := of_decide_eq_false t2
              omega⟩
          · exact hall.out j (by omega)
        clear HKF hall
        go_wp2
        go_roundw
        case rel => exact ⟨k' + 1 + 1, by omega, by go_num, hx.tr (bw_ext z), hb.trans (z.h.mono hb.size), HA⟩
        case measure => simp [intOf]; omega
    · have hkn : k = n := by omega
      subst hkn
      obtain ⟨Q0, Q1, Q2, Q3, Q5, Q6, Q8, Q9, Q10⟩ := HQT.out
      have i0 := World.grownBy.cell hx Q0 (by simp)
      have i1 := World.grownBy.cell hx Q1 (by simp)
      have i2 := World.grownBy.cell hx Q2 (by simp)
      have i3 := World.grownBy.cell hx Q3 (by simp)
      have i5 := World.grownBy.cell hx Q5 (by simp)
      have i6 := World.grownBy.cell hx Q6 (by simp)
      have i8 := World.grownBy.cell hx Q8 (by simp)
      have i9 := World.grownBy.cell hx Q9 (by simp)
      have i10 := World.grownBy.cell hx Q10 (by simp)
      clear Q0 Q1 Q2 Q3 Q5 Q6 Q8 Q9 Q10
      obtain ⟨wo, hwo⟩ : ∃ wo, wo = wr := ⟨_, rfl⟩
      subst hwo
      have HALL : Hid (∀ i, i < M.log.length → NItemAt M i) := fun i hi => hall.out i (by have := HN.out; omega)
      clear hall
      cases g1 : decide (M.term < 1)
      case true =>
        have HR : Hid (tB (NodeP M n3) = false) := tB_false (fun h => by
          have h9 := h.2.2.1 (by rw [HRR.out]; decide)
          have := of_decide_eq_true g1
          omega
          )
        go_wp2
        go_ret
        exact ⟨by rw [HR.out]; rfl, hb⟩
      cases g2 : (M.vote != M.id)
      case true =>
        have HR : Hid (tB (NodeP M n3) = false) := tB_false (fun h => by
          have h9 := (h.2.2.1 (by rw [HRR.out]; decide)).2
          rw [bne_iff_ne] at g2
          exact g2 h9
          )
        go_wp2
        go_ret
        exact ⟨by rw [HR.out]; rfl, hb⟩
      have HRO : Hid (NRoleP M) := fun _ => ⟨by have := of_decide_eq_false g1; omega, by simpa using g2⟩
      go_wp2
      clear g1 g2
      go_loopw [6] (fun i wr2 => ∃ k2 : Nat, k2 ≤ n3 ∧ i = .int .i64 k2 ∧ Ext wo wr2 ∧ Below w.heap.size w wr2 ∧ Hid (∀ j, j < k2 → NEntryAt M j)) (fun i _ => n3 - (intOf i).toNat)
      case atStart => exact ⟨0, Nat.zero_le _, rfl, Ext.re _, hb, fun j hj => absurd hj (by omega)⟩
      case round =>
        obtain ⟨k2, hk2, rfl, hx2, hb2, hall2⟩ := hrel
        by_cases hlt2 : k2 < n3
        · obtain ⟨vb, vo, rfl, hvb, hvc⟩ := HV.out (by omega)
          obtain ⟨xb, xo, rfl, hxb, hxc⟩ := HX.out (by omega)
          obtain ⟨tb, to, rfl, htb, htc⟩ := HT.out (by omega)
          obtain ⟨vt, hvt⟩ : ∃ x, M.votes[k2]? = some x := ⟨_, List.getElem?_eq_getElem (by have := HN1.out; omega)⟩
          obtain ⟨nx, hnx⟩ : ∃ x, M.next[k2]? = some x := ⟨_, List.getElem?_eq_getElem (by have := HN2.out; omega)⟩
          obtain ⟨mt, hmt⟩ : ∃ x, M.mat[k2]? = some x := ⟨_, List.getElem?_eq_getElem (by have := HN3.out; omega)⟩
          have HE : Hid (M.votes[k2]? = some vt ∧ M.next[k2]? = some nx ∧ M.mat[k2]? = some mt) := ⟨hvt, hnx, hmt⟩
          have X2 := (HW.out.2.tr hx).tr hx2
          have cv : wr.cell? ⟨vb, vo + k2, none⟩ = some (.bool vt) := World.grownBy.cell X2 (hvc k2 vt hvt) (by simp)
          have cx : wr.cell? ⟨xb, xo + k2, none⟩ = some (.int .i64 nx) := World.grownBy.cell X2 (hxc k2 nx hnx) (by simp)
          have ct : wr.cell? ⟨tb, to + k2, none⟩ = some (.int .i64 mt) := World.grownBy.cell X2 (htc k2 mt hmt) (by simp)
          have k3 := World.grownBy.cell hx2 i3 (by simp)
          have k5 := World.grownBy.cell hx2 i5 (by simp)
          have k8 := World.grownBy.cell hx2 i8 (by simp)
          have k9 := World.grownBy.cell hx2 i9 (by simp)
          have k10 := World.grownBy.cell hx2 i10 (by simp)
          have hlt2' : (k2 : Int) < (n3 : Int) := by omega
          have HKF2 : Hid (¬ NEntryAt M k2 → tB (NodeP M n3) = false) := fun h => tB_false (fun h' => h (h'.2.2.2.1 k2 (by have := HN1.out; omega)))
          clear hvc hxc htc hvt hnx hmt X2 i0 i1 i2 i3 i5 i6 i8 i9 i10
          cases x0 : (nx != 0)
          case true =>
            have HK : Hid (tB (NodeP M n3) = false) := HKF2.out (fun h => by
              have h9 := h vt nx mt HE.out.1 HE.out.2.1 HE.out.2.2
              have := (h9.2.1 (by rw [HRR.out]; decide)).1
              rw [bne_iff_ne] at x0
              exact x0 this
              )
            clear HKF2 hall2
            go_wp2
            go_quiet (fail)
            go_wp2
            go_ret
            exact ⟨by rw [HK.out]; rfl, below_drewN hb2 _⟩
          cases x1 : (mt != 0)
          case true =>
            have HK : Hid (tB (NodeP M n3) = false) := HKF2.out (fun h => by
              have h9 := h vt nx mt HE.out.1 HE.out.2.1 HE.out.2.2
              have := (h9.2.1 (by rw [HRR.out]; decide)).2
              rw [bne_iff_ne] at x1
              exact x1 this
              )
            clear HKF2 hall2
            go_wp2
            go_quiet (fail)
            go_wp2
            go_ret
            exact ⟨by rw [HK.out]; rfl, below_drewN hb2 _⟩
          have HA : Hid (∀ j, j < k2 + 1 → NEntryAt M j) := fun j hj => by
            by_cases e : j = k2
            · subst e
              intro b' n' m' e1 e2 e3
              rw [HE.out.1] at e1
              rw [HE.out.2.1] at e2
              rw [HE.out.2.2] at e3
              cases e1
              cases e2
              cases e3
              exact ⟨fun h => by rw [HRR.out] at h; exact absurd h (by decide), fun _ => ⟨by simpa using x0, by simpa using x1⟩, fun h => by first | (rw [HRR.out] at h; exact absurd h (by decide)) | rfl⟩
            · exact hall2.out j (by omega)
          clear HKF2 hall2
          go_wp2
          go_quiet (fail)
          go_wp2
          go_roundw
          case rel => exact ⟨k2 + 1, by omega, by go_num, hx2.tr (ext_drewN _ _), below_drewN hb2 _, HA⟩
          case measure => simp [intOf]; omega
        · have hkn2 : k2 = n3 := by omega
          have HALL2 : Hid (∀ i, i < M.votes.length → NEntryAt M i) := fun i hi => hall2.out i (by have := HN1.out; omega)
          clear hall2
          have k0 := World.grownBy.cell hx2 i0 (by simp)
          have k5 := World.grownBy.cell hx2 i5 (by simp)
          have k6 := World.grownBy.cell hx2 i6 (by simp)
          have HR : Hid (tB (NodeP M n3) = true) := tB_true ⟨HG.out, HALL.out, HRO.out, HALL2.out, fun h => by rw [HRR.out] at h; exact absurd h (by decide)⟩
          subst hkn2
          go_wp2
          go_ret
          exact ⟨by rw [HR.out]; rfl, hb2⟩

end Go.Proofs.Ytdcbajejgphlgaa
