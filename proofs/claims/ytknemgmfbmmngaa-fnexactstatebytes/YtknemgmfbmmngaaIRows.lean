/- The contract of the program's rowsOk. -/
import Derived.Test.YtknemgmfbmmngaaISess
import Derived.Test.YtknemgmfbmmngaaCmp4
import Derived.Deep.LoopGhost
import Derived.WalkMore
namespace Go.Proofs.Ytknemgmfbmmngaa
open Go.RowKit

/-- The row at i may be there. -/
def RowAt (idx : Int) (ss : List DSess) (rs : List DRow) (i : Nat) : Prop := ∀ r, rs[i]? = some r → keyB r.key = true ∧ r.val.length ≤ 20 ∧ 1 ≤ r.turned ∧ r.turned ≤ idx ∧ (r.holder = 0 ∨ ∃ (j : Nat) (s : DSess), ss[j]? = some s ∧ s.id = r.holder) ∧ ∀ p, 0 < i → rs[i - 1]? = some p → ltK p.key r.key = true
def RowsP (idx : Int) (ss : List DSess) (rs : List DRow) : Prop := rs.length ≤ 20 ∧ ∀ i, i < rs.length → RowAt idx ss rs i

theorem get_lt {α : Type} {l : List α} {i : Nat} {x : α} (h : l[i]? = some x) : i < l.length := (List.getElem?_eq_some_iff.1 h).1

set_option maxHeartbeats 2000000 in
theorem rowsOkV (rv tv lov sv lv : Value) (idx : Int) (ss : List DSess) (rs : List DRow) (w : World) (h : VRows w rv rs) (hS : VSess w sv ss) :
    Calls Try.prog 58 #[.agg #[.int .i64 idx, rv, tv, lov, sv, lv]] w fun e w' => e = .returned (.bool (tB (RowsP idx ss rs))) ∧ Below w.heap.size w w' := by
  have hE : ∀ w : World, ∀ o, Ext w (w.alloc o) := fun w o => World.grownBy_alloc _ _ _
  have hB : ∀ w : World, ∀ o, Below w.heap.size w (w.alloc o) := fun w o => (Below.refl _ w).alloc (Nat.le_refl _) _
  obtain ⟨C, ⟨a, cap, rfl, h1, h2, h3⟩, hC⟩ := h
  obtain ⟨D, ⟨a', cap', rfl, h1', h2', h3'⟩, hD⟩ := hS
  have HC : Hid (∀ i r, rs[i]? = some r → RV w (C i 0) r.key ∧ RV w (C i 1) r.val ∧ C i 2 = .int .i64 r.turned ∧ C i 3 = .int .i64 r.holder) := hC
  have HD : Hid (∀ i r, ss[i]? = some r → D i 0 = .int .i64 r.id ∧ D i 1 = .bool r.del) := hD
  clear hC hD
  obtain ⟨n, hn⟩ : ∃ n, n = rs.length := ⟨_, rfl⟩
  obtain ⟨m, hm⟩ : ∃ m, m = ss.length := ⟨_, rfl⟩
  rw [← hn] at h1 h3 ⊢
  rw [← hm] at h1' h3' ⊢
  have HN : Hid (n = rs.length) := hn
  have HM : Hid (m = ss.length) := hm
  clear hn hm
  unfold maxLen at h2 h2'
  by_cases h8 : (20 : Int) < n
  · have HK : Hid (tB (RowsP idx ss rs) = false) := tB_false (fun h => by have := h.1; have := HN.out; omega)
    go_enter Try.func58, Try.ntmps58
    go_wp2
    go_step3
    go_wp2
    try rw [Exit.noGoto_ret]
    go_ret
    exact ⟨by rw [HK.out]; rfl, hB _ _⟩
  have H3 : Hid (0 < n → ∃ b o, a = some ⟨b, o, none⟩ ∧ b < w.heap.size ∧ ∀ i, i < n → ∀ j, j < 4 → w.cell? ⟨b, o + i * 4 + j, none⟩ = some (C i j)) := h3
  have H3' : Hid (0 < m → ∃ b o, a' = some ⟨b, o, none⟩ ∧ b < w.heap.size ∧ ∀ i, i < m → ∀ j, j < 2 → w.cell? ⟨b, o + i * 2 + j, none⟩ = some (D i j)) := h3'
  clear h3 h3'
  go_enter Try.func58, Try.ntmps58
  go_wp2
  go_step3
  go_wp2
  go_step3
  go_wp2
  generalize hW : w.alloc _ = W
  have HW : Hid (Below w.heap.size w W ∧ Ext w W) := by rw [← hW]; exact ⟨hB _ _, hE _ _⟩
  have HQ : Hid (W.cell? ⟨w.heap.size, 0, none⟩ = some (.int .i64 idx) ∧ W.cell? ⟨w.heap.size, 1, none⟩ = some (.slice a n cap) ∧ W.cell? ⟨w.heap.size, 4, none⟩ = some (.slice a' m cap')) := by
    rw [← hW]
    exact ⟨(at_block (heap_alloc_new w _) 0 _ rfl).1, (at_block (heap_alloc_new w _) 1 _ rfl).1, (at_block (heap_alloc_new w _) 4 _ rfl).1⟩
  clear hW
  go_loopg [14] n (fun g s14 wx => ∃ k : Nat, k + g = n ∧ s14 = .int .i64 k ∧ Ext W wx ∧ Below w.heap.size w wx ∧ Hid (∀ j, j < k → RowAt idx ss rs j))
  case atStart => exact ⟨0, by omega, rfl, Ext.re _, HW.out.1, fun j hj => absurd hj (by omega)⟩
  case round =>
    obtain ⟨k, hkg, rfl, hx, hb, hall⟩ := hrel
    cases gk with
    | zero =>
      have hkz : ¬ ((k : Int) < (n : Int)) := by omega
      have HK : Hid (tB (RowsP idx ss rs) = true) := tB_true ⟨by have := HN.out; omega, fun i hi => hall.out i (by have := HN.out; omega)⟩
      clear hall
      go_wp2
      try rw [Exit.noGoto_ret]
      go_ret
      exact ⟨by rw [HK.out]; rfl, hb⟩
    | succ g =>
      have hkz : (k : Int) < (n : Int) := by omega
      obtain ⟨b, o, rfl, hbl, hc⟩ := H3.out (by omega)
      obtain ⟨r, hr⟩ : ∃ r, rs[k]? = some r := ⟨_, List.getElem?_eq_getElem (by have := HN.out; omega)⟩
      obtain ⟨rk, ru, e2, e3⟩ := HC.out k r hr
      have X := HW.out.2.tr hx
      have c0 := World.grownBy.cell X (hc k (by omega) 0 (by omega)) (by simp)
      have c1 := World.grownBy.cell X (hc k (by omega) 1 (by omega)) (by simp)
      have c2 := World.grownBy.cell X (hc k (by omega) 2 (by omega)) (by simp)
      have c3 := World.grownBy.cell X (hc k (by omega) 3 (by omega)) (by simp)
      have RK : ∀ ob, RV (wr.alloc ob) (C k 0) r.key := fun ob => (rk.ext X).ext (hE _ _)
      have RU : ∀ ob, RV (wr.alloc ob) (C k 1) r.val := fun ob => (ru.ext X).ext (hE _ _)
      obtain ⟨ka, kc, ek, _, _, _⟩ := rk
      obtain ⟨va, vc, ev, _, _, _⟩ := ru
      rw [Nat.add_zero, ek] at c0
      rw [ev] at c1
      rw [e2] at c2
      rw [e3] at c3
      rw [ek] at RK
      rw [ev] at RU
      obtain ⟨Q0, Q1, Q4⟩ := HQ.out
      have g0 : ∀ ob, (wr.alloc ob).cell? ⟨w.heap.size, 0, none⟩ = some (.int .i64 idx) := fun ob => World.grownBy.cell (hx.tr (hE wr ob)) Q0 (by simp)
      have g1 : ∀ ob, (wr.alloc ob).cell? ⟨w.heap.size, 1, none⟩ = some (.slice (some ⟨b, o, none⟩) n cap) := fun ob => World.grownBy.cell (hx.tr (hE wr ob)) Q1 (by simp)
      have g4 : ∀ ob, (wr.alloc ob).cell? ⟨w.heap.size, 4, none⟩ = some (.slice a' m cap') := fun ob => World.grownBy.cell (hx.tr (hE wr ob)) Q4 (by simp)
      clear Q0 Q1 Q4 ek ev e2 e3
      have HX2 : Hid (∀ ob, Ext W (wr.alloc ob)) := fun ob => hx.tr (hE _ _)
      have HB2 : Hid (∀ ob, Below w.heap.size w (wr.alloc ob)) := fun ob => hb.alloc hb.size _
      have HKC : Hid (∀ i, i < n → wr.cell? ⟨b, o + i * 4, none⟩ = some (C i 0)) := fun i hi => World.grownBy.cell X (hc i hi 0 (by omega)) (by simp)
      have HKF : Hid (¬ RowAt idx ss rs k → tB (RowsP idx ss rs) = false) := fun h => tB_false (fun h' => h (h'.2 k (by have := HN.out; omega)))
      have HXX : Hid (Ext w wr) := X
      clear hc hx hb X
      obtain ⟨kl, K0⟩ : ∃ kl, kl = r.key.length := ⟨_, rfl⟩
      rw [← K0] at c0 RK
      obtain ⟨ul, U0⟩ : ∃ ul, ul = r.val.length := ⟨_, rfl⟩
      rw [← U0] at c1 RU
      have HU0 : Hid (ul = r.val.length) := U0
      clear K0 U0
      obtain ⟨b1, K1⟩ : ∃ c, keyB r.key = c := ⟨_, rfl⟩
      obtain ⟨b2, K2⟩ : ∃ c, decide (r.val.length ≤ 20) = c := ⟨_, rfl⟩
      obtain ⟨b3, K3⟩ : ∃ c, inB r.turned 1 idx = c := ⟨_, rfl⟩
      by_cases hbb : b1 = true ∧ b2 = true ∧ b3 = true
      case neg =>
        have HK : Hid (tB (RowsP idx ss rs) = false) := HKF.out (fun h => by
          obtain ⟨a1, a2, a3, a4, _⟩ := h r hr
          refine hbb ⟨K1.symm.trans a1, K2.symm.trans (decide_eq_true a2), ?_⟩
          rw [← K3]
          unfold inB
          rw [decide_eq_true a3, decide_eq_true a4]
          rfl)
        clear hall HKF hr
        cases b1
        · clear hbb
          go_wp2_with (first
            | (go_at_call 71; refine (keyOkV _ r.key _ (RK _)).mono ?_; rintro e w1 ⟨rfl, rfl⟩; rw [K1])
            | (go_at_call 72; refine (valueOkV _ r.val _ (RU _)).mono ?_; rintro e w1 ⟨rfl, rfl⟩; rw [K2])
            | (go_at_call 56; refine (withinV _ _ _ _).mono ?_; rintro e w1 ⟨rfl, rfl⟩; rw [K3]))
          try rw [Exit.noGoto_ret]
          go_ret
          exact ⟨by rw [HK.out]; rfl, HB2.out _⟩
        cases b2
        · clear hbb
          go_wp2_with (first
            | (go_at_call 71; refine (keyOkV _ r.key _ (RK _)).mono ?_; rintro e w1 ⟨rfl, rfl⟩; rw [K1])
            | (go_at_call 72; refine (valueOkV _ r.val _ (RU _)).mono ?_; rintro e w1 ⟨rfl, rfl⟩; rw [K2])
            | (go_at_call 56; refine (withinV _ _ _ _).mono ?_; rintro e w1 ⟨rfl, rfl⟩; rw [K3]))
          try rw [Exit.noGoto_ret]
          go_ret
          exact ⟨by rw [HK.out]; rfl, HB2.out _⟩
        cases b3
        · clear hbb
          go_wp2_with (first
            | (go_at_call 71; refine (keyOkV _ r.key _ (RK _)).mono ?_; rintro e w1 ⟨rfl, rfl⟩; rw [K1])
            | (go_at_call 72; refine (valueOkV _ r.val _ (RU _)).mono ?_; rintro e w1 ⟨rfl, rfl⟩; rw [K2])
            | (go_at_call 56; refine (withinV _ _ _ _).mono ?_; rintro e w1 ⟨rfl, rfl⟩; rw [K3]))
          try rw [Exit.noGoto_ret]
          go_ret
          exact ⟨by rw [HK.out]; rfl, HB2.out _⟩
        exact absurd ⟨rfl, rfl, rfl⟩ hbb
      case pos =>
        obtain ⟨rfl, rfl, rfl⟩ := hbb
        have HT : Hid (1 ≤ r.turned ∧ r.turned ≤ idx ∧ r.val.length ≤ 20) := by
          unfold inB at K3
          simp only [Bool.and_eq_true, decide_eq_true_eq] at K3
          exact ⟨K3.1, K3.2, of_decide_eq_true K2⟩
        by_cases hk0 : k = 0
        · have HO : Hid (∀ p, 0 < k → rs[k - 1]? = some p → ltK p.key r.key = true) := fun p h => absurd h (by omega)
          have hkd : decide (0 < k) = false := by simp; omega
          clear hk0
          by_cases hh : r.holder = 0
          · rw [hh] at c3
            have HA : Hid (∀ j, j < k + 1 → RowAt idx ss rs j) := fun j hj => by
              by_cases e : j = k
              · subst e
                intro r' hr'
                rw [hr] at hr'
                cases hr'
                exact ⟨K1, HT.out.2.2, HT.out.1, HT.out.2.1, .inl hh, HO.out⟩
              · exact hall.out j (by omega)
            clear hall hh
            go_wp2_with (first
              | (go_at_call 71; refine (keyOkV _ r.key _ (RK _)).mono ?_; rintro e w1 ⟨rfl, rfl⟩; rw [K1])
              | (go_at_call 72; refine (valueOkV _ r.val _ (RU _)).mono ?_; rintro e w1 ⟨rfl, rfl⟩; rw [K2])
              | (go_at_call 56; refine (withinV _ _ _ _).mono ?_; rintro e w1 ⟨rfl, rfl⟩; rw [K3]))
            go_quiet (fail)
            go_wp2
            go_roundg g
            case measure => omega
            case rel => exact ⟨k + 1, by omega, by first | rfl | simp, (HX2.out _).tr (ext_drewN _ _), below_drewN (HB2.out _) _, HA⟩
          · have hh' : (r.holder == 0) = false := by simpa using hh
            go_wp2_with (first
              | (go_at_call 71; refine (keyOkV _ r.key _ (RK _)).mono ?_; rintro e w1 ⟨rfl, rfl⟩; rw [K1])
              | (go_at_call 72; refine (valueOkV _ r.val _ (RU _)).mono ?_; rintro e w1 ⟨rfl, rfl⟩; rw [K2])
              | (go_at_call 56; refine (withinV _ _ _ _).mono ?_; rintro e w1 ⟨rfl, rfl⟩; rw [K3]))
            go_quiet (fail)
            go_wp2
            generalize hV : (wr.alloc _).drewN _ = V
            have HV : Hid (Ext W V ∧ Below w.heap.size w V ∧ Ext w V) := by rw [← hV]; exact ⟨(HX2.out _).tr (ext_drewN _ _), below_drewN (HB2.out _) _, (HXX.out.tr (hE _ _)).tr (ext_drewN _ _)⟩
            have HV3 : Hid (V.cell? ⟨wr.heap.size, 3, none⟩ = some (.int .i64 r.holder)) := by rw [← hV]; exact (at_block (heap_alloc_new wr _) 3 _ rfl).1
            clear hV c0 c1 c2 c3 g0 g1 g4 RK RU HKC HX2 HB2
            go_loopg [58] m (fun g2 s58 wy => ∃ j : Nat, j + g2 = m ∧ s58 = .int .i64 j ∧ Ext V wy ∧ Below w.heap.size w wy ∧ Hid (∀ i s, i < j → ss[i]? = some s → s.id ≠ r.holder))
            case atStart => exact ⟨0, by omega, rfl, Ext.re _, HV.out.2.1, fun i s hi => absurd hi (by omega)⟩
            case round =>
              obtain ⟨j, hjg, rfl, hx3, hb3, hno⟩ := hrel
              cases gk with
              | zero =>
                have hjz : ¬ ((j : Int) < (m : Int)) := by omega
                have HK : Hid (tB (RowsP idx ss rs) = false) := HKF.out (fun h => by
                  obtain ⟨_, _, _, _, a5, _⟩ := h r hr
                  rcases a5 with a5 | ⟨i, s, hi, hs⟩
                  · exact hh a5
                  · exact hno.out i s (by have := get_lt hi; have := HM.out; omega) hi hs)
                clear hall hno
                go_wp2
                try rw [Exit.noGoto_ret]
                go_ret
                exact ⟨by rw [HK.out]; rfl, hb3⟩
              | succ g2 =>
                have hjz : (j : Int) < (m : Int) := by omega
                obtain ⟨b', o', rfl, hbl', hd⟩ := H3'.out (by omega)
                obtain ⟨s, hs⟩ : ∃ s, ss[j]? = some s := ⟨_, List.getElem?_eq_getElem (by have := HM.out; omega)⟩
                obtain ⟨f0, f1⟩ := HD.out j s hs
                have d0 := World.grownBy.cell (HV.out.2.2.tr hx3) (hd j (by omega) 0 (by omega)) (by simp)
                have d1 := World.grownBy.cell (HV.out.2.2.tr hx3) (hd j (by omega) 1 (by omega)) (by simp)
                rw [f0, Nat.add_zero] at d0
                rw [f1] at d1
                have g3 := fun ob => World.grownBy.cell (hx3.tr (hE wr ob)) HV3.out (by simp)
                clear hd f0 f1
                by_cases hid : s.id = r.holder
                · have HA : Hid (∀ j, j < k + 1 → RowAt idx ss rs j) := fun i hi => by
                    by_cases e : i = k
                    · subst e
                      intro r' hr'
                      rw [hr] at hr'
                      cases hr'
                      exact ⟨K1, HT.out.2.2, HT.out.1, HT.out.2.1, .inr ⟨j, s, hs, hid⟩, HO.out⟩
                    · exact hall.out i (by omega)
                  rw [hid] at d0
                  clear hall hno hid
                  go_wp2
                  go_roundg g
                  case measure => omega
                  case rel => exact ⟨k + 1, by omega, by first | rfl | simp, HV.out.1.tr (hx3.tr (hE _ _)), hb3.alloc hb3.size _, HA⟩
                · have HNo : Hid (∀ i s, i < j + 1 → ss[i]? = some s → s.id ≠ r.holder) := fun i s' hi hs' => by
                    by_cases e : i = j
                    · subst e
                      rw [hs] at hs'
                      cases hs'
                      exact hid
                    · exact hno.out i s' (by omega) hs'
                  have hid' : (s.id == r.holder) = false := by simpa using hid
                  clear hno hid
                  go_wp2
                  go_roundg g2
                  case measure => omega
                  case rel => exact ⟨j + 1, by omega, by first | rfl | simp, hx3.tr (hE _ _), hb3.alloc hb3.size _, HNo⟩
        · obtain ⟨k', rfl⟩ : ∃ k', k = k' + 1 := ⟨k - 1, by omega⟩
          obtain ⟨p, hp⟩ : ∃ p, rs[k']? = some p := ⟨_, List.getElem?_eq_getElem (by have := HN.out; omega)⟩
          have hk1 : (k' : Int) < (n : Int) := by omega
          obtain ⟨rp, _, _, _⟩ := HC.out k' p hp
          have RP : ∀ ob q, RV ((wr.alloc ob).drewN q) (C k' 0) p.key := fun ob q => ((rp.ext HXX.out).ext (hE _ _)).ext (ext_drewN _ _)
          have RK2 : ∀ ob q, RV ((wr.alloc ob).drewN q) (.slice ka kl kc) r.key := fun ob q => (RK ob).ext (ext_drewN _ _)
          have hkd : decide ((0 : Int) < (k' : Int) + 1) = true := decide_eq_true (by omega)
          have p0 : ∀ ob, (wr.alloc ob).cell? ⟨b, o + k' * 4, none⟩ = some (C k' 0) := fun ob => World.grownBy.cell (hE wr ob) (HKC.out k' (by omega)) (by simp)
          obtain ⟨pa, pc, ep, _, _, _⟩ := rp
          rw [ep] at RP p0
          clear ep
          obtain ⟨b4, K4⟩ : ∃ c, ltK p.key r.key = c := ⟨_, rfl⟩
          cases b4
          · have HK : Hid (tB (RowsP idx ss rs) = false) := HKF.out (fun h => by
              obtain ⟨_, _, _, _, _, a6⟩ := h r hr
              have := a6 p (by omega) hp
              rw [K4] at this
              cases this)
            have hcd : decide (0 ≤ cmpK p.key r.key) = true := by
              have := cmpK_lt p.key r.key
              rw [K4] at this
              simp at this
              simpa using this
            clear hall HKF hr hp
            go_wp2_with (first
              | (go_at_call 71; refine (keyOkV _ r.key _ (RK _)).mono ?_; rintro e w1 ⟨rfl, rfl⟩; rw [K1])
              | (go_at_call 72; refine (valueOkV _ r.val _ (RU _)).mono ?_; rintro e w1 ⟨rfl, rfl⟩; rw [K2])
              | (go_at_call 56; refine (withinV _ _ _ _).mono ?_; rintro e w1 ⟨rfl, rfl⟩; rw [K3]))
            go_quiet ((go_at_call 73; exact Calls.quiet_of_same (compareE _ _ p.key r.key _ (RP _ _) (RK2 _ _))))
            go_wp2
            try rw [Exit.noGoto_ret]
            go_ret
            exact ⟨by rw [HK.out]; rfl, below_drewN (HB2.out _) _⟩
          · have HO : Hid (∀ q, 0 < k' + 1 → rs[k' + 1 - 1]? = some q → ltK q.key r.key = true) := fun q _ hq => by
              rw [Nat.add_sub_cancel, hp] at hq
              cases hq
              exact K4
            have hcd : decide (0 ≤ cmpK p.key r.key) = false := by
              have := (cmpK_lt p.key r.key).2 K4
              simp
              omega
            clear hp
            by_cases hh : r.holder = 0
            · rw [hh] at c3
              have HA : Hid (∀ j, j < (k' + 1) + 1 → RowAt idx ss rs j) := fun j hj => by
                by_cases e : j = (k' + 1)
                · subst e
                  intro r' hr'
                  rw [hr] at hr'
                  cases hr'
                  exact ⟨K1, HT.out.2.2, HT.out.1, HT.out.2.1, .inl hh, HO.out⟩
                · exact hall.out j (by omega)
              clear hall hh
              go_wp2_with (first
                | (go_at_call 71; refine (keyOkV _ r.key _ (RK _)).mono ?_; rintro e w1 ⟨rfl, rfl⟩; rw [K1])
                | (go_at_call 72; refine (valueOkV _ r.val _ (RU _)).mono ?_; rintro e w1 ⟨rfl, rfl⟩; rw [K2])
                | (go_at_call 56; refine (withinV _ _ _ _).mono ?_; rintro e w1 ⟨rfl, rfl⟩; rw [K3]))
              go_quiet ((go_at_call 73; exact Calls.quiet_of_same (compareE _ _ p.key r.key _ (RP _ _) (RK2 _ _))))
              go_wp2
              go_roundg g
              case measure => omega
              case rel => exact ⟨(k' + 1) + 1, by omega, by first | rfl | simp, (HX2.out _).tr (ext_drewN _ _), below_drewN (HB2.out _) _, HA⟩
            · have hh' : (r.holder == 0) = false := by simpa using hh
              go_wp2_with (first
                | (go_at_call 71; refine (keyOkV _ r.key _ (RK _)).mono ?_; rintro e w1 ⟨rfl, rfl⟩; rw [K1])
                | (go_at_call 72; refine (valueOkV _ r.val _ (RU _)).mono ?_; rintro e w1 ⟨rfl, rfl⟩; rw [K2])
                | (go_at_call 56; refine (withinV _ _ _ _).mono ?_; rintro e w1 ⟨rfl, rfl⟩; rw [K3]))
              go_quiet ((go_at_call 73; exact Calls.quiet_of_same (compareE _ _ p.key r.key _ (RP _ _) (RK2 _ _))))
              go_wp2
              generalize hV : (wr.alloc _).drewN _ = V
              have HV : Hid (Ext W V ∧ Below w.heap.size w V ∧ Ext w V) := by rw [← hV]; exact ⟨(HX2.out _).tr (ext_drewN _ _), below_drewN (HB2.out _) _, (HXX.out.tr (hE _ _)).tr (ext_drewN _ _)⟩
              have HV3 : Hid (V.cell? ⟨wr.heap.size, 3, none⟩ = some (.int .i64 r.holder)) := by rw [← hV]; exact (at_block (heap_alloc_new wr _) 3 _ rfl).1
              clear hV c0 c1 c2 c3 g0 g1 g4 RK RU HKC HX2 HB2
              go_loopg [58] m (fun g2 s58 wy => ∃ j : Nat, j + g2 = m ∧ s58 = .int .i64 j ∧ Ext V wy ∧ Below w.heap.size w wy ∧ Hid (∀ i s, i < j → ss[i]? = some s → s.id ≠ r.holder))
              case atStart => exact ⟨0, by omega, rfl, Ext.re _, HV.out.2.1, fun i s hi => absurd hi (by omega)⟩
              case round =>
                obtain ⟨j, hjg, rfl, hx3, hb3, hno⟩ := hrel
                cases gk with
                | zero =>
                  have hjz : ¬ ((j : Int) < (m : Int)) := by omega
                  have HK : Hid (tB (RowsP idx ss rs) = false) := HKF.out (fun h => by
                    obtain ⟨_, _, _, _, a5, _⟩ := h r hr
                    rcases a5 with a5 | ⟨i, s, hi, hs⟩
                    · exact hh a5
                    · exact hno.out i s (by have := get_lt hi; have := HM.out; omega) hi hs)
                  clear hall hno
                  go_wp2
                  try rw [Exit.noGoto_ret]
                  go_ret
                  exact ⟨by rw [HK.out]; rfl, hb3⟩
                | succ g2 =>
                  have hjz : (j : Int) < (m : Int) := by omega
                  obtain ⟨b', o', rfl, hbl', hd⟩ := H3'.out (by omega)
                  obtain ⟨s, hs⟩ : ∃ s, ss[j]? = some s := ⟨_, List.getElem?_eq_getElem (by have := HM.out; omega)⟩
                  obtain ⟨f0, f1⟩ := HD.out j s hs
                  have d0 := World.grownBy.cell (HV.out.2.2.tr hx3) (hd j (by omega) 0 (by omega)) (by simp)
                  have d1 := World.grownBy.cell (HV.out.2.2.tr hx3) (hd j (by omega) 1 (by omega)) (by simp)
                  rw [f0, Nat.add_zero] at d0
                  rw [f1] at d1
                  have g3 := fun ob => World.grownBy.cell (hx3.tr (hE wr ob)) HV3.out (by simp)
                  clear hd f0 f1
                  by_cases hid : s.id = r.holder
                  · have HA : Hid (∀ j, j < (k' + 1) + 1 → RowAt idx ss rs j) := fun i hi => by
                      by_cases e : i = (k' + 1)
                      · subst e
                        intro r' hr'
                        rw [hr] at hr'
                        cases hr'
                        exact ⟨K1, HT.out.2.2, HT.out.1, HT.out.2.1, .inr ⟨j, s, hs, hid⟩, HO.out⟩
                      · exact hall.out i (by omega)
                    rw [hid] at d0
                    clear hall hno hid
                    go_wp2
                    go_roundg g
                    case measure => omega
                    case rel => exact ⟨(k' + 1) + 1, by omega, by first | rfl | simp, HV.out.1.tr (hx3.tr (hE _ _)), hb3.alloc hb3.size _, HA⟩
                  · have HNo : Hid (∀ i s, i < j + 1 → ss[i]? = some s → s.id ≠ r.holder) := fun i s' hi hs' => by
                      by_cases e : i = j
                      · subst e
                        rw [hs] at hs'
                        cases hs'
                        exact hid
                      · exact hno.out i s' (by omega) hs'
                    have hid' : (s.id == r.holder) = false := by simpa using hid
                    clear hno hid
                    go_wp2
                    go_roundg g2
                    case measure => omega
                    case rel => exact ⟨j + 1, by omega, by first | rfl | simp, hx3.tr (hE _ _), hb3.alloc hb3.size _, HNo⟩
end Go.Proofs.Ytknemgmfbmmngaa
