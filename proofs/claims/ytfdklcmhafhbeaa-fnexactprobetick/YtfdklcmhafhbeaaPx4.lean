/- The program's ProberOk. -/
import Derived.Test.YtfdklcmhafhbeaaPx3
import Derived.Test.YtfdklcmhafhbeaaPx0
namespace Go.Proofs.Ytfdklcmhafhbeaa
open Go.RowKit

/-- The seven tests of ProberOk, one behind the other. -/
theorem proP_iff (P : DPro) : ProP P ↔ (OrdB P.order ∧ inB P.next 0 P.order.length = true ∧ inB P.seed 0 2147483647 = true ∧ inB P.state 0 2 = true ∧ inB P.who 0 11 = true ∧ inB P.wait 0 4 = true ∧ (P.state ≠ 0 ∨ (P.who = 0 ∧ P.wait = 0))) := by
  unfold ProP OrdB inB
  simp only [Bool.and_eq_true, decide_eq_true_eq]
  constructor
  · rintro ⟨h1, h2, h3, h4, h5, h6, h7, h8⟩
    exact ⟨⟨h1, h7⟩, h2, h3, h4, ⟨h6.1, by omega⟩, h5, h8⟩
  · rintro ⟨⟨h1, h7⟩, h2, h3, h4, h6, h5, h8⟩
    exact ⟨h1, h2, h3, h4, h5, ⟨h6.1, by omega⟩, h7, h8⟩

set_option maxRecDepth 20000 in
set_option maxHeartbeats 4000000 in
theorem iProberOkV (v : Value) (P : DPro) (w : World) (h : VPro w v P) (_hn : P.order.length ≤ 1048576) :
    Calls Try.prog 32 #[v] w fun e w' => e = .returned (.bool (tB (ProP P))) ∧ Below w.heap.size w w' := by
  have hB : ∀ w : World, ∀ o, Below w.heap.size w (w.alloc o) := fun w o => (Below.refl _ w).alloc (Nat.le_refl _) _
  have hE : ∀ w : World, ∀ o, Ext w (w.alloc o) := fun w o => World.grownBy_alloc _ _ _
  obtain ⟨ov, rfl, ho⟩ := h
  obtain ⟨a, cap, rfl⟩ := vl_shape ho
  obtain ⟨n, hnn⟩ : ∃ n, n = P.order.length := ⟨_, rfl⟩
  have HV : Hid (VL fI w (.slice a n cap) P.order) := by rw [hnn]; exact ho
  obtain ⟨R, hR⟩ : ∃ R, R = tB (ProP P) := ⟨_, rfl⟩
  rw [← hR]
  have HI := proP_iff P
  rw [← hnn] at HI ⊢
  have HNO : Hid (¬ ProP P → R = false) := fun h => by rw [hR]; exact tB_false h
  have HYE : Hid (ProP P → R = true) := fun h => by rw [hR]; exact tB_true h
  rw [HI] at HNO HYE
  have hml : (n : Int) ≤ 1048576 := by omega
  clear ho hnn hR HI _hn
  obtain ⟨os, nx, sd, st, wh, wt⟩ := P
  simp only at HNO HYE HV ⊢
  go_enter Try.func32, Try.ntmps32
  cases t0 : tB (OrdB os)
  · have HK : Hid (R = false) := HNO.out (fun h => by have := tB_true h.1; rw [t0] at this; cases this)
    clear HNO HYE
    go_wp2_with (go_at_call 52; refine (orderOkV _ os _ (HV.out.ext (hE _ _))).mono ?_; rintro e w1 ⟨rfl, rfl⟩; rw [t0])
    go_ret
    exact ⟨by rw [HK.out]; rfl, hB _ _⟩
  cases t1 : inB nx 0 n
  · have HK : Hid (R = false) := HNO.out (fun h => by have := h.2.1; rw [t1] at this; cases this)
    clear HNO HYE
    go_wp2_with (first | (go_at_call 52; refine (orderOkV _ os _ (HV.out.ext (hE _ _))).mono ?_; rintro e w1 ⟨rfl, rfl⟩; rw [t0]) | (go_at_call 40; refine (withinV _ _ _ _).mono ?_; rintro e w1 ⟨rfl, rfl⟩; rw [t1]))
    go_ret
    exact ⟨by rw [HK.out]; rfl, hB _ _⟩
  cases t2 : inB sd 0 2147483647
  · have HK : Hid (R = false) := HNO.out (fun h => by have := h.2.2.1; rw [t2] at this; cases this)
    clear HNO HYE
    go_wp2_with (first | (go_at_call 52; refine (orderOkV _ os _ (HV.out.ext (hE _ _))).mono ?_; rintro e w1 ⟨rfl, rfl⟩; rw [t0]) | (go_at_call 40; refine (withinV _ _ _ _).mono ?_; rintro e w1 ⟨rfl, rfl⟩; rw [t1]) | (go_at_call 53; refine (seedOkV _ _).mono ?_; rintro e w1 ⟨rfl, rfl⟩; rw [t2]))
    go_ret
    exact ⟨by rw [HK.out]; rfl, hB _ _⟩
  cases t3 : inB st 0 2
  · have HK : Hid (R = false) := HNO.out (fun h => by have := h.2.2.2.1; rw [t3] at this; cases this)
    clear HNO HYE
    go_wp2_with (first | (go_at_call 52; refine (orderOkV _ os _ (HV.out.ext (hE _ _))).mono ?_; rintro e w1 ⟨rfl, rfl⟩; rw [t0]) | (go_at_call 40; refine (withinV _ _ _ _).mono ?_; rintro e w1 ⟨rfl, rfl⟩; rw [t1]) | (go_at_call 53; refine (seedOkV _ _).mono ?_; rintro e w1 ⟨rfl, rfl⟩; rw [t2]) | (go_at_call 40; refine (withinV _ _ _ _).mono ?_; rintro e w1 ⟨rfl, rfl⟩; rw [t3]))
    go_ret
    exact ⟨by rw [HK.out]; rfl, hB _ _⟩
  cases t4 : inB wh 0 11
  · have HK : Hid (R = false) := HNO.out (fun h => by have := h.2.2.2.2.1; rw [t4] at this; cases this)
    clear HNO HYE
    go_wp2_with (first | (go_at_call 52; refine (orderOkV _ os _ (HV.out.ext (hE _ _))).mono ?_; rintro e w1 ⟨rfl, rfl⟩; rw [t0]) | (go_at_call 40; refine (withinV _ _ _ _).mono ?_; rintro e w1 ⟨rfl, rfl⟩; rw [t1]) | (go_at_call 53; refine (seedOkV _ _).mono ?_; rintro e w1 ⟨rfl, rfl⟩; rw [t2]) | (go_at_call 40; refine (withinV _ _ _ _).mono ?_; rintro e w1 ⟨rfl, rfl⟩; rw [t3]) | (go_at_call 40; refine (withinV _ _ _ _).mono ?_; rintro e w1 ⟨rfl, rfl⟩; rw [t4]))
    go_ret
    exact ⟨by rw [HK.out]; rfl, hB _ _⟩
  cases t5 : inB wt 0 4
  · have HK : Hid (R = false) := HNO.out (fun h => by have := h.2.2.2.2.2.1; rw [t5] at this; cases this)
    clear HNO HYE
    go_wp2_with (first | (go_at_call 52; refine (orderOkV _ os _ (HV.out.ext (hE _ _))).mono ?_; rintro e w1 ⟨rfl, rfl⟩; rw [t0]) | (go_at_call 40; refine (withinV _ _ _ _).mono ?_; rintro e w1 ⟨rfl, rfl⟩; rw [t1]) | (go_at_call 53; refine (seedOkV _ _).mono ?_; rintro e w1 ⟨rfl, rfl⟩; rw [t2]) | (go_at_call 40; refine (withinV _ _ _ _).mono ?_; rintro e w1 ⟨rfl, rfl⟩; rw [t3]) | (go_at_call 40; refine (withinV _ _ _ _).mono ?_; rintro e w1 ⟨rfl, rfl⟩; rw [t4]) | (go_at_call 40; refine (withinV _ _ _ _).mono ?_; rintro e w1 ⟨rfl, rfl⟩; rw [t5]))
    go_ret
    exact ⟨by rw [HK.out]; rfl, hB _ _⟩
  have HOB : Hid (OrdB os) := tB_iff.1 t0
  have HALL : Hid (st ≠ 0 ∨ (wh = 0 ∧ wt = 0) → R = true) := fun h => HYE.out ⟨HOB.out, t1, t2, t3, t4, t5, h⟩
  have HNOT : Hid (¬ (st ≠ 0 ∨ (wh = 0 ∧ wt = 0)) → R = false) := fun h => HNO.out (fun h' => h h'.2.2.2.2.2.2)
  clear HNO HYE
  by_cases e1 : st = 0
  · have e1' : (st != 0) = false := by simp [e1]
    by_cases e2 : wh = 0
    · have e2' : (wh == 0) = true := by simp [e2]
      by_cases e3 : wt = 0
      · have e3' : (wt == 0) = true := by simp [e3]
        have HK : Hid (R = true) := HALL.out (.inr ⟨e2, e3⟩)
        clear e1 e2 e3
        go_wp2_with (first | (go_at_call 52; refine (orderOkV _ os _ (HV.out.ext (hE _ _))).mono ?_; rintro e w1 ⟨rfl, rfl⟩; rw [t0]) | (go_at_call 40; refine (withinV _ _ _ _).mono ?_; rintro e w1 ⟨rfl, rfl⟩; rw [t1]) | (go_at_call 53; refine (seedOkV _ _).mono ?_; rintro e w1 ⟨rfl, rfl⟩; rw [t2]) | (go_at_call 40; refine (withinV _ _ _ _).mono ?_; rintro e w1 ⟨rfl, rfl⟩; rw [t3]) | (go_at_call 40; refine (withinV _ _ _ _).mono ?_; rintro e w1 ⟨rfl, rfl⟩; rw [t4]) | (go_at_call 40; refine (withinV _ _ _ _).mono ?_; rintro e w1 ⟨rfl, rfl⟩; rw [t5]))
        go_ret
        exact ⟨by rw [HK.out]; rfl, hB _ _⟩
      · have e3' : (wt == 0) = false := by simp [e3]
        have HK : Hid (R = false) := HNOT.out (fun h => h.elim (fun h => h e1) (fun h => e3 h.2))
        clear e1 e2 e3
        go_wp2_with (first | (go_at_call 52; refine (orderOkV _ os _ (HV.out.ext (hE _ _))).mono ?_; rintro e w1 ⟨rfl, rfl⟩; rw [t0]) | (go_at_call 40; refine (withinV _ _ _ _).mono ?_; rintro e w1 ⟨rfl, rfl⟩; rw [t1]) | (go_at_call 53; refine (seedOkV _ _).mono ?_; rintro e w1 ⟨rfl, rfl⟩; rw [t2]) | (go_at_call 40; refine (withinV _ _ _ _).mono ?_; rintro e w1 ⟨rfl, rfl⟩; rw [t3]) | (go_at_call 40; refine (withinV _ _ _ _).mono ?_; rintro e w1 ⟨rfl, rfl⟩; rw [t4]) | (go_at_call 40; refine (withinV _ _ _ _).mono ?_; rintro e w1 ⟨rfl, rfl⟩; rw [t5]))
        go_ret
        exact ⟨by rw [HK.out]; rfl, hB _ _⟩
    · have e2' : (wh == 0) = false := by simp [e2]
      have HK : Hid (R = false) := HNOT.out (fun h => h.elim (fun h => h e1) (fun h => e2 h.1))
      clear e1 e2
      go_wp2_with (first | (go_at_call 52; refine (orderOkV _ os _ (HV.out.ext (hE _ _))).mono ?_; rintro e w1 ⟨rfl, rfl⟩; rw [t0]) | (go_at_call 40; refine (withinV _ _ _ _).mono ?_; rintro e w1 ⟨rfl, rfl⟩; rw [t1]) | (go_at_call 53; refine (seedOkV _ _).mono ?_; rintro e w1 ⟨rfl, rfl⟩; rw [t2]) | (go_at_call 40; refine (withinV _ _ _ _).mono ?_; rintro e w1 ⟨rfl, rfl⟩; rw [t3]) | (go_at_call 40; refine (withinV _ _ _ _).mono ?_; rintro e w1 ⟨rfl, rfl⟩; rw [t4]) | (go_at_call 40; refine (withinV _ _ _ _).mono ?_; rintro e w1 ⟨rfl, rfl⟩; rw [t5]))
      go_ret
      exact ⟨by rw [HK.out]; rfl, hB _ _⟩
  · have e1' : (st != 0) = true := by simp [e1]
    have HK : Hid (R = true) := HALL.out (.inl e1)
    clear e1
    go_wp2_with (first | (go_at_call 52; refine (orderOkV _ os _ (HV.out.ext (hE _ _))).mono ?_; rintro e w1 ⟨rfl, rfl⟩; rw [t0]) | (go_at_call 40; refine (withinV _ _ _ _).mono ?_; rintro e w1 ⟨rfl, rfl⟩; rw [t1]) | (go_at_call 53; refine (seedOkV _ _).mono ?_; rintro e w1 ⟨rfl, rfl⟩; rw [t2]) | (go_at_call 40; refine (withinV _ _ _ _).mono ?_; rintro e w1 ⟨rfl, rfl⟩; rw [t3]) | (go_at_call 40; refine (withinV _ _ _ _).mono ?_; rintro e w1 ⟨rfl, rfl⟩; rw [t4]) | (go_at_call 40; refine (withinV _ _ _ _).mono ?_; rintro e w1 ⟨rfl, rfl⟩; rw [t5]))
    go_ret
    exact ⟨by rw [HK.out]; rfl, hB _ _⟩

end Go.Proofs.Ytfdklcmhafhbeaa
