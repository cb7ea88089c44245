/- The program's roleOk: role 2. -/
import Derived.Test.YtdcbajejgphlgaaNdR
namespace Go.Proofs.Ytdcbajejgphlgaa
open Go.RowKit

set_option linter.unusedSimpArgs false in
set_option linter.unusedVariables false in
set_option maxHeartbeats 40000000 in
set_option maxRecDepth 100000 in
theorem roleOkV2 (M : DNode) (s : Int) (v : Value) (w : World) (h : VNode w v M) (hr : M.role = 2) (hn : M.log.length ≤ 400) :
    Calls Try.prog 43 #[v, .int .i64 s] w fun e w' => e = .returned (.bool (sizeB M s && role2B M)) ∧ Below w.heap.size w w' := by
  have hE : ∀ w : World, ∀ o, Ext w (w.alloc o) := fun w o => World.grownBy_alloc _ _ _
  have hB : ∀ w : World, ∀ o, Below w.heap.size w (w.alloc o) := fun w o => (Below.refl _ w).alloc (Nat.le_refl _) _
  obtain ⟨lv, bv, nv, mv, rfl, hi, hbv, hnv, hmv⟩ := h
  obtain ⟨ia, ic, rfl⟩ := items_shape hi
  have HVB : Hid (VL fB w bv M.votes) := hbv
  have HVN : Hid (VL fI w nv M.next) := hnv
  have HVM : Hid (VL fI w mv M.mat) := hmv
  obtain ⟨ba, bc, rfl⟩ := vl_shape hbv
  obtain ⟨na, nc, rfl⟩ := vl_shape hnv
  obtain ⟨ma, mc, rfl⟩ := vl_shape hmv
  clear hi hbv hnv hmv
  rw [hr]
  clear hr
  unfold sizeB role2B
  unfold selfB
  obtain ⟨tn, TN⟩ : ∃ t, (M.next.all fun x => inB x 1 (M.log.length + 1)) = t := ⟨_, rfl⟩
  obtain ⟨tm, TM⟩ : ∃ t, (M.mat.all fun x => inB x 0 M.log.length) = t := ⟨_, rfl⟩
  have HTN : Hid ((M.next.all fun x => inB x 1 (M.log.length + 1)) = tn) := TN
  have HTM : Hid ((M.mat.all fun x => inB x 0 M.log.length) = tm) := TM
  rw [TN, TM]
  clear TN TM
  generalize hln : M.log.length = n at HTN HTM hn ⊢
  obtain ⟨n1, hn1⟩ : ∃ n, n = M.votes.length := ⟨_, rfl⟩
  obtain ⟨n2, hn2⟩ : ∃ n, n = M.next.length := ⟨_, rfl⟩
  obtain ⟨n3, hn3⟩ : ∃ n, n = M.mat.length := ⟨_, rfl⟩
  rw [← hn1] at HVB
  rw [← hn2] at HVN
  rw [← hn3] at HVM
  rw [← hn1, ← hn2, ← hn3]
  clear hln hn1 hn2 hn3
  have HWN : Hid (∀ w', Ext w w' → Calls Try.prog 57 #[.slice na n2 nc, .int .i64 1, .int .i64 (n + 1)] w' fun e w'' => e = .returned (.bool tn) ∧ Below w'.heap.size w' w'') := fun w' e => by
    have := allWithinV _ M.next 1 (n + 1) w' (HVN.out.ext e)
    rw [HTN.out] at this
    exact this
  have HWM : Hid (∀ w', Ext w w' → Calls Try.prog 57 #[.slice ma n3 mc, .int .i64 0, .int .i64 n] w' fun e w'' => e = .returned (.bool tm) ∧ Below w'.heap.size w' w'') := fun w' e => by
    have := allWithinV _ M.mat 0 n w' (HVM.out.ext e)
    rw [HTM.out] at this
    exact this
  have hX : ∀ o, Ext w (w.alloc o) := hE w
  have hXd : ∀ o q, Ext w ((w.alloc o).drewN q) := fun o q => (hE w o).tr (ext_drewN _ q)
  cases t1 : ((n1 : Int) == s)
  case false =>
    have u1 : ((n1 : Int) != s) = true := by simpa using t1
    go_enter Try.func43, Try.ntmps43
    go_wp2
    go_ret
    exact ⟨by simp, hB _ _⟩
  have u1 : ((n1 : Int) != s) = false := by simpa using t1
  cases t2 : ((n2 : Int) == s)
  case false =>
    have u2 : ((n2 : Int) != s) = true := by simpa using t2
    go_enter Try.func43, Try.ntmps43
    go_wp2
    go_ret
    exact ⟨by simp, hB _ _⟩
  have u2 : ((n2 : Int) != s) = false := by simpa using t2
  cases t3 : ((n3 : Int) == s)
  case false =>
    have u3 : ((n3 : Int) != s) = true := by simpa using t3
    go_enter Try.func43, Try.ntmps43
    go_wp2
    go_ret
    exact ⟨by simp, hB _ _⟩
  have u3 : ((n3 : Int) != s) = false := by simpa using t3
  cases g1 : decide (1 ≤ M.term)
  case false =>
    go_enter Try.func43, Try.ntmps43
    go_wp2
    go_ret
    exact ⟨by simp, hB _ _⟩
  cases g2 : (M.vote == M.id)
  case false =>
    go_enter Try.func43, Try.ntmps43
    go_wp2
    go_ret
    exact ⟨by simp, hB _ _⟩
  cases gl : (M.lead == M.id)
  case false =>
    go_enter Try.func43, Try.ntmps43
    go_wp2
    go_ret
    exact ⟨by simp, hB _ _⟩
  cases tn
  case false =>
    go_enter Try.func43, Try.ntmps43
    go_wp2_with fail
    refine (HWN.out _ (hX _)).mono ?_
    rintro e w3 ⟨rfl, b3⟩
    have C10 := (at_block (below_blk b3 (by simp) (heap_alloc_new w _)) 10 _ rfl).1
    go_wp2
    go_ret
    exact ⟨by simp, ((hB _ _).trans (b3.mono (by simp)))⟩
  cases tm
  case false =>
    go_enter Try.func43, Try.ntmps43
    go_wp2_with fail
    refine (HWN.out _ (hX _)).mono ?_
    rintro e w3 ⟨rfl, b3⟩
    have C10 := (at_block (below_blk b3 (by simp) (heap_alloc_new w _)) 10 _ rfl).1
    go_wp2_with fail
    refine (HWM.out _ ((hX _).tr (ext_below b3))).mono ?_
    rintro e w4 ⟨rfl, b4⟩
    go_wp2
    go_ret
    exact ⟨by simp, ((hB _ _).trans (b3.mono (by simp))).trans (b4.mono (Nat.le_trans (by simp) b3.size))⟩
  go_enter Try.func43, Try.ntmps43
  go_wp2_with fail
  refine (HWN.out _ (hX _)).mono ?_
  rintro e w3 ⟨rfl, b3⟩
  have C10 := (at_block (below_blk b3 (by simp) (heap_alloc_new w _)) 10 _ rfl).1
  go_wp2_with fail
  refine (HWM.out _ ((hX _).tr (ext_below b3))).mono ?_
  rintro e w4 ⟨rfl, b4⟩
  go_wp2
  go_ret
  exact ⟨by simp, ((hB _ _).trans (b3.mono (by simp))).trans (b4.mono (Nat.le_trans (by simp) b3.size))⟩

end Go.Proofs.Ytdcbajejgphlgaa
