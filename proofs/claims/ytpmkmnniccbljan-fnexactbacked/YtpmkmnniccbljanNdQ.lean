/- Backed, the specification's and the program's. -/
import Derived.Test.YtpmkmnniccbljanNdP
import Derived.Test.YtpmkmnniccbljanNdS
namespace Go.Proofs.Ytpmkmnniccbljan
open Go.RowKit

def backedR (M : DNode) (s x : Int) (h : Decidable (NodeP M s) := Classical.propDecidable (NodeP M s)) : Int := if (tB (NodeP M s) h && ((M.role == 2) && inB x 1 M.log.length)) = true then 1 + (cnt M.mat x (oth M.id M.votes.length M.votes.length) : Nat) else 0

theorem backedV (g : Nat) (x : Int) (M : DNode) (lv bv nv mv sv : Value) (w : World) (hg : Srv w g M lv bv nv mv sv) (hm : VL fI w mv M.mat) (hl : M.mat.length = M.votes.length) (hN : M.votes.length ≤ 5) :
    Calls Try.prog 45 #[.pointer (some ⟨g, 0, none⟩), .int .i64 x] w fun e w' => e = .returned (.int .i64 (1 + (cnt M.mat x (oth M.id M.votes.length M.votes.length) : Nat))) ∧ Below w.heap.size w w' :=
  (callsIn_wide (n := 3)).1 (backed_in _ 3 trivial trivial trivial rfl (by omega) g x M lv bv nv mv sv w hg hm hl hN)

set_option maxHeartbeats 4000000 in
theorem sBackedV (v : Value) (M : DNode) (s x : Int) (w : World) (h : VNode w v M) :
    Calls Try.prog 13 #[v, .int .i64 s, .int .i64 x] w fun e w' => e = .returned (.int .i64 (backedR M s x)) ∧ Below w.heap.size w w' := by
  have hE : ∀ w : World, ∀ o, Ext w (w.alloc o) := fun w o => World.grownBy_alloc _ _ _
  have hB : ∀ w : World, ∀ o, Below w.heap.size w (w.alloc o) := fun w o => (Below.refl _ w).alloc (Nat.le_refl _) _
  have H0 : Hid (VNode w v M) := h
  obtain ⟨lv, bv, nv, mv, rfl, hi, hbv, hnv, hmv⟩ := h
  have HI : Hid (VItems w lv M.log) := hi
  have HB : Hid (VL fB w bv M.votes) := hbv
  have HX : Hid (VL fI w nv M.next) := hnv
  have HM : Hid (VL fI w mv M.mat) := hmv
  obtain ⟨ia, ic, rfl⟩ := items_shape hi
  obtain ⟨ba, bc, rfl⟩ := vl_shape hbv
  obtain ⟨na, nc, rfl⟩ := vl_shape hnv
  obtain ⟨ma, mc, rfl⟩ := vl_shape hmv
  clear hi hbv hnv hmv
  obtain ⟨tb, TB⟩ : ∃ t, tB (NodeP M s) = t := ⟨_, rfl⟩
  go_enter Try.func13, Try.ntmps13
  go_wp2_with fail
  refine (sNodeOkP M s _ _ (H0.out.ext (hE _ _))).mono ?_
  rintro e w3 ⟨rfl, b3⟩
  rw [TB]
  have B3 := (hB w _).trans (b3.mono (by simp))
  have R3 := below_blk b3 (by simp) (heap_alloc_new w _)
  obtain ⟨d0, _⟩ := at_block R3 0 _ rfl
  obtain ⟨d1, _⟩ := at_block R3 1 _ rfl
  obtain ⟨d2, _⟩ := at_block R3 2 _ rfl
  obtain ⟨d3, _⟩ := at_block R3 3 _ rfl
  obtain ⟨d4, _⟩ := at_block R3 4 _ rfl
  obtain ⟨d5, _⟩ := at_block R3 5 _ rfl
  obtain ⟨d6, _⟩ := at_block R3 6 _ rfl
  obtain ⟨d7, _⟩ := at_block R3 7 _ rfl
  obtain ⟨d8, _⟩ := at_block R3 8 _ rfl
  obtain ⟨d9, _⟩ := at_block R3 9 _ rfl
  obtain ⟨d10, _⟩ := at_block R3 10 _ rfl
  have HT : Hid (tB (NodeP M s) = tb) := TB
  clear TB
  have HZ : Hid (∀ h : (tb && ((M.role == 2) && inB x 1 M.log.length)) = false, backedR M s x = 0) := fun h => by unfold backedR; rw [HT.out, h]; rfl
  cases tb
  case false =>
    go_wp2
    go_ret
    exact ⟨by rw [HZ.out rfl]; rfl, B3⟩
  cases k2 : (M.role == 2)
  case false =>
    have k2' : (M.role != 2) = true := by rw [bne, k2]; rfl
    go_wp2
    go_ret
    exact ⟨by rw [HZ.out (by rw [k2]; rfl)]; rfl, B3⟩
  have k2' : (M.role != 2) = false := by rw [bne, k2]; rfl
  by_cases k3 : x < 1
  · have HZ2 := HZ.out (by rw [k2]; unfold inB; simp; omega)
    have HZ3 : Hid (backedR M s x = 0) := HZ2
    clear HZ HZ2
    go_wp2
    go_ret
    exact ⟨by rw [HZ3.out]; rfl, B3⟩
  by_cases k4 : (M.log.length : Int) < x
  · have HZ2 := HZ.out (by rw [k2]; unfold inB; simp; omega)
    have HZ3 : Hid (backedR M s x = 0) := HZ2
    clear HZ HZ2
    go_wp2
    go_ret
    exact ⟨by rw [HZ3.out]; rfl, B3⟩
  have HF : Hid (backedR M s x = 1 + (cnt M.mat x (oth M.id M.votes.length M.votes.length) : Nat)) := by
    show _ = _
    unfold backedR
    rw [HT.out, k2, if_pos]
    unfold inB
    simp
    omega
  have HP : Hid (NodeP M s) := tB_iff.1 HT.out
  clear HZ
  have HNH : Hid ((M.votes.length : Int) = s ∧ M.mat.length = M.votes.length ∧ M.votes.length ≤ 5) := by
    have := HP.out.1
    unfold NHeadP at this
    refine ⟨by omega, by omega, by omega⟩
  obtain ⟨N, hN⟩ : ∃ N, N = M.votes.length := ⟨_, rfl⟩
  rw [← hN] at HF HNH
  obtain ⟨a, cap, hv, m1, m2, m3⟩ := (HM.out.ext (hE _ _)).ext (ext_below b3)
  simp only [Value.slice.injEq] at hv
  obtain ⟨rfl, _, rfl⟩ := hv
  have HMC : Hid (0 < N → ∃ b o, ma = some ⟨b, o, none⟩ ∧ b < w3.heap.size ∧ ∀ (i : Nat) (y : Int), M.mat[i]? = some y → w3.cell? ⟨b, o + i, none⟩ = some (fI y)) := fun h => m3 (by have := HNH.out; omega)
  obtain rfl : s = (N : Int) := HNH.out.1.symm
  have hN5 : N ≤ 5 := HNH.out.2.2
  obtain ⟨n3, hn3⟩ : ∃ n, n = M.mat.length := ⟨_, rfl⟩
  replace d10 : w3.cell? ⟨w.heap.size, 10, none⟩ = some (.slice ma n3 mc) := by rw [hn3]; exact d10
  have hn3' : n3 = N := by rw [hn3]; exact HNH.out.2.1
  subst hn3'
  have HLM : Hid (n3 = M.mat.length) := hn3
  clear m1 m2 m3 hn3 hN
  go_wp2
  clear k3 k4
  go_loopw [7, 8] (fun kv i wr => ∃ k : Nat, k ≤ n3 ∧ i = .int .i64 k ∧ wr = w3 ∧ ∃ c : Nat, kv = .int .i64 (1 + (c : Int)) ∧ c ≤ 5 ∧ Hid (c = cnt M.mat x (oth M.id n3 k))) (fun _ i _ => n3 - (intOf i).toNat)
  case atStart => exact ⟨0, Nat.zero_le _, rfl, rfl, 0, rfl, by omega, by show _ = _; rfl⟩
  case round =>
    obtain ⟨k, hk, rfl, rfl, c, rfl, hc5, HCN⟩ := hrel
    by_cases hlt : k < n3
    · obtain ⟨b, o, rfl, hbl, hc⟩ := HMC.out (by omega)
      obtain ⟨q, hq⟩ : ∃ q, M.mat[k]? = some q := ⟨_, List.getElem?_eq_getElem (by have := HLM.out; omega)⟩
      have ck : wr.cell? ⟨b, o + k, none⟩ = some (.int .i64 q) := hc k q hq
      have HQ : Hid (M.mat.getD k 0 = q) := by show _ = _; simp [List.getD, hq]
      have hlt' : (k : Int) < (n3 : Int) := by omega
      clear hc hq
      by_cases e : (k : Int) = M.id
      · have hne : ((k : Int) != M.id) = false := by simpa using e
        have HA : Hid (c = cnt M.mat x (oth M.id n3 (k + 1))) := by show _ = _; rw [oth_self hlt e]; exact HCN.out
        clear e HCN
        go_wp2
        go_roundw
        case rel => exact ⟨k + 1, by omega, by go_num, trivial, c, rfl, hc5, HA⟩
        case measure => simp [intOf]; omega
      · have hne : ((k : Int) != M.id) = true := by simpa using e
        have HO : Hid (oth M.id n3 (k + 1) = oth M.id n3 k ++ [⟨k, hlt⟩]) := oth_next hlt e
        clear e
        by_cases hle : x ≤ q
        · have HA : Hid (c + 1 = cnt M.mat x (oth M.id n3 (k + 1)) ∧ c + 1 ≤ 5) := by
            have h9 : c + 1 = cnt M.mat x (oth M.id n3 (k + 1)) := by rw [HO.out, cnt_yes (by show x ≤ M.mat.getD k 0; rw [HQ.out]; exact hle), HCN.out]
            refine ⟨h9, ?_⟩
            have := cnt_le M.mat x (oth M.id n3 (k + 1))
            have := oth_len M.id n3 (k + 1)
            omega
          clear HCN HO
          go_wp2
          go_roundw
          case rel => exact ⟨k + 1, by omega, by go_num, trivial, c + 1, by go_num, HA.out.2, HA.out.1⟩
          case measure => simp [intOf]; omega
        · have HA : Hid (c = cnt M.mat x (oth M.id n3 (k + 1))) := by
            show _ = _
            rw [HO.out, cnt_no (by show ¬ x ≤ M.mat.getD k 0; rw [HQ.out]; exact hle)]
            exact HCN.out
          clear HCN HO
          go_wp2
          go_roundw
          case rel => exact ⟨k + 1, by omega, by go_num, trivial, c, rfl, hc5, HA⟩
          case measure => simp [intOf]; omega
    · have hkn : k = n3 := by omega
      subst hkn
      go_wp2
      go_ret
      exact ⟨by rw [HF.out, ← HCN.out]; rfl, B3⟩

set_option maxHeartbeats 4000000 in
theorem iBackedV (v : Value) (M : DNode) (s x : Int) (w : World) (h : VNode w v M) :
    Calls Try.prog 14 #[v, .int .i64 s, .int .i64 x] w fun e w' => e = .returned (.int .i64 (backedR M s x)) ∧ Below w.heap.size w w' := by
  have hE : ∀ w : World, ∀ o, Ext w (w.alloc o) := fun w o => World.grownBy_alloc _ _ _
  have hB : ∀ w : World, ∀ o, Below w.heap.size w (w.alloc o) := fun w o => (Below.refl _ w).alloc (Nat.le_refl _) _
  have H0 : Hid (VNode w v M) := h
  obtain ⟨lv, bv, nv, mv, rfl, hi, hbv, hnv, hmv⟩ := h
  have HI : Hid (VItems w lv M.log) := hi
  have HB : Hid (VL fB w bv M.votes) := hbv
  have HX : Hid (VL fI w nv M.next) := hnv
  have HM : Hid (VL fI w mv M.mat) := hmv
  obtain ⟨ia, ic, rfl⟩ := items_shape hi
  obtain ⟨ba, bc, rfl⟩ := vl_shape hbv
  obtain ⟨na, nc, rfl⟩ := vl_shape hnv
  obtain ⟨ma, mc, rfl⟩ := vl_shape hmv
  clear hi hbv hnv hmv
  obtain ⟨tb, TB⟩ : ∃ t, tB (NodeP M s) = t := ⟨_, rfl⟩
  go_enter Try.func14, Try.ntmps14
  go_wp2_with fail
  refine (iNodeOkP _ M s _ (H0.out.ext (hE _ _))).mono ?_
  rintro e w3 ⟨rfl, b3⟩
  rw [TB]
  have B3 := (hB w _).trans (b3.mono (by simp))
  have R3 := below_blk b3 (by simp) (heap_alloc_new w _)
  obtain ⟨d0, _⟩ := at_block R3 0 _ rfl
  obtain ⟨d1, _⟩ := at_block R3 1 _ rfl
  obtain ⟨d2, _⟩ := at_block R3 2 _ rfl
  obtain ⟨d3, _⟩ := at_block R3 3 _ rfl
  obtain ⟨d4, _⟩ := at_block R3 4 _ rfl
  obtain ⟨d5, _⟩ := at_block R3 5 _ rfl
  obtain ⟨d6, _⟩ := at_block R3 6 _ rfl
  obtain ⟨d7, _⟩ := at_block R3 7 _ rfl
  obtain ⟨d8, _⟩ := at_block R3 8 _ rfl
  obtain ⟨d9, _⟩ := at_block R3 9 _ rfl
  obtain ⟨d10, _⟩ := at_block R3 10 _ rfl
  have HT : Hid (tB (NodeP M s) = tb) := TB
  clear TB
  have HZ : Hid (∀ h : (tb && ((M.role == 2) && inB x 1 M.log.length)) = false, backedR M s x = 0) := fun h => by unfold backedR; rw [HT.out, h]; rfl
  cases tb
  case false =>
    go_wp2
    go_ret
    exact ⟨by rw [HZ.out rfl]; rfl, B3⟩
  cases k2 : (M.role == 2)
  case false =>
    have k2' : (M.role != 2) = true := by rw [bne, k2]; rfl
    go_wp2
    go_ret
    exact ⟨by rw [HZ.out (by rw [k2]; rfl)]; rfl, B3⟩
  have k2' : (M.role != 2) = false := by rw [bne, k2]; rfl
  cases k3 : inB x 1 M.log.length
  case false =>
    go_wp2_with (go_at_call 44; refine (withinV _ _ _ _).mono ?_; rintro e w3 ⟨rfl, rfl⟩; rw [k3])
    go_ret
    exact ⟨by rw [HZ.out (by rw [k2, k3]; rfl)]; rfl, B3⟩
  have HF : Hid (backedR M s x = 1 + (cnt M.mat x (oth M.id M.votes.length M.votes.length) : Nat)) := by show _ = _; unfold backedR; rw [HT.out, k2, k3]; rfl
  have HP : Hid (NodeP M s) := tB_iff.1 HT.out
  clear HZ
  go_wp2_with (go_at_call 44; refine (withinV _ _ _ _).mono ?_; rintro e w3 ⟨rfl, rfl⟩; rw [k3])
  refine (serverOfV M _ _ _ _ w3 ((HI.out.ext (hE _ _)).ext (ext_below b3)) ((HB.out.ext (hE _ _)).ext (ext_below b3)) ((HX.out.ext (hE _ _)).ext (ext_below b3)) ((HM.out.ext (hE _ _)).ext (ext_below b3))).mono ?_
  rintro e w4 ⟨g, rfl, hg, hsv, b4⟩
  have B4 := B3.trans (b4.mono B3.size)
  have HM4 : Hid (VL fI w4 (.slice ma M.mat.length mc) M.mat) := (HM.out.ext (hE _ _)).ext (ext_below b3) |>.ext (ext_below b4)
  go_wp2_with fail
  refine (backedV g x M _ _ _ _ _ w4 hsv HM4.out (by have := HP.out.1; unfold NHeadP at this; omega) (by have := HP.out.1; unfold NHeadP at this; omega)).mono ?_
  rintro e w5 ⟨rfl, b5⟩
  rw [← HF.out]
  go_wp2
  go_ret
  exact ⟨rfl, B4.trans (b5.mono B4.size)⟩

end Go.Proofs.Ytpmkmnniccbljan
