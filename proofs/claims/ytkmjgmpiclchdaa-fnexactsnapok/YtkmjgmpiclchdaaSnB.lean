/- Snapshots: the program's SnapOk. -/
import Derived.Test.YtkmjgmpiclchdaaSnA
import Derived.Test.YtkmjgmpiclchdaaIState
import Derived.Test.YtkmjgmpiclchdaaICmd
namespace Go.Proofs.Ytkmjgmpiclchdaa
open Go.RowKit

/-- It may be a snapshot. -/
def SnP (P : DSnap) : Prop := StP P.base ∧ P.rest.length ≤ 400 ∧ (P.rest.length : Int) ≤ 1000000 - P.base.index ∧ ∀ (i : Nat) (s : DCmd), P.rest[i]? = some s → cmdB s = true

set_option maxHeartbeats 1000000 in
theorem roomV (rv tv lov sv lv : Value) (idx : Int) (w : World) (h0 : 0 ≤ idx) (h1 : idx ≤ 1000000) :
    Calls Try.prog 16 #[.agg #[.int .i64 idx, rv, tv, lov, sv, lv]] w fun e w' => e = .returned (.int .i64 (min 400 (1000000 - idx))) ∧ Below w.heap.size w w' := by
  have hB : ∀ w : World, ∀ o, Below w.heap.size w (w.alloc o) := fun w o => (Below.refl _ w).alloc (Nat.le_refl _) _
  go_enter Try.func16, Try.ntmps16
  go_wp2
  · go_ret
    exact ⟨by rw [Int.min_eq_right (by omega)]; rfl, hB _ _⟩
  · go_ret
    exact ⟨by rw [Int.min_eq_left (by omega)]; rfl, hB _ _⟩

set_option maxHeartbeats 1000000 in
theorem notCmdV (v : Value) (d : DCmd) (w : World) (h : VCmd w v d) :
    Calls Try.prog 18 #[v] w fun e w' => e = .returned (.bool (!cmdB d)) ∧ Below w.heap.size w w' := by
  have hE : ∀ w : World, ∀ o, Ext w (w.alloc o) := fun w o => World.grownBy_alloc _ _ _
  have hB : ∀ w : World, ∀ o, Below w.heap.size w (w.alloc o) := fun w o => (Below.refl _ w).alloc (Nat.le_refl _) _
  obtain ⟨kv, vv, rfl, rk, rv⟩ := h
  go_enter Try.func18, Try.ntmps18
  go_wp2_with fail
  refine (iCmdOkV _ d _ ⟨kv, vv, rfl, rk.ext (hE _ _), rv.ext (hE _ _)⟩).mono ?_
  rintro e w1 ⟨rfl, b1⟩
  go_wp2
  go_ret
  exact ⟨rfl, (hB _ _).trans (b1.mono (by simp))⟩

def notAll (rs : List DCmd) : Bool := rs.any fun d => !cmdB d

set_option maxHeartbeats 2000000 in
theorem indexCV (v : Value) (ss : List DCmd) (w : World) (h : VCmds w v ss) (hn : ss.length ≤ 1048576) :
    Calls Try.prog 44 #[v, .func (.func 18) #[] #[]] w fun e w' => ∃ r : Int, e = .returned (.int .i64 r) ∧ decide (r ≥ 0) = notAll ss ∧ Below w.heap.size w w' := by
  obtain ⟨C, ⟨a, cap, rfl, h1, h2, h3⟩, hC⟩ := h
  have HC : Hid (∀ i d, ss[i]? = some d → C i 0 = .int .i64 d.client ∧ C i 1 = .int .i64 d.req ∧ C i 2 = .int .i64 d.op.kind ∧ RV w (C i 3) d.op.key ∧ RV w (C i 4) d.op.val ∧ C i 5 = .int .i64 d.op.n) := hC
  clear hC
  obtain ⟨n, hnn⟩ : ∃ n, n = ss.length := ⟨_, rfl⟩
  rw [← hnn] at h1 h3 hn ⊢
  have HN : Hid (n = ss.length) := hnn
  clear hnn
  have H3 : Hid (0 < n → ∃ b o, a = some ⟨b, o, none⟩ ∧ b < w.heap.size ∧ ∀ i, i < n → ∀ j, j < 6 → w.cell? ⟨b, o + i * 6 + j, none⟩ = some (C i j)) := h3
  clear h3
  have hml2 : (n : Int) ≤ 1048576 := by omega
  go_enter Try.func44, Try.ntmps44
  go_wp2
  go_loopw [8] (fun i wr => ∃ k : Nat, k ≤ n ∧ i = .int .i64 k ∧ Hid (∀ j d, j < k → ss[j]? = some d → cmdB d = true) ∧ Below w.heap.size w wr) (fun i _ => n - (intOf i).toNat)
  case atStart => exact ⟨0, Nat.zero_le _, rfl, fun j d hj => absurd hj (by omega), Below.refl _ _⟩
  case round =>
    obtain ⟨k, hk, rfl, hall, hb⟩ := hrel
    by_cases hlt : k < n
    · obtain ⟨b, o, rfl, hbl, hc⟩ := H3.out (by omega)
      obtain ⟨s, hs⟩ : ∃ s, ss[k]? = some s := ⟨_, List.getElem?_eq_getElem (by have := HN.out; omega)⟩
      obtain ⟨e0, e1, e2, e3, e4, e5⟩ := HC.out k s hs
      have X := ext_below hb
      have c0 := World.grownBy.cell X (hc k hlt 0 (by omega)) (by simp)
      rw [Nat.add_zero, e0] at c0
      have c1 := World.grownBy.cell X (hc k hlt 1 (by omega)) (by simp)
      rw [e1] at c1
      have c2 := World.grownBy.cell X (hc k hlt 2 (by omega)) (by simp)
      rw [e2] at c2
      have c3 := World.grownBy.cell X (hc k hlt 3 (by omega)) (by simp)
      have cr3 := e3.ext X
      obtain ⟨ca3, cp3, cx3, _, _, _⟩ := e3
      rw [cx3] at cr3 c3
      have c4 := World.grownBy.cell X (hc k hlt 4 (by omega)) (by simp)
      have cr4 := e4.ext X
      obtain ⟨ca4, cp4, cx4, _, _, _⟩ := e4
      rw [cx4] at cr4 c4
      have c5 := World.grownBy.cell X (hc k hlt 5 (by omega)) (by simp)
      rw [e5] at c5
      have hlt' : (k : Int) < (n : Int) := by omega
      clear hc
      have HV : Hid (VCmd wr (.agg #[.int .i64 s.client, .int .i64 s.req, .int .i64 s.op.kind, .slice ca3 s.op.key.length cp3, .slice ca4 s.op.val.length cp4, .int .i64 s.op.n]) s) := ⟨_, _, rfl, cr3, cr4⟩
      clear cr3 cr4 cx3 cx4
      go_wp2_with fail
      refine (notCmdV _ s wr HV.out).mono ?_
      rintro e w2 ⟨rfl, b2⟩
      have hb2 := hb.trans (b2.mono hb.size)
      cases hcb : cmdB s
      · have HR : Hid (notAll ss = true) := by
          show _ = _
          unfold notAll
          rw [List.any_eq_true]
          exact ⟨s, List.mem_of_getElem? hs, by rw [hcb]; rfl⟩
        clear hcb
        go_wp2
        go_ret
        exact ⟨k, rfl, by rw [HR.out]; simp, hb2⟩
      · have HA : Hid (∀ j d, j < k + 1 → ss[j]? = some d → cmdB d = true) := fun j d hj hd => by
          by_cases e : j = k
          · subst e
            rw [hs] at hd
            cases hd
            exact hcb
          · exact hall.out j d (by omega) hd
        clear hcb
        go_wp2
        go_roundw
        case rel => exact ⟨k + 1, by omega, by go_num, HA, hb2⟩
        case measure => simp [intOf]; omega
    · have hkn : k = n := by omega
      subst hkn
      have HR : Hid (notAll ss = false) := by
        show _ = _
        unfold notAll
        rw [List.any_eq_false]
        intro d hd
        obtain ⟨j, hj⟩ := List.mem_iff_getElem?.1 hd
        rw [hall.out j d (by have := (List.getElem?_eq_some_iff.1 hj).1; have := HN.out; omega) hj]
        simp
      go_wp2
      go_ret
      exact ⟨-1, rfl, by rw [HR.out]; simp, hb⟩

set_option maxHeartbeats 1000000 in
theorem containsCV (v : Value) (ss : List DCmd) (w : World) (h : VCmds w v ss) (hn : ss.length ≤ 1048576) :
    Calls Try.prog 17 #[v, .func (.func 18) #[] #[]] w fun e w' => e = .returned (.bool (notAll ss)) ∧ Below w.heap.size w w' := by
  obtain ⟨a, cap, rfl⟩ := cmds_shape h
  go_enter Try.func17, Try.ntmps17
  go_wp2_with fail
  refine (indexCV _ ss w h hn).mono ?_
  rintro e w1 ⟨r, rfl, hr, b1⟩
  go_wp2
  go_ret
  refine ⟨?_, b1⟩
  rw [← hr]
  rfl

theorem six7 {w : World} {g : Nat} {a b c d e f x : Value} {t : TypeId} (h : w.heap[g]? = some (.cells #[a, b, c, d, e, f, x] t (0, 0))) :
    w.cell? ⟨g, 0, none⟩ = some a ∧ w.cell? ⟨g, 1, none⟩ = some b ∧ w.cell? ⟨g, 2, none⟩ = some c ∧ w.cell? ⟨g, 3, none⟩ = some d ∧ w.cell? ⟨g, 4, none⟩ = some e ∧ w.cell? ⟨g, 5, none⟩ = some f ∧ w.cell? ⟨g, 6, none⟩ = some x :=
  ⟨(at_block h 0 _ rfl).1, (at_block h 1 _ rfl).1, (at_block h 2 _ rfl).1, (at_block h 3 _ rfl).1, (at_block h 4 _ rfl).1, (at_block h 5 _ rfl).1, (at_block h 6 _ rfl).1⟩

set_option maxHeartbeats 4000000 in
theorem iSnapOkV (v : Value) (P : DSnap) (w : World) (h : VSnap w v P) (hn : P.rest.length ≤ 1048576) :
    Calls Try.prog 7 #[v] w fun e w' => e = .returned (.bool (tB (SnP P))) ∧ Below w.heap.size w w' := by
  have hE : ∀ w : World, ∀ o, Ext w (w.alloc o) := fun w o => World.grownBy_alloc _ _ _
  have hB : ∀ w : World, ∀ o, Below w.heap.size w (w.alloc o) := fun w o => (Below.refl _ w).alloc (Nat.le_refl _) _
  obtain ⟨rv, tv, sv, lv, cv, rfl, hr, ht, hs, hll, hc⟩ := h
  obtain ⟨ca, cp, rfl⟩ := cmds_shape hc
  obtain ⟨n, hnn⟩ : ∃ n, n = P.rest.length := ⟨_, rfl⟩
  have HN : Hid (n = P.rest.length) := hnn
  rw [← hnn] at hn hc ⊢
  clear hnn
  go_enter Try.func7, Try.ntmps7
  go_wp2_with fail
  have P0 := heap_alloc_new w (.cells #[.int .i64 P.base.index, rv, tv, .int .i64 P.base.lost, sv, lv, .slice ca n cp] 41 (0, 0))
  have B0 := hB w (.cells #[.int .i64 P.base.index, rv, tv, .int .i64 P.base.lost, sv, lv, .slice ca n cp] 41 (0, 0))
  generalize w.alloc (.cells #[.int .i64 P.base.index, rv, tv, .int .i64 P.base.lost, sv, lv, .slice ca n cp] 41 (0, 0)) = W0 at P0 B0 ⊢
  have X0 := ext_below B0
  have HS : Hid (∀ W', Ext W0 W' → Calls Try.prog 15 #[.agg #[.int .i64 P.base.index, rv, tv, .int .i64 P.base.lost, sv, lv]] W' fun e w' => e = .returned (.bool (tB (StP P.base))) ∧ Below W'.heap.size W' w') := fun W' e => iStateOkV _ P.base W' ⟨rv, tv, sv, lv, rfl, (hr.ext X0).ext e, (ht.ext X0).ext e, (hs.ext X0).ext e, (hll.ext X0).ext e⟩
  have HF : Hid (∀ W', Ext W0 W' → Calls Try.prog 17 #[.slice ca n cp, .func (.func 18) #[] #[]] W' fun e w' => e = .returned (.bool (notAll P.rest)) ∧ Below W'.heap.size W' w') := fun W' e => containsCV _ P.rest W' ((hc.ext X0).ext e) (by have := HN.out; omega)
  obtain ⟨c0, c1, c2, c3, c4, c5, c6⟩ := six7 P0
  have c0w := bw_cell c0
  have c1w := bw_cell c1
  have c2w := bw_cell c2
  have c3w := bw_cell c3
  have c4w := bw_cell c4
  have c5w := bw_cell c5
  have c6w := bw_cell c6
  have nonV := bw_ne W0
  clear P0 hr ht hs hll hc X0 hE hB
  cases t0 : tB (StP P.base)
  · have HK : Hid (tB (SnP P) = false) := tB_false (fun h => tB_no t0 h.1)
    rw [t0] at HS
    clear HF t0
    refine wp_region_bw (by kernel_rfl) (by kernel_rfl) ?_
    repeat (go_big_quiet_step ((go_at_call 15; exact bw_below (HS.out _ (bw_ext _)))))
    refine wpQuiet_nil ?_
    intro _ hw'
    obtain ⟨z, hw''⟩ := hw'
    subst hw''
    go_wp2
    go_ret
    exact ⟨by rw [HK.out]; rfl, B0.trans (z.h.mono B0.size)⟩
  have hix : 0 ≤ P.base.index ∧ P.base.index ≤ 1000000 := (tB_iff.1 t0).1
  have HT : Hid (StP P.base) := tB_iff.1 t0
  rw [t0] at HS
  clear t0
  have HM : Hid (∀ W', Ext W0 W' → Calls Try.prog 16 #[.agg #[.int .i64 P.base.index, rv, tv, .int .i64 P.base.lost, sv, lv]] W' fun e w' => e = .returned (.int .i64 (min 400 (1000000 - P.base.index))) ∧ Below W'.heap.size W' w') := fun W' _ => roomV rv tv _ sv lv P.base.index W' hix.1 hix.2
  obtain ⟨m, hm⟩ : ∃ m, m = min 400 (1000000 - P.base.index) := ⟨_, rfl⟩
  rw [← hm] at HM
  have HMM : Hid (m = min 400 (1000000 - P.base.index)) := hm
  clear hm
  cases t1 : decide ((n : Int) ≤ m)
  · have HK : Hid (tB (SnP P) = false) := tB_false (fun h => by
      have h1 := of_decide_eq_false t1
      have hm := HMM.out
      have := h.2.1
      have := h.2.2.1
      have := HN.out
      omega)
    clear HF
    refine wp_region_bw (by kernel_rfl) (by kernel_rfl) ?_
    repeat (go_big_quiet_step ((first | (go_at_call 15; exact bw_below (HS.out _ (bw_ext _))) | (go_at_call 16; exact bw_below (HM.out _ (bw_ext _))))))
    refine wpQuiet_nil ?_
    intro _ hw'
    obtain ⟨z, hw''⟩ := hw'
    subst hw''
    go_wp2
    go_ret
    exact ⟨by rw [HK.out]; rfl, B0.trans (z.h.mono B0.size)⟩
  have HK : Hid (tB (SnP P) = !notAll P.rest) := by
    show _ = _
    have h1 := of_decide_eq_true t1
    have hm := HMM.out
    have hm2 : m ≤ 400 ∧ m ≤ 1000000 - P.base.index := by omega
    cases hna : notAll P.rest
    · refine tB_true ⟨HT.out, ?_, ?_, fun i s hs => ?_⟩
      · have := HN.out; omega
      · have := HN.out; omega
      · unfold notAll at hna
        rw [List.any_eq_false] at hna
        have := hna s (List.mem_of_getElem? hs)
        cases hcs : cmdB s
        · rw [hcs] at this; simp at this
        · rfl
    · refine tB_false (fun h => ?_)
      unfold notAll at hna
      rw [List.any_eq_true] at hna
      obtain ⟨d, hd, hd2⟩ := hna
      obtain ⟨j, hj⟩ := List.mem_iff_getElem?.1 hd
      rw [h.2.2.2 j d hj] at hd2
      simp at hd2
  generalize notAll P.rest = na at HF HK
  refine wp_region_bw (by kernel_rfl) (by kernel_rfl) ?_
  repeat (go_big_quiet_step ((first | (go_at_call 15; exact bw_below (HS.out _ (bw_ext _))) | (go_at_call 16; exact bw_below (HM.out _ (bw_ext _))) | (go_at_call 17; exact bw_below (HF.out _ (bw_ext _))))))
  refine wpQuiet_nil ?_
  intro _ hw'
  obtain ⟨z, hw''⟩ := hw'
  subst hw''
  go_wp2
  go_ret
  exact ⟨by rw [HK.out]; rfl, B0.trans (z.h.mono B0.size)⟩

end Go.Proofs.Ytkmjgmpiclchdaa
