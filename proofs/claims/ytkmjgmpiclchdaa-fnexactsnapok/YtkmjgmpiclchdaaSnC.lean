/- Snapshots: the specification's SnapOk. -/
import Derived.Test.YtkmjgmpiclchdaaSnB
import Derived.Test.YtkmjgmpiclchdaaCm2
import Derived.Test.YtkmjgmpiclchdaaSSb
namespace Go.Proofs.Ytkmjgmpiclchdaa
open Go.RowKit

set_option maxHeartbeats 4000000 in
theorem sSnapOkV (v : Value) (P : DSnap) (w : World) (h : VSnap w v P) (hn : P.rest.length ≤ 1048576) :
    Calls Try.prog 5 #[v] w fun e w' => e = .returned (.bool (tB (SnP P))) ∧ Below w.heap.size w w' := by
  have hE : ∀ w : World, ∀ o, Ext w (w.alloc o) := fun w o => World.grownBy_alloc _ _ _
  have hB : ∀ w : World, ∀ o, Below w.heap.size w (w.alloc o) := fun w o => (Below.refl _ w).alloc (Nat.le_refl _) _
  obtain ⟨rv, tv, sv, lv, cv, rfl, hr, ht, hs, hll, hc⟩ := h
  obtain ⟨C, ⟨ca, cp, rfl, hl1, hl2, hcell⟩, hC⟩ := hc
  have HC : Hid (∀ i d, P.rest[i]? = some d → C i 0 = .int .i64 d.client ∧ C i 1 = .int .i64 d.req ∧ C i 2 = .int .i64 d.op.kind ∧ RV w (C i 3) d.op.key ∧ RV w (C i 4) d.op.val ∧ C i 5 = .int .i64 d.op.n) := hC
  obtain ⟨n, hnn⟩ : ∃ n, n = P.rest.length := ⟨_, rfl⟩
  have HN : Hid (n = P.rest.length) := hnn
  rw [← hnn] at hn hl1 hcell ⊢
  have H3 : Hid (0 < n → ∃ b o, ca = some ⟨b, o, none⟩ ∧ b < w.heap.size ∧ ∀ i, i < n → ∀ j, j < 6 → w.cell? ⟨b, o + i * 6 + j, none⟩ = some (C i j)) := hcell
  clear hnn hC hcell
  have hml2 : (n : Int) ≤ 1048576 := by omega
  go_enter Try.func5, Try.ntmps5
  go_wp2_with fail
  have P0 := heap_alloc_new w (.cells #[.int .i64 P.base.index, rv, tv, .int .i64 P.base.lost, sv, lv, .slice ca n cp] 41 (0, 0))
  have B0 := hB w (.cells #[.int .i64 P.base.index, rv, tv, .int .i64 P.base.lost, sv, lv, .slice ca n cp] 41 (0, 0))
  generalize w.alloc (.cells #[.int .i64 P.base.index, rv, tv, .int .i64 P.base.lost, sv, lv, .slice ca n cp] 41 (0, 0)) = W0 at P0 B0 ⊢
  have X0 := ext_below B0
  refine (sStateOkV _ P.base W0 ⟨rv, tv, sv, lv, rfl, hr.ext X0, ht.ext X0, hs.ext X0, hll.ext X0⟩).mono ?_
  rintro e W1 ⟨rfl, b1⟩
  have B1 := B0.trans (b1.mono B0.size)
  have P1 := below_blk b1 (Array.getElem?_eq_some_iff.1 P0).1 P0
  clear P0 B0 b1 X0 hr ht hs hll
  obtain ⟨c0, c1, c2, c3, c4, c5, c6⟩ := six7 P1
  cases t0 : tB (StP P.base)
  · have HK : Hid (tB (SnP P) = false) := tB_false (fun h => tB_no t0 h.1)
    clear t0
    go_wp2
    go_ret
    exact ⟨by rw [HK.out]; rfl, B1⟩
  have hix : 0 ≤ P.base.index ∧ P.base.index ≤ 1000000 := (tB_iff.1 t0).1
  obtain ⟨hix0, hix1⟩ := hix
  have HT : Hid (StP P.base) := tB_iff.1 t0
  clear t0
  by_cases g1 : (400 : Int) < n
  · have HK : Hid (tB (SnP P) = false) := tB_false (fun h => by have := h.2.1; have := HN.out; omega)
    have d1 : decide ((n : Int) > 400) = true := decide_eq_true g1
    clear HT
    go_wp2
    go_ret
    exact ⟨by rw [HK.out]; rfl, B1⟩
  have d1 : decide ((n : Int) > 400) = false := decide_eq_false (by omega)
  by_cases g2 : 1000000 - P.base.index < n
  · have HK : Hid (tB (SnP P) = false) := tB_false (fun h => by have := h.2.2.1; have := HN.out; omega)
    have d2 : decide ((n : Int) > 1000000 - P.base.index) = true := decide_eq_true g2
    clear HT
    go_wp2
    go_ret
    exact ⟨by rw [HK.out]; rfl, B1⟩
  have d2 : decide ((n : Int) > 1000000 - P.base.index) = false := decide_eq_false (by omega)
  have HLE : Hid (P.rest.length ≤ 400 ∧ (P.rest.length : Int) ≤ 1000000 - P.base.index) := by have := HN.out; exact ⟨by omega, by omega⟩
  have HP1 : Hid (W1.heap[w.heap.size]? = some (.cells #[.int .i64 P.base.index, rv, tv, .int .i64 P.base.lost, sv, lv, .slice ca n cp] 41 (0, 0))) := P1
  clear g1 g2
  go_wp2
  go_loopw [3] (fun i wr => ∃ k : Nat, k ≤ n ∧ i = .int .i64 k ∧ Hid (∀ j d, j < k → P.rest[j]? = some d → cmdB d = true) ∧ Below w.heap.size w wr ∧ Hid (wr.heap[w.heap.size]? = some (.cells #[.int .i64 P.base.index, rv, tv, .int .i64 P.base.lost, sv, lv, .slice ca n cp] 41 (0, 0)))) (fun i _ => n - (intOf i).toNat)
  case atStart => exact ⟨0, Nat.zero_le _, rfl, fun j d hj => absurd hj (by omega), B1, HP1⟩
  case round =>
    obtain ⟨k, hk, rfl, hall, hb, hbx⟩ := hrel
    clear c0 c1 c2 c3 c4 c5 c6 P1 B1 d1 d2
    have c6 := (at_block hbx.out 6 _ rfl).1
    by_cases hlt : k < n
    · obtain ⟨b, o, rfl, hbl, hc⟩ := H3.out (by omega)
      obtain ⟨s, hs⟩ : ∃ s, P.rest[k]? = some s := ⟨_, List.getElem?_eq_getElem (by have := HN.out; omega)⟩
      obtain ⟨e0, e1, e2, e3, e4, e5⟩ := HC.out k s hs
      have X := ext_below hb
      have c0 := World.grownBy.cell X (hc k hlt 0 (by omega)) (by simp)
      rw [Nat.add_zero, e0] at c0
      have c1 := World.grownBy.cell X (hc k hlt 1 (by omega)) (by simp)
      rw [e1] at c1
      have c2 := World.grownBy.cell X (hc k hlt 2 (by omega)) (by simp)
      rw [e2] at c2
      have c3 := World.grownBy.cell X (hc k hlt 3 (by omega)) (by simp)
      have cr3 := e3.ext X
      obtain ⟨ca3, cp3, cx3, _, _, _⟩ := e3
      rw [cx3] at cr3 c3
      have c4 := World.grownBy.cell X (hc k hlt 4 (by omega)) (by simp)
      have cr4 := e4.ext X
      obtain ⟨ca4, cp4, cx4, _, _, _⟩ := e4
      rw [cx4] at cr4 c4
      have c5 := World.grownBy.cell X (hc k hlt 5 (by omega)) (by simp)
      rw [e5] at c5
      have hlt' : (k : Int) < (n : Int) := by omega
      clear hc
      have HV : Hid (VCmd wr (.agg #[.int .i64 s.client, .int .i64 s.req, .int .i64 s.op.kind, .slice ca3 s.op.key.length cp3, .slice ca4 s.op.val.length cp4, .int .i64 s.op.n]) s) := ⟨_, _, rfl, cr3, cr4⟩
      clear cr3 cr4 cx3 cx4
      go_wp2_with fail
      refine (cmdOkV _ s wr HV.out).mono ?_
      rintro e w2 ⟨rfl, b2⟩
      have hb2 := hb.trans (b2.mono hb.size)
      have hbx2 : Hid (w2.heap[w.heap.size]? = some (.cells #[.int .i64 P.base.index, rv, tv, .int .i64 P.base.lost, sv, lv, .slice (some ⟨b, o, none⟩) n cp] 41 (0, 0))) := below_blk b2 (Array.getElem?_eq_some_iff.1 hbx.out).1 hbx.out
      cases hcb : cmdB s
      · have HK : Hid (tB (SnP P) = false) := tB_false (fun h => by have := h.2.2.2 k s hs; rw [hcb] at this; cases this)
        clear hcb
        go_wp2
        go_ret
        exact ⟨by rw [HK.out]; rfl, hb2⟩
      · have HA : Hid (∀ j d, j < k + 1 → P.rest[j]? = some d → cmdB d = true) := fun j d hj hd => by
          by_cases e : j = k
          · subst e
            rw [hs] at hd
            cases hd
            exact hcb
          · exact hall.out j d (by omega) hd
        clear hcb
        go_wp2
        go_roundw
        case rel => exact ⟨k + 1, by omega, by go_num, HA, hb2, hbx2⟩
        case measure => simp [intOf]; omega
    · have hkn : k = n := by omega
      subst hkn
      have HK : Hid (tB (SnP P) = true) := tB_true ⟨HT.out, HLE.out.1, HLE.out.2, fun i s hs => hall.out i s (by have := (List.getElem?_eq_some_iff.1 hs).1; have := HN.out; omega) hs⟩
      go_wp2
      go_ret
      exact ⟨by rw [HK.out]; rfl, hb⟩

end Go.Proofs.Ytkmjgmpiclchdaa
