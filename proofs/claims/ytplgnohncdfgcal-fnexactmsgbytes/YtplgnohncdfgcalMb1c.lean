/- Messages as bytes: the specification's l3bytes of a message with items. -/
import Derived.Test.YtplgnohncdfgcalMb1
namespace Go.Proofs.Ytplgnohncdfgcal
open Go.RowKit

set_option maxRecDepth 20000 in
set_option maxHeartbeats 8000000 in
theorem sB_add (M : DMsg) (iv : Value) (w : World) (hvi : VItems w iv M.items) (h4 : M.items.length ≤ 4) (hw : ∀ (i : Nat) d, M.items[i]? = some d → ItW d) :
    Calls Try.prog 74 #[.agg #[.int .i64 2, .int .i64 M.from_, .int .i64 M.to, .int .i64 M.term, .int .i64 M.prev, .int .i64 M.prevTerm, iv, .int .i64 M.commit, .bool M.yes]] w (PutPost w (M.items.foldl itL (headL 2 M ++ numL M.prev ++ numL M.prevTerm ++ numL M.commit ++ numL M.items.length))) := by
  obtain ⟨C, ⟨ia, ic, rfl, hl1, hl2, hcell⟩, hC⟩ := hvi
  have HCE : Hid (0 < M.items.length → ∃ b o, ia = some ⟨b, o, none⟩ ∧ b < w.heap.size ∧ ∀ i, i < M.items.length → ∀ j, j < 7 → w.cell? ⟨b, o + i * 7 + j, none⟩ = some (C i j)) := hcell
  have HC : Hid (∀ i d, M.items[i]? = some d → C i 0 = .int .i64 d.term ∧ C i 1 = .int .i64 d.cmd.client ∧ C i 2 = .int .i64 d.cmd.req ∧ C i 3 = .int .i64 d.cmd.op.kind ∧ RV w (C i 4) d.cmd.op.key ∧ RV w (C i 5) d.cmd.op.val ∧ C i 6 = .int .i64 d.cmd.op.n) := hC
  have HW : Hid (∀ (i : Nat) d, M.items[i]? = some d → ItW d) := hw
  clear hcell hC hw
  obtain ⟨n, hnn⟩ : ∃ n, n = M.items.length := ⟨_, rfl⟩
  have HN : Hid (n = M.items.length) := hnn
  rw [← hnn] at h4 hl1 HCE ⊢
  unfold maxLen at hl2
  clear hnn
  have hE : ∀ w : World, ∀ o, Ext w (w.alloc o) := fun w o => World.grownBy_alloc _ _ _
  obtain ⟨y1, hy1⟩ : ∃ y, y = [] ++ numL (2) := ⟨_, rfl⟩
  have m1 := putL_le [] (2)
  rw [← hy1] at m1
  obtain ⟨y2, hy2⟩ : ∃ y, y = y1 ++ numL (M.from_) := ⟨_, rfl⟩
  have m2 := putL_le y1 (M.from_)
  rw [← hy2] at m2
  obtain ⟨y3, hy3⟩ : ∃ y, y = y2 ++ numL (M.to) := ⟨_, rfl⟩
  have m3 := putL_le y2 (M.to)
  rw [← hy3] at m3
  obtain ⟨y4, hy4⟩ : ∃ y, y = y3 ++ numL (M.term) := ⟨_, rfl⟩
  have m4 := putL_le y3 (M.term)
  rw [← hy4] at m4
  have HH : Hid (headL 2 M = y4) := by unfold Hid; rw [hy4, hy3, hy2, hy1]; rfl
  have G1 : Hid ([] ++ numL (2) = y1) := hy1.symm
  have G2 : Hid (y1 ++ numL (M.from_) = y2) := hy2.symm
  have G3 : Hid (y2 ++ numL (M.to) = y3) := hy3.symm
  have G4 : Hid (y3 ++ numL (M.term) = y4) := hy4.symm
  simp only [List.length_nil] at m1
  clear hy1 hy2 hy3 hy4
  go_enter Try.func74, Try.ntmps74
  go_wp2_with fail
  have P0 := heap_alloc_new w (.cells #[.int .i64 2, .int .i64 M.from_, .int .i64 M.to, .int .i64 M.term, .int .i64 M.prev, .int .i64 M.prevTerm, .slice ia n ic, .int .i64 M.commit, .bool M.yes] 68 (0, 0))
  have X0 := hE w (.cells #[.int .i64 2, .int .i64 M.from_, .int .i64 M.to, .int .i64 M.term, .int .i64 M.prev, .int .i64 M.prevTerm, .slice ia n ic, .int .i64 M.commit, .bool M.yes] 68 (0, 0))
  have B0 : Below w.heap.size w (w.alloc (.cells #[.int .i64 2, .int .i64 M.from_, .int .i64 M.to, .int .i64 M.term, .int .i64 M.prev, .int .i64 M.prevTerm, .slice ia n ic, .int .i64 M.commit, .bool M.yes] 68 (0, 0))) := (Below.refl _ w).alloc (Nat.le_refl _) _
  generalize w.alloc (.cells #[.int .i64 2, .int .i64 M.from_, .int .i64 M.to, .int .i64 M.term, .int .i64 M.prev, .int .i64 M.prevTerm, .slice ia n ic, .int .i64 M.commit, .bool M.yes] 68 (0, 0)) = W at P0 X0 B0 ⊢
  obtain ⟨Q0, c0, c1, c2, c3, c4, c5, c6, c7, c8⟩ := cellsB9 P0 (Below.refl _ W)
  have e0 : W.drew.heap.size = W.heap.size := rfl
  have rIn := rv_nil W
  have XDh : Ext W W.drew := ext_drewN W 1
  go_region_held3 (fun w' => w'.cell? ⟨w.heap.size, 0, none⟩ = some (.int .i64 2) ∧ w'.cell? ⟨w.heap.size, 1, none⟩ = some (.int .i64 M.from_) ∧ w'.cell? ⟨w.heap.size, 2, none⟩ = some (.int .i64 M.to) ∧ w'.cell? ⟨w.heap.size, 3, none⟩ = some (.int .i64 M.term) ∧ w'.cell? ⟨w.heap.size, 4, none⟩ = some (.int .i64 M.prev) ∧ w'.cell? ⟨w.heap.size, 5, none⟩ = some (.int .i64 M.prevTerm) ∧ w'.cell? ⟨w.heap.size, 6, none⟩ = some (.slice ia n ic) ∧ w'.cell? ⟨w.heap.size, 7, none⟩ = some (.int .i64 M.commit) ∧ w'.cell? ⟨w.heap.size, 8, none⟩ = some (.bool M.yes)) (simp [*])
    (first
      | (go_at_call 114; refine (sPutV _ y3 (M.term) _ rh3 (by first | omega | simp)).mono ?_; rw [G4.out]; rintro e wh4 ⟨vh4, rfl, rh4, oh4, bh4⟩; obtain ⟨Qh4, c0, c1, c2, c3, c4, c5, c6, c7, c8⟩ := cellsB9 Qh3 bh4)
      | (go_at_call 114; refine (sPutV _ y2 (M.to) _ rh2 (by first | omega | simp)).mono ?_; rw [G3.out]; rintro e wh3 ⟨vh3, rfl, rh3, oh3, bh3⟩; obtain ⟨Qh3, c0, c1, c2, c3, c4, c5, c6, c7, c8⟩ := cellsB9 Qh2 bh3)
      | (go_at_call 114; refine (sPutV _ y1 (M.from_) _ rh1 (by first | omega | simp)).mono ?_; rw [G2.out]; rintro e wh2 ⟨vh2, rfl, rh2, oh2, bh2⟩; obtain ⟨Qh2, c0, c1, c2, c3, c4, c5, c6, c7, c8⟩ := cellsB9 Qh1 bh2)
      | (go_at_call 114; refine (sPutV _ [] (2) _ (rIn.ext XDh) (by first | omega | simp)).mono ?_; rw [G1.out]; rintro e wh1 ⟨vh1, rfl, rh1, oh1, bh1⟩; obtain ⟨Qh1, c0, c1, c2, c3, c4, c5, c6, c7, c8⟩ := cellsB9 (w := W.drew) Q0 bh1))
  have s0 := B0.size
  have sh1 := bh1.size
  have sh2 := bh2.size
  have sh3 := bh3.size
  have sh4 := bh4.size
  have Bh := (((((below_drewN B0 1).trans (bh1.mono (by omega))).trans (bh2.mono (by omega))).trans (bh3.mono (by omega))).trans (bh4.mono (by omega)))
  have sh : w.heap.size ≤ wh4.heap.size := Bh.size
  obtain ⟨z1, hz1⟩ : ∃ z, z = y4 ++ numL M.prev := ⟨_, rfl⟩
  have n1 := putL_le y4 M.prev
  rw [← hz1] at n1
  obtain ⟨z2, hz2⟩ : ∃ z, z = z1 ++ numL M.prevTerm := ⟨_, rfl⟩
  have n2 := putL_le z1 M.prevTerm
  rw [← hz2] at n2
  obtain ⟨z3, hz3⟩ : ∃ z, z = z2 ++ numL M.commit := ⟨_, rfl⟩
  have n3 := putL_le z2 M.commit
  rw [← hz3] at n3
  obtain ⟨z4, hz4⟩ : ∃ z, z = z3 ++ numL (n : Int) := ⟨_, rfl⟩
  have n4 := putL_le z3 (n : Int)
  rw [← hz4] at n4
  have HL : Hid (headL 2 M ++ numL M.prev ++ numL M.prevTerm ++ numL M.commit ++ numL n = z4) := by unfold Hid; rw [hz4, hz3, hz2, hz1, HH.out]
  have F1 : Hid (y4 ++ numL M.prev = z1) := hz1.symm
  have F2 : Hid (z1 ++ numL M.prevTerm = z2) := hz2.symm
  have F3 : Hid (z2 ++ numL M.commit = z3) := hz3.symm
  have F4 : Hid (z3 ++ numL (n : Int) = z4) := hz4.symm
  clear hz1 hz2 hz3 hz4
  go_wp2_with fail
  have XDp : Ext wh4 wh4.drew := ext_drewN wh4 1
  go_region_held3 (fun w' => w'.cell? ⟨w.heap.size, 0, none⟩ = some (.int .i64 2) ∧ w'.cell? ⟨w.heap.size, 1, none⟩ = some (.int .i64 M.from_) ∧ w'.cell? ⟨w.heap.size, 2, none⟩ = some (.int .i64 M.to) ∧ w'.cell? ⟨w.heap.size, 3, none⟩ = some (.int .i64 M.term) ∧ w'.cell? ⟨w.heap.size, 4, none⟩ = some (.int .i64 M.prev) ∧ w'.cell? ⟨w.heap.size, 5, none⟩ = some (.int .i64 M.prevTerm) ∧ w'.cell? ⟨w.heap.size, 6, none⟩ = some (.slice ia n ic) ∧ w'.cell? ⟨w.heap.size, 7, none⟩ = some (.int .i64 M.commit) ∧ w'.cell? ⟨w.heap.size, 8, none⟩ = some (.bool M.yes)) (simp [*])
    (first
      | (go_at_call 114; refine (sPutV _ z3 (n : Int) _ rp3 (by omega)).mono ?_; rw [F4.out]; rintro e wp4 ⟨vp4, rfl, rp4, op4, bp4⟩; obtain ⟨Qp4, c0, c1, c2, c3, c4, c5, c6, c7, c8⟩ := cellsB9 Qp3 bp4)
      | (go_at_call 114; refine (sPutV _ z2 M.commit _ rp2 (by omega)).mono ?_; rw [F3.out]; rintro e wp3 ⟨vp3, rfl, rp3, op3, bp3⟩; obtain ⟨Qp3, c0, c1, c2, c3, c4, c5, c6, c7, c8⟩ := cellsB9 Qp2 bp3)
      | (go_at_call 114; refine (sPutV _ z1 M.prevTerm _ rp1 (by omega)).mono ?_; rw [F2.out]; rintro e wp2 ⟨vp2, rfl, rp2, op2, bp2⟩; obtain ⟨Qp2, c0, c1, c2, c3, c4, c5, c6, c7, c8⟩ := cellsB9 Qp1 bp2)
      | (go_at_call 114; refine (sPutV _ y4 M.prev _ (rh4.ext XDp) (by omega)).mono ?_; rw [F1.out]; rintro e wp1 ⟨vp1, rfl, rp1, op1, bp1⟩; obtain ⟨Qp1, c0, c1, c2, c3, c4, c5, c6, c7, c8⟩ := cellsB9 (w := wh4.drew) Qh4 bp1))
  have e1 : wh4.drew.heap.size = wh4.heap.size := rfl
  have sp1 := bp1.size
  have sp2 := bp2.size
  have sp3 := bp3.size
  have Bp := (((((below_drewN Bh 1).trans (bp1.mono (by omega))).trans (bp2.mono (by omega))).trans (bp3.mono (by omega))).trans (bp4.mono (by omega)))
  have sp : w.heap.size ≤ wp4.heap.size := Bp.size
  have HB : Hid (wp4.heap[w.heap.size]? = some (.cells #[.int .i64 2, .int .i64 M.from_, .int .i64 M.to, .int .i64 M.term, .int .i64 M.prev, .int .i64 M.prevTerm, .slice ia n ic, .int .i64 M.commit, .bool M.yes] 68 (0, 0))) := Qp4
  have nz : z4.length ≤ 40 := by omega
  have op5 := ow_base (base' := w.heap.size) op4 (by omega)
  have hic : ic ≤ 9223372036854775807 := by omega
  clear Q0 Qh1 Qh2 Qh3 Qh4 Qp1 Qp2 Qp3 Qp4 P0 c0 c1 c2 c3 c4 c5 c6 c7 c8 bh1 bh2 bh3 bh4 bp1 bp2 bp3 bp4 oh1 oh2 oh3 oh4 op1 op2 op3 op4 rh1 rh2 rh3 rp1 rp2 rp3 n1 n2 n3 n4 m1 m2 m3 m4 B0 Bh X0 G1 G2 G3 G4 F1 F2 F3 F4 hl2
  have c6 := (at_block HB.out 6 _ rfl).1
  go_wp2
  go_loopw [3, 4] (fun bv i wr => ∃ k : Nat, k ≤ n ∧ i = .int .i64 k ∧ ∃ zs, Hid (zs = (M.items.take k).foldl itL z4) ∧ zs.length ≤ 40 + 75 * k ∧ RV wr bv zs ∧ Ow wr w.heap.size bv zs ∧ Below w.heap.size w wr ∧ Hid (wr.heap[w.heap.size]? = some (.cells #[.int .i64 2, .int .i64 M.from_, .int .i64 M.to, .int .i64 M.term, .int .i64 M.prev, .int .i64 M.prevTerm, .slice ia n ic, .int .i64 M.commit, .bool M.yes] 68 (0, 0)))) (fun _ i _ => n - (intOf i).toNat)
  case atStart => exact ⟨0, Nat.zero_le _, rfl, z4, by show _ = _; simp, by omega, rp4, op5, Bp, HB⟩
  case round =>
    obtain ⟨k, hk, rfl, zs, hzs, hzl, rz, oz, bz, hbx⟩ := hrel
    have c6 := (at_block hbx.out 6 _ rfl).1
    by_cases hlt : k < n
    · obtain ⟨b, o, rfl, hbl, hc⟩ := HCE.out (by omega)
      obtain ⟨s, hs⟩ : ∃ s, M.items[k]? = some s := ⟨_, List.getElem?_eq_getElem (by have := HN.out; omega)⟩
      obtain ⟨e0', e1', e2, e3, e4, e5, e6⟩ := HC.out k s hs
      have hiw := HW.out k s hs
      have X := ext_below bz
      have d0 := World.grownBy.cell X (hc k hlt 0 (by omega)) (by simp)
      rw [Nat.add_zero, e0'] at d0
      have d1 := World.grownBy.cell X (hc k hlt 1 (by omega)) (by simp)
      rw [e1'] at d1
      have d2 := World.grownBy.cell X (hc k hlt 2 (by omega)) (by simp)
      rw [e2] at d2
      have d3 := World.grownBy.cell X (hc k hlt 3 (by omega)) (by simp)
      rw [e3] at d3
      have d4 := World.grownBy.cell X (hc k hlt 4 (by omega)) (by simp)
      have cr4 := e4.ext X
      obtain ⟨ca4, cp4, cx4, _, _, _⟩ := e4
      rw [cx4] at cr4 d4
      have d5 := World.grownBy.cell X (hc k hlt 5 (by omega)) (by simp)
      have cr5 := e5.ext X
      obtain ⟨ca5, cp5, cx5, _, _, _⟩ := e5
      rw [cx5] at cr5 d5
      have d6 := World.grownBy.cell X (hc k hlt 6 (by omega)) (by simp)
      rw [e6] at d6
      have hlt' : (k : Int) < (n : Int) := by omega
      have HNX : Hid ((M.items.take (k + 1)).foldl itL z4 = itL zs s) := by show _ = _; rw [its_next z4 M.items k s hs, ← hzs.out]
      have hle := itL_le zs s
      obtain ⟨z', hz'⟩ : ∃ z', z' = itL zs s := ⟨_, rfl⟩
      rw [← hz'] at hle
      have HZ' : Hid (itL zs s = z') := hz'.symm
      clear hc hz'
      go_wp2_with fail
      refine (sItL _ _ zs s wr rz ⟨_, _, rfl, cr4, cr5⟩ (by omega) hiw).mono ?_
      rw [HZ'.out]
      rintro e w2 ⟨v2, rfl, r2, o2, b2⟩
      have hbx2 : Hid (w2.heap[w.heap.size]? = some (.cells #[.int .i64 2, .int .i64 M.from_, .int .i64 M.to, .int .i64 M.term, .int .i64 M.prev, .int .i64 M.prevTerm, .slice (some ⟨b, o, none⟩) n ic, .int .i64 M.commit, .bool M.yes] 68 (0, 0))) := below_blk b2 (Array.getElem?_eq_some_iff.1 hbx.out).1 hbx.out
      go_wp2
      go_roundw
      case rel => exact ⟨k + 1, by omega, by go_num, z', by show _ = _; rw [HNX.out, HZ'.out], by omega, r2, ow_base o2 bz.size, bz.trans (b2.mono bz.size), hbx2⟩
      case measure => simp [intOf]; omega
    · have hkn : k = n := by omega
      subst hkn
      have HR : Hid (M.items.foldl itL (headL 2 M ++ numL M.prev ++ numL M.prevTerm ++ numL M.commit ++ numL k) = zs) := by
        show _ = _
        rw [HL.out, hzs.out, List.take_of_length_le (by have := HN.out; omega)]
      go_wp2
      go_ret
      refine ⟨_, rfl, ?_, ?_, bz⟩
      · rw [HR.out]; exact rz
      · rw [HR.out]; exact oz

end Go.Proofs.Ytplgnohncdfgcal
