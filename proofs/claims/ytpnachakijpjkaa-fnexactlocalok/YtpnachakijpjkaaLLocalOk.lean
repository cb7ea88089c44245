
/- The exact statement of LocalOk: the walk of the law itself. -/
import Derived.Test.YtpnachakijpjkaaLo4
import Derived.Test.YtpnachakijpjkaaLo2
import Derived.Test.YtpnachakijpjkaaLp2
namespace Go.Proofs.Ytpnachakijpjkaa
open Go.RowKit

set_option maxRecDepth 20000 in
set_option maxHeartbeats 4000000 in
theorem law_LocalOk (v : Value) (D : DLoc) (w : World) (h : VLoc w v D) :
    Calls Try.prog 3 #[v] w fun e w' => e = .returned (.bool true) ∧ Below w.heap.size w w' := by
  have hE : ∀ w : World, ∀ o, Ext w (w.alloc o) := fun w o => World.grownBy_alloc _ _ _
  have hB : ∀ w : World, ∀ o, Below w.heap.size w (w.alloc o) := fun w o => (Below.refl _ w).alloc (Nat.le_refl _) _
  have h0 : Hid (VLoc w v D) := h
  obtain ⟨nv, sv, rfl, hn, hs⟩ := h
  obtain ⟨na, nc, rfl⟩ := rv_shape hn
  obtain ⟨sa, sc, rfl⟩ := svcs_shape hs
  obtain ⟨nn, hnn⟩ : ∃ nn, nn = D.node.length := ⟨_, rfl⟩
  obtain ⟨m, hm⟩ : ∃ m, m = D.svcs.length := ⟨_, rfl⟩
  have HNN := hidL hnn
  have HMM := hidL hm
  rw [← hnn, ← hm] at h0 ⊢
  clear hnn hm hn hs
  go_enter Try.func3, Try.ntmps3
  go_wp2_with fail
  refine (szLoc _ D 1048576 _ (h0.out.ext (hE _ _)) (by omega) (by omega)).mono ?_
  rintro e w1 ⟨r, rfl, hrr, b1⟩
  have B1 := (hB w _).trans (b1.mono (by simp))
  have P1 : w1.heap[w.heap.size]? = some (.cells #[.slice na nn nc, .slice sa m sc] 25 (0, 0)) := below_blk b1 (by simp) (heap_alloc_new w _)
  rcases hrr with ⟨h1, rfl⟩ | ⟨h1, h2⟩
  · go_wp2_with fail
    go_ret
    exact ⟨rfl, B1⟩
  have HLE : Hid (LenLo D) := lenLo_of (by omega)
  have hr0 : 0 ≤ r := by omega
  clear h1 h2 b1
  obtain ⟨p0, p1⟩ := cells2L P1
  have HTA : Hid (∀ V, Below w.heap.size w V → Calls Try.prog 10 #[.agg #[.slice na nn nc, .slice sa m sc]] V fun e w' => ∃ xa xc xb xd, e = .returned (.agg #[.slice xa nn xc, .slice xb m xd]) ∧ Hid (VLoc w' (.agg #[.slice xa nn xc, .slice xb m xd]) D) ∧ Below V.heap.size V w') := fun V e => (toLocV _ D V (h0.out.ext (ext_below e)) HLE.out).mono (fun e w' ⟨xa, xc, xb, xd, h1, h2, h3⟩ => by rw [← HNN.out, ← HMM.out] at h1 h2; exact ⟨xa, xc, xb, xd, h1, h2, h3⟩)
  obtain ⟨R, hR⟩ : ∃ R, R = tB (LocP D) := ⟨_, rfl⟩
  have HR := hidL hR
  clear hR
  go_wp2_with fail
  refine (HTA.out w1 B1).mono ?_
  rintro e w2 ⟨xa2, xc2, xb2, xd2, rfl, o2, b2⟩
  have X2 : Ext w1 w2 := ext_below b2
  clear b2
  go_wp2_with fail
  refine (sLocalOkV _ D w2 o2.out HLE.out).mono ?_
  rintro e w3 ⟨rfl, b3⟩
  rw [← HR.out]
  have X3 : Ext w1 w3 := X2.tr (ext_below b3)
  have B3 := B1.trans ((ext_bel X3).mono B1.size)
  clear b3 X2 o2 p0 p1
  obtain ⟨p0, p1⟩ := cells2L (ext_blk X3 P1)
  go_wp2_with fail
  refine (HTA.out w3 B3).mono ?_
  rintro e w4 ⟨xa4, xc4, xb4, xd4, rfl, o4, b4⟩
  have X4 : Ext w1 w4 := X3.tr (ext_below b4)
  have HM4 : Hid (∀ W, W = w4.alloc (.cells #[.slice xa4 nn xc4, .slice xb4 m xd4] 30 (0, 0)) → Ext w1 W ∧ W.heap[w4.heap.size]? = some (.cells #[.slice xa4 nn xc4, .slice xb4 m xd4] 30 (0, 0)) ∧ VLoc W (.agg #[.slice xa4 nn xc4, .slice xb4 m xd4]) D) := fun W hW => by
    subst hW
    exact ⟨X4.tr (hE _ _), heap_alloc_new _ _, o4.out.ext (hE _ _)⟩
  clear b4 p0 p1
  go_upto_region 7 with fail
  generalize hU : w4.alloc _ = U4
  obtain ⟨X1U, XU, OX⟩ := HM4.out U4 hU.symm
  clear hU HM4 X4 o4
  generalize w4.heap.size = bx at *
  obtain ⟨q0, q1⟩ := cells2L XU
  go_wp2_with fail
  refine (iLocalOkV _ D U4 OX HLE.out).mono ?_
  rintro e W1 ⟨rfl, b5⟩
  rw [← HR.out]
  have X1W : Ext w1 W1 := X1U.tr (ext_below b5)
  have HLOW : Hid (Below w.heap.size w W1) := B1.trans ((ext_bel X1W).mono B1.size)
  have HX1 : Hid (VLoc W1 (.agg #[.slice xa4 nn xc4, .slice xb4 m xd4]) D) := OX.ext (ext_below b5)
  obtain ⟨x0, x1⟩ := cells2L (ext_blk (ext_below b5) XU)
  obtain ⟨a0, a1⟩ := cells2L (ext_blk X1W P1)
  clear b5 XU OX X1U q0 q1 X3 B3 X1W
  go_upto_region 10 with fail
  have z0 := bw_cell x0
  have z1 := bw_cell x1
  have z2 := bw_cell a0
  have z3 := bw_cell a1
  have nonV := bw_ne W1
  clear x0 x1 a0 a1
  refine wp_region_seg (S := fun w' => ∃ p : BW W1, w' = p.u) (by kernel_rfl) (inBW_drew W1) (fun hHeld => ?_)
  refine wpAnyH_seg 0 2 3 (by kernel_rfl) (by kernel_rfl) (by kernel_rfl) (by kernel_rfl) (fun _ _ _ _ _ h => h) hHeld ?_
  simp only [List.drop_zero, List.take_succ_cons, List.take_zero]
  repeat (go_big_quiet_step (fail))
  refine wpQuiet_nil ?_
  refine wpAnyH_one 2 2 (by kernel_rfl) (by kernel_rfl) rfl (fun K hK => ?_)
  go_simp
  go_at_call 10
  refine (HTA.out _ (HLOW.out.trans ((below_drew1 W1).mono HLOW.out.size))).mono ?_
  rintro e w6 ⟨xa6, xc6, xb6, xd6, rfl, o6, b6⟩
  dsimp only
  have B6 : Below W1.heap.size W1 w6 := (below_drew1 W1).trans b6
  refine hK.out _ _ ⟨⟨w6, B6⟩, rfl⟩ (fun hHeld => ?_)
  clear hK K
  try simp only [Act.put, List.setIfInBounds_toArray, List.set_cons_zero, List.set_cons_succ]
  refine wpAnyH_one 3 1 (by kernel_rfl) (by kernel_rfl) rfl (fun K hK => ?_)
  go_simp
  go_at_call 12
  refine (eqLoc _ _ D _ (HX1.out.ext (ext_below B6)) o6.out HLE.out).mono ?_
  rintro e w7 ⟨rfl, b7⟩
  dsimp only
  have B7 : Below W1.heap.size W1 w7 := B6.trans (b7.mono B6.size)
  refine hK.out _ _ ⟨⟨w7, B7⟩, rfl⟩ (fun hHeld => ?_)
  clear hK K
  try simp only [Act.put, List.setIfInBounds_toArray, List.set_cons_zero, List.set_cons_succ]
  refine wpAnyH_seg 4 1 0 (by kernel_rfl) (by kernel_rfl) (by kernel_rfl) (by kernel_rfl) (fun _ _ _ _ _ h => h) hHeld ?_
  simp only [List.drop_succ_cons, List.drop_zero, List.take_succ_cons, List.take_zero]
  repeat (go_big_quiet_step (fail))
  refine wpQuiet_nil ?_
  refine wpAnyH_endN (by kernel_rfl) ?_
  have HZ := hidL (HLOW.out.trans (B7.mono HLOW.out.size))
  go_wp2
  go_ret
  exact ⟨rfl, HZ.out⟩

end Go.Proofs.Ytpnachakijpjkaa
