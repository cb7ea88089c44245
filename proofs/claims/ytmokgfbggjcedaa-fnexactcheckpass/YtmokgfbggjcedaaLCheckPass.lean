
/- The exact statement of CheckPass: the walk of the law itself. -/
import Derived.Test.YtmokgfbggjcedaaCk5
import Derived.Test.YtmokgfbggjcedaaCk7ps
import Derived.Test.YtmokgfbggjcedaaCk7pi
import Derived.Deep.RegionHeld3
namespace Go.Proofs.Ytmokgfbggjcedaa
open Go.RowKit

set_option maxRecDepth 20000 in
set_option maxHeartbeats 4000000 in
theorem law_CheckPass (v : Value) (D : DChk) (w : World) (h : VChk w v D) :
    Calls Try.prog 5 #[v] w fun e w' => e = .returned (.bool true) ∧ Below w.heap.size w w' := by
  have hE : ∀ w : World, ∀ o, Ext w (w.alloc o) := fun w o => World.grownBy_alloc _ _ _
  have hB : ∀ w : World, ∀ o, Below w.heap.size w (w.alloc o) := fun w o => (Below.refl _ w).alloc (Nat.le_refl _) _
  have h0 : Hid (VChk w v D) := h
  obtain ⟨⟨R, rb⟩, hR⟩ : ∃ R, R = passPD D := ⟨_, rfl⟩
  have HR : Hid ((R, rb) = passPD D) := hR
  have HRL : Hid (D.name.length ≤ 1048576 → R.name.length ≤ 1048576) := fun hl => by have := passPD_len D hl; rw [← hR] at this; exact this
  clear hR
  obtain ⟨m, hm⟩ : ∃ m, m = R.name.length := ⟨_, rfl⟩
  have HMR : Hid (m = R.name.length) := hm
  clear hm
  obtain ⟨tv, rfl, ht⟩ := h
  obtain ⟨ta, tc, rfl⟩ := rv_shape ht
  obtain ⟨n, hn⟩ : ∃ n, n = D.name.length := ⟨_, rfl⟩
  have HN : Hid (n = D.name.length) := hn
  rw [← hn] at h0 ⊢
  clear hn ht
  go_enter Try.func5, Try.ntmps5
  go_wp2_with fail
  refine (szChk _ D 1048576 _ (h0.out.ext (hE _ _)) (by omega) (by omega)).mono ?_
  rintro e w1 ⟨r, rfl, hrr, b1⟩
  rw [← HN.out] at hrr
  have B1 := (hB w _).trans (b1.mono (by simp))
  have P1 : w1.heap[w.heap.size]? = some (.cells #[.slice ta n tc, .int .i64 D.ttl, .int .i64 D.most, .int .i64 D.st, .int .i64 D.age, .int .i64 D.fails] 24 (0, 0)) := below_blk b1 (by simp) (heap_alloc_new w _)
  rcases hrr with ⟨h1, rfl⟩ | ⟨h1, h2⟩
  · go_wp2_with fail
    go_ret
    exact ⟨rfl, B1⟩
  have HLE : Hid (D.name.length ≤ 1048576) := by have := HN.out; show _ ≤ _; omega
  have hl : n ≤ 1048576 := by omega
  have hr0 : 0 ≤ r := by omega
  clear h1 h2 b1
  obtain ⟨p0, p1, p2, p3, p4, p5⟩ := cells6 P1
  have HTA : Hid (∀ V, Below w.heap.size w V → Calls Try.prog 10 #[.agg #[.slice ta n tc, .int .i64 D.ttl, .int .i64 D.most, .int .i64 D.st, .int .i64 D.age, .int .i64 D.fails]] V fun e w' => ∃ xa xc, e = .returned (.agg #[.slice xa n xc, .int .i64 D.ttl, .int .i64 D.most, .int .i64 D.st, .int .i64 D.age, .int .i64 D.fails]) ∧ Hid (OwB w' V.heap.size (.slice xa n xc) D.name) ∧ Below V.heap.size V w') := fun V e => (toChkO _ D V (h0.out.ext (ext_below e)) HLE.out).mono (fun e w' ⟨xa, xc, h1, h2, h3⟩ => by rw [← HN.out] at h1 h2; exact ⟨xa, xc, h1, h2, h3⟩)
  have HS : Hid (∀ V va, VChk V va D → Calls Try.prog 20 #[va] V fun e w' => ∃ sa sc, e = .returned (.tuple #[.agg #[.slice sa m sc, .int .i64 R.ttl, .int .i64 R.most, .int .i64 R.st, .int .i64 R.age, .int .i64 R.fails], .bool rb]) ∧ Hid (OwB w' V.heap.size (.slice sa m sc) R.name) ∧ Below V.heap.size V w') := fun V va hv => (sCheckPassV va D V hv HLE.out).mono (fun e w' ⟨tv, h1, h2, h3⟩ => by
    rw [← HR.out] at h1 h2
    obtain ⟨sa, sc, hsv⟩ := h2.shape
    rw [← HMR.out] at hsv
    subst hsv
    exact ⟨sa, sc, h1, h2, h3⟩)
  have HI : Hid (∀ V va, VChk V va D → Calls Try.prog 21 #[va] V fun e w' => ∃ sa sc, e = .returned (.tuple #[.agg #[.slice sa m sc, .int .i64 R.ttl, .int .i64 R.most, .int .i64 R.st, .int .i64 R.age, .int .i64 R.fails], .bool rb]) ∧ Hid (OwB w' V.heap.size (.slice sa m sc) R.name) ∧ Below V.heap.size V w') := fun V va hv => (iCheckPassV va D V hv HLE.out).mono (fun e w' ⟨tv, h1, h2, h3⟩ => by
    rw [← HR.out] at h1 h2
    obtain ⟨sa, sc, hsv⟩ := h2.shape
    rw [← HMR.out] at hsv
    subst hsv
    exact ⟨sa, sc, h1, h2, h3⟩)
  have HML : Hid (m ≤ 1048576) := by show _ ≤ _; rw [HMR.out]; exact HRL.out HLE.out
  -- the specification
  go_wp2_with fail
  refine (HTA.out w1 B1).mono ?_
  rintro e w2 ⟨xa2, xc2, rfl, o2, b2⟩
  have X2 : Ext w1 w2 := ext_below b2
  clear b2
  go_wp2_with fail
  refine (HS.out w2 _ ⟨_, rfl, o2.out.rv⟩).mono ?_
  rintro e v3 ⟨sa, sc, rfl, o3, b3⟩
  have X3 : Ext w1 v3 := X2.tr (ext_below b3)
  have HM3 : Hid (∀ W, W = v3.alloc (.cells #[.slice sa m sc, .int .i64 R.ttl, .int .i64 R.most, .int .i64 R.st, .int .i64 R.age, .int .i64 R.fails] 27 (0, 0)) → Ext w1 W ∧ W.heap[v3.heap.size]? = some (.cells #[.slice sa m sc, .int .i64 R.ttl, .int .i64 R.most, .int .i64 R.st, .int .i64 R.age, .int .i64 R.fails] 27 (0, 0)) ∧ RV W (.slice sa m sc) R.name) := fun W hW => by
    subst hW
    exact ⟨X3.tr (hE _ _), heap_alloc_new _ _, o3.out.rv.ext (hE _ _)⟩
  clear b3 X2 o2 p0 p1 p2 p3 p4 p5
  go_upto_region 6 with fail
  generalize hU : v3.alloc _ = w3
  obtain ⟨X13, PS3, V3⟩ := HM3.out w3 hU.symm
  clear hU HM3 X3 o3
  generalize v3.heap.size = bs at *
  have HV3 : Hid (RV w3 (.slice sa m sc) R.name) := V3
  have B3 : Below w.heap.size w w3 := B1.trans ((ext_bel X13).mono B1.size)
  have P3 := ext_blk X13 P1
  obtain ⟨p0, p1, p2, p3, p4, p5⟩ := cells6 P3
  clear V3 P1
  -- the program's argument
  go_wp2_with fail
  refine (HTA.out w3 B3).mono ?_
  rintro e w4 ⟨xa4, xc4, rfl, o4, b4⟩
  have X34 : Ext w3 w4 := ext_below b4
  have HM4 : Hid (∀ W, W = w4.alloc (.cells #[.slice xa4 n xc4, .int .i64 D.ttl, .int .i64 D.most, .int .i64 D.st, .int .i64 D.age, .int .i64 D.fails] 27 (0, 0)) → Ext w3 W ∧ W.heap[w4.heap.size]? = some (.cells #[.slice xa4 n xc4, .int .i64 D.ttl, .int .i64 D.most, .int .i64 D.st, .int .i64 D.age, .int .i64 D.fails] 27 (0, 0)) ∧ OwB W w3.heap.size (.slice xa4 n xc4) D.name) := fun W hW => by
    subst hW
    exact ⟨X34.tr (hE _ _), heap_alloc_new _ _, o4.out.ext (hE _ _)⟩
  clear b4 p0 p1 p2 p3 p4 p5
  go_upto_region 7 with fail
  generalize hU : w4.alloc _ = U4
  obtain ⟨X3U, XU, OX⟩ := HM4.out U4 hU.symm
  clear hU HM4 X34 o4
  generalize w4.heap.size = bx at *
  have HGX : Hid (∀ k, (Value.slice xa4 n xc4).ownBlock = some k → k < U4.heap.size) := fun k hk => (OX.lt k hk).2
  have HOX : Hid (OwB U4 w3.heap.size (.slice xa4 n xc4) D.name) := OX
  obtain ⟨q0, q1, q2, q3, q4, q5⟩ := cells6 XU
  -- the program
  go_wp2_with fail
  refine (HI.out U4 _ ⟨_, rfl, HOX.out.rv⟩).mono ?_
  rintro e w5 ⟨ga, gc, rfl, O5, b5⟩
  have HLL : Hid (∀ W, W = w5.alloc (.cells #[.slice ga m gc, .int .i64 R.ttl, .int .i64 R.most, .int .i64 R.st, .int .i64 R.age, .int .i64 R.fails] 27 (0, 0)) → LK w w3 W D R (.slice ta n tc) (.slice sa m sc) (.slice xa4 n xc4) (.slice ga m gc) bs bx w5.heap.size U4.heap.size R.name ∧ OwB W w3.heap.size (.slice xa4 n xc4) D.name) := fun W hW => by
    subst hW
    have X4W : Ext U4 (w5.alloc (.cells #[.slice ga m gc, .int .i64 R.ttl, .int .i64 R.most, .int .i64 R.st, .int .i64 R.age, .int .i64 R.fails] 27 (0, 0))) := (ext_below b5).tr (hE _ _)
    have X3W := X3U.tr X4W
    exact ⟨⟨B3.trans ((ext_bel X3W).mono B3.size), ext_bel X3W, HV3.out, ext_blk X3W P3, ext_blk X3W PS3, ext_blk X4W XU, heap_alloc_new _ _, O5.out.ext (hE _ _), X3U.size, B3.size⟩, HOX.out.ext X4W⟩
  clear q0 q1 q2 q3 q4 q5 OX
  go_upto_region 8 with fail
  generalize hU : w5.alloc _ = W0
  obtain ⟨L0, X0⟩ := HLL.out W0 hU.symm
  clear hU HLL O5 b5 XU X3U PS3 P3 HV3 B3 HOX
  generalize w5.heap.size = bg at *
  have HL0 : Hid (LK w w3 W0 D R (.slice ta n tc) (.slice sa m sc) (.slice xa4 n xc4) (.slice ga m gc) bs bx bg U4.heap.size R.name) := L0
  have HX0 : Hid (OwB W0 w3.heap.size (.slice xa4 n xc4) D.name) := X0
  obtain ⟨s0, s1, s2, s3, s4, s5⟩ := cells6 L0.s
  obtain ⟨y0, y1, y2, y3, y4, y5⟩ := cells6 L0.g
  clear L0 X0
  -- its answer held against the specification's
  go_wp2_with fail
  refine (eqChk _ _ R _ ⟨_, rfl, HL0.out.gO.rv⟩ HL0.out.sW (by rw [← HMR.out]; exact HML.out)).mono ?_
  rintro e W1 ⟨rfl, b1⟩
  have HL1 := hideR (HL0.out.grow b1)
  have HX1 : Hid (OwB W1 w3.heap.size (.slice xa4 n xc4) D.name) := HX0.out.ext (ext_below b1)
  have HLOW : Hid (Below w.heap.size w W1) := HL1.out.low
  clear s0 s1 s2 s3 s4 s5 y0 y1 y2 y3 y4 y5 b1 HL0 HX0
  obtain ⟨x0, x1, x2, x3, x4, x5⟩ := cells6 HL1.out.x
  obtain ⟨a0, a1, a2, a3, a4, a5⟩ := cells6 HL1.out.a
  have HS1 : Hid ((W1.cell? ⟨bx, 0, none⟩ = some (.slice xa4 n xc4) ∧ W1.cell? ⟨bx, 1, none⟩ = some (.int .i64 D.ttl) ∧ W1.cell? ⟨bx, 2, none⟩ = some (.int .i64 D.most) ∧ W1.cell? ⟨bx, 3, none⟩ = some (.int .i64 D.st) ∧ W1.cell? ⟨bx, 4, none⟩ = some (.int .i64 D.age) ∧ W1.cell? ⟨bx, 5, none⟩ = some (.int .i64 D.fails)) ∧ (W1.cell? ⟨w.heap.size, 0, none⟩ = some (.slice ta n tc) ∧ W1.cell? ⟨w.heap.size, 1, none⟩ = some (.int .i64 D.ttl) ∧ W1.cell? ⟨w.heap.size, 2, none⟩ = some (.int .i64 D.most) ∧ W1.cell? ⟨w.heap.size, 3, none⟩ = some (.int .i64 D.st) ∧ W1.cell? ⟨w.heap.size, 4, none⟩ = some (.int .i64 D.age) ∧ W1.cell? ⟨w.heap.size, 5, none⟩ = some (.int .i64 D.fails))) := ⟨⟨x0, x1, x2, x3, x4, x5⟩, ⟨a0, a1, a2, a3, a4, a5⟩⟩
  -- its argument is as it was
  go_upto_region 10 with fail
  go_region_held3 (fun w' => (w'.cell? ⟨bx, 0, none⟩ = some (.slice xa4 n xc4) ∧ w'.cell? ⟨bx, 1, none⟩ = some (.int .i64 D.ttl) ∧ w'.cell? ⟨bx, 2, none⟩ = some (.int .i64 D.most) ∧ w'.cell? ⟨bx, 3, none⟩ = some (.int .i64 D.st) ∧ w'.cell? ⟨bx, 4, none⟩ = some (.int .i64 D.age) ∧ w'.cell? ⟨bx, 5, none⟩ = some (.int .i64 D.fails)) ∧ (w'.cell? ⟨w.heap.size, 0, none⟩ = some (.slice ta n tc) ∧ w'.cell? ⟨w.heap.size, 1, none⟩ = some (.int .i64 D.ttl) ∧ w'.cell? ⟨w.heap.size, 2, none⟩ = some (.int .i64 D.most) ∧ w'.cell? ⟨w.heap.size, 3, none⟩ = some (.int .i64 D.st) ∧ w'.cell? ⟨w.heap.size, 4, none⟩ = some (.int .i64 D.age) ∧ w'.cell? ⟨w.heap.size, 5, none⟩ = some (.int .i64 D.fails))) (first | (simp [*]; done) | go_keep)
    (first
      | (go_at_call 12; refine (eqChk _ _ D _ ?_ ?_ HLE.out).mono ?_; exact (⟨_, rfl, (HX1.out.rv.ext (ext_drewN W1 1)).ext (ext_below b6)⟩ : VChk _ _ D); exact V6; rintro e w7 ⟨rfl, b7⟩; obtain ⟨c0, c1, c2, c3, c4, c5⟩ := cells6_kept HS1.out.1 (((ext_drewN W1 1).tr (ext_below b6)).tr (ext_below b7)); obtain ⟨d0, d1, d2, d3, d4, d5⟩ := cells6_kept HS1.out.2 (((ext_drewN W1 1).tr (ext_below b6)).tr (ext_below b7)))
      | (go_at_call 10; refine (toChkO _ D _ ?_ HLE.out).mono ?_; exact (h0.out.ext (ext_below HLOW.out)).ext (ext_drewN W1 1); rintro e w6 ⟨xa6, xc6, rfl, o6, b6⟩; rw [← HN.out]; have V6 : VChk w6 (.agg #[.slice xa6 n xc6, .int .i64 D.ttl, .int .i64 D.most, .int .i64 D.st, .int .i64 D.age, .int .i64 D.fails]) D := (⟨_, rfl, by rw [HN.out]; exact o6.rv⟩); obtain ⟨c0, c1, c2, c3, c4, c5⟩ := cells6_kept HS1.out.1 ((ext_drewN W1 1).tr (ext_below b6)); obtain ⟨d0, d1, d2, d3, d4, d5⟩ := cells6_kept HS1.out.2 ((ext_drewN W1 1).tr (ext_below b6))))
  have bA : Below W1.heap.size W1 w7 := ((below_drewN (Below.refl _ W1) 1).trans (b6.mono (Nat.le_refl _))).trans (b7.mono b6.size)
  have HL2 := hideR (HL1.out.grow bA)
  have HX2 : Hid (OwB w7 w3.heap.size (.slice xa4 n xc4) D.name) := HX1.out.ext (ext_below bA)
  clear c0 c1 c2 c3 c4 c5 d0 d1 d2 d3 d4 d5 x0 x1 x2 x3 x4 x5 a0 a1 a2 a3 a4 a5 b6 b7 bA V6 o6 HL1 HX1 HS1 HLOW
  obtain ⟨x0, x1, x2, x3, x4, x5⟩ := cells6 HL2.out.x
  -- marks in its argument
  go_wp2_with fail
  refine (markChk w3.heap.size D _ D.name 1 _ HX2.out HLE.out (by omega) (by omega)).mono ?_
  rintro e W3 ⟨rfl, o3, g3⟩
  rw [← HN.out]
  have HGO : Hid (OwB W3 U4.heap.size (.slice ga m gc) R.name) := keep_ltB HL2.out.gO g3 HGX.out
  have HL3 := hideR (HL2.out.turn HX2.out (Nat.le_refl _) g3 HGO.out)
  clear o3 g3 x0 x1 x2 x3 x4 x5 HL2 HX2
  obtain ⟨s0, s1, s2, s3, s4, s5⟩ := cells6 HL3.out.s
  obtain ⟨y0, y1, y2, y3, y4, y5⟩ := cells6 HL3.out.g
  have hk0 : ¬ ((1 : Int) + (n : Int) < 0) := by omega
  have hk1 : decide ((1 : Int) + (n : Int) < 0) = false := by simp; omega
  go_wp2_with fail
  refine (eqChk _ _ R _ ⟨_, rfl, HL3.out.gO.rv⟩ HL3.out.sW (by rw [← HMR.out]; exact HML.out)).mono ?_
  rintro e W4 ⟨rfl, b4⟩
  have HL4 := hideR (HL3.out.grow b4)
  clear s0 s1 s2 s3 s4 s5 y0 y1 y2 y3 y4 y5 b4 HL3 HGO
  obtain ⟨y0, y1, y2, y3, y4, y5⟩ := cells6 HL4.out.g
  -- marks in its answer
  go_wp2_with fail
  refine (markChk U4.heap.size R _ R.name 1 _ HL4.out.gO (by rw [← HMR.out]; exact HML.out) (by omega) (by omega)).mono ?_
  rintro e W5 ⟨rfl, o5, g5⟩
  rw [← HMR.out] at o5 ⊢
  have HL5 := hideR (HL4.out.turn HL4.out.gO HL4.out.bs g5 o5)
  clear o5 g5 y0 y1 y2 y3 y4 y5 HL4
  obtain ⟨y0, y1, y2, y3, y4, y5⟩ := cells6 HL5.out.g
  go_wp2_with fail
  refine (heldChk U4.heap.size R _ m 1 _ HL5.out.gO HML.out (by omega) (by omega)).mono ?_
  rintro e W6 ⟨rfl, b6⟩
  have HL6 := hideR (HL5.out.grow b6)
  clear y0 y1 y2 y3 y4 y5 b6 HL5
  obtain ⟨a0, a1, a2, a3, a4, a5⟩ := cells6 HL6.out.a
  have hm0 : ¬ ((1 : Int) + (m : Int) < 0) := by omega
  -- another call
  go_wp2_with fail
  refine (HTA.out W6 HL6.out.low).mono ?_
  rintro e W7 ⟨xa7, xc7, rfl, o7, b7⟩
  have HL7 := hideR (HL6.out.grow b7)
  clear b7 a0 a1 a2 a3 a4 a5 HL6
  go_wp2_with fail
  refine (HI.out W7 _ ⟨_, rfl, o7.out.rv⟩).mono ?_
  rintro e W8 ⟨ha, hc, rfl, O8, b8⟩
  have HL8 := hideR (HL7.out.grow b8)
  have HH : Hid (∀ W, W = W8.alloc (.cells #[.slice ha m hc, .int .i64 R.ttl, .int .i64 R.most, .int .i64 R.st, .int .i64 R.age, .int .i64 R.fails] 27 (0, 0)) → LK w w3 W D R (.slice ta n tc) (.slice sa m sc) (.slice xa4 n xc4) (.slice ga m gc) bs bx bg U4.heap.size (marks 1 m) ∧ W.heap[W8.heap.size]? = some (.cells #[.slice ha m hc, .int .i64 R.ttl, .int .i64 R.most, .int .i64 R.st, .int .i64 R.age, .int .i64 R.fails] 27 (0, 0)) ∧ RV W (.slice ha m hc) R.name) := fun W hW => by
    subst hW
    exact ⟨HL8.out.grow (hB _ _), heap_alloc_new _ _, O8.out.rv.ext (hE _ _)⟩
  clear b8 o7 HL7
  go_upto_region 25 with fail
  generalize hU : W8.alloc _ = W9
  obtain ⟨L9, Q9, T9⟩ := HH.out W9 hU.symm
  have HL9 := hideR L9
  have HT9 : Hid (RV W9 (.slice ha m hc) R.name) := T9
  clear hU HH L9 T9 HL8 O8
  generalize W8.heap.size = bh at *
  obtain ⟨t0, t1, t2, t3, t4, t5⟩ := cells6 Q9
  obtain ⟨s0, s1, s2, s3, s4, s5⟩ := cells6 HL9.out.s
  go_wp2_with fail
  refine (eqChk _ _ R _ ⟨_, rfl, HT9.out⟩ HL9.out.sW (by rw [← HMR.out]; exact HML.out)).mono ?_
  rintro e W10 ⟨rfl, b10⟩
  have HL10 := hideR (HL9.out.grow b10)
  clear b10 t0 t1 t2 t3 t4 t5 s0 s1 s2 s3 s4 s5 Q9 HT9 HL9
  obtain ⟨y0, y1, y2, y3, y4, y5⟩ := cells6 HL10.out.g
  go_wp2_with fail
  refine (heldChk U4.heap.size R _ m 1 _ HL10.out.gO HML.out (by omega) (by omega)).mono ?_
  rintro e W11 ⟨rfl, b11⟩
  go_wp2_with fail
  go_ret
  exact ⟨rfl, (HL10.out.grow b11).low⟩

end Go.Proofs.Ytmokgfbggjcedaa
