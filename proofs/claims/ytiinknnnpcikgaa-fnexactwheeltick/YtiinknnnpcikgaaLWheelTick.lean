/- The exact statement of WheelTick: the walk of the law itself. -/
import Derived.Test.YtiinknnnpcikgaaHqB
import Derived.Deep.RegionHeld3
namespace Go.Proofs.Ytiinknnnpcikgaa
open Go.RowKit

set_option maxRecDepth 20000 in
set_option maxHeartbeats 8000000 in
theorem law_WheelTick (v : Value) (D : DWheel) (q0 : Int) (w : World) (h : VWheel w v D) (_q01 : -9223372036854775808 ≤ q0) (_q02 : q0 ≤ 9223372036854775807) :
    Calls Try.prog 5 #[v, .int .i64 q0] w fun e w' => e = .returned (.bool true) ∧ Below w.heap.size w w' := by
  have hE : ∀ w : World, ∀ o, Ext w (w.alloc o) := fun w o => World.grownBy_alloc _ _ _
  have hB : ∀ w : World, ∀ o, Below w.heap.size w (w.alloc o) := fun w o => (Below.refl _ w).alloc (Nat.le_refl _) _
  have h0 : Hid (VWheel w v D) := h
  obtain ⟨⟨R, RI⟩, hR⟩ : ∃ R, R = tickD (tB (WheelP D)) D q0 := ⟨_, rfl⟩
  have HR : Hid ((R, RI) = tickD (tB (WheelP D)) D q0) := hR
  have HRL : Hid (D.tms.length ≤ 1048576 → R.tms.length ≤ 1048576 ∧ RI.length ≤ 1048576) := fun hl => by have := tickD_len D q0 hl; rw [← hR] at this; exact this
  clear hR
  obtain ⟨tv, rfl, ht⟩ := h
  obtain ⟨ta, tc', rfl⟩ := ht.shape
  obtain ⟨n, hn⟩ : ∃ n, n = D.tms.length := ⟨_, rfl⟩
  have HN : Hid (n = D.tms.length) := hn
  rw [← hn] at h0 ⊢
  clear hn ht
  go_enter Try.func5, Try.ntmps5
  go_wp2_with fail
  refine (szW _ D 1048576 _ (h0.out.ext (hE _ _)) (by omega) (by omega)).mono ?_
  rintro e w1 ⟨r, rfl, hrr, b1⟩
  rw [← HN.out] at hrr
  have B1 := (hB w _).trans (b1.mono (by simp))
  have P1 := below_blk b1 (by simp) (heap_alloc_new w _)
  rcases hrr with ⟨h1, rfl⟩ | ⟨h1, h2⟩
  · go_wp2_with fail
    go_ret
    exact ⟨rfl, B1⟩
  have HL : Hid (D.tms.length ≤ 1048575 ∨ D.tms.length = 1048576) := by have := HN.out; show _ ∨ _; omega
  have HLE : Hid (D.tms.length ≤ 1048576) := by have := HL.out; show _ ≤ _; omega
  have hl : n ≤ 1048576 := by omega
  have hr0 : 0 ≤ r := by omega
  clear h1 h2 b1
  obtain ⟨p0, _⟩ := at_block P1 0 _ rfl
  obtain ⟨p1, _⟩ := at_block P1 1 _ rfl
  have hw1 : w.heap.size < w1.heap.size := (Array.getElem?_eq_some_iff.1 P1).1
  go_wp2_with fail
  -- the specification
  refine (toW _ D w1 (h0.out.ext (ext_below B1)) HLE.out).mono ?_
  rintro e w2 ⟨g2, rfl, g2l, o2, b2⟩
  rw [← HN.out]
  have B2 := B1.trans (b2.mono B1.size)
  have V2 : VWheel w2 (.agg #[.int .i64 D.now, .slice (some ⟨g2, 0, none⟩) n n]) D := ⟨_, rfl, by rw [HN.out]; exact o2.v HLE.out⟩
  have P2 := below_blk b2 hw1 P1
  clear o2
  go_wp2_with fail
  refine (sTickV _ D q0 w2 V2 HLE.out _q01 _q02).mono ?_
  rintro e w3 ⟨sv, sr, rfl, V3, I3, b3⟩
  rw [← HR.out] at V3 I3 ⊢
  have HV3 : Hid (VTims w3 sv R.tms) := V3
  have HI3 : Hid (VL fI w3 sr RI) := I3
  obtain ⟨ia, ic, hsr⟩ : ∃ a c, sr = .slice a RI.length c := vl_shape I3
  obtain ⟨li, hli⟩ : ∃ li, li = RI.length := ⟨_, rfl⟩
  have HLI : Hid (li = RI.length) := hli
  rw [← hli] at hsr
  subst hsr
  have HIL : Hid (RI.length ≤ 1048576) := (HRL.out HLE.out).2
  have HIL2 : Hid (li ≤ 1048576) := by rw [hli]; exact HIL.out
  clear I3 hli
  obtain ⟨sa, sc, hsv⟩ : ∃ a c, sv = .slice a R.tms.length c := V3.shape
  obtain ⟨m, hm⟩ : ∃ m, m = R.tms.length := ⟨_, rfl⟩
  have HMR : Hid (m = R.tms.length) := hm
  rw [← hm] at hsv
  subst hsv
  have HML : Hid (m ≤ 1048576) := by rw [hm]; exact (HRL.out HLE.out).1
  clear V3 hm
  have B3 : Below w.heap.size w w3 := B2.trans (b3.mono B2.size)
  have P3 := below_blk b3 (by have := b2.size; omega) P2
  obtain ⟨q0, _⟩ := at_block P3 0 _ rfl
  obtain ⟨q1, _⟩ := at_block P3 1 _ rfl
  have hw3 : w.heap.size < w3.heap.size := (Array.getElem?_eq_some_iff.1 P3).1
  clear p0 p1 V2 b2 b3 P1 P2 B1 B2 g2l hw1
  -- the program's argument
  go_wp2_with fail
  generalize hU : w3.alloc _ = U3
  have BU : Below w3.heap.size w3 U3 := by rw [← hU]; exact hB _ _
  have SU : U3.heap[w3.heap.size]? = some (.cells #[.int .i64 R.now, .slice sa m sc] 28 (0, 0)) := by rw [← hU]; exact heap_alloc_new w3 _
  clear hU
  have hu3 : w3.heap.size < U3.heap.size := (Array.getElem?_eq_some_iff.1 SU).1
  refine (toW _ D U3 (h0.out.ext (ext_below (B3.trans (BU.mono B3.size)))) HLE.out).mono ?_
  rintro e w4 ⟨g4, rfl, g4l, o4, b4⟩
  rw [← HN.out]
  have HO4 : Hid (OwT w4 U3.heap.size (.slice (some ⟨g4, 0, none⟩) n n) D.tms) := by rw [HN.out]; exact o4.own g4l HLE.out
  have BW4 : Below w3.heap.size w3 w4 := BU.trans (b4.mono BU.size)
  have P4 := below_blk BW4 hw3 P3
  have S4 := below_blk b4 hu3 SU
  have hw4 : w3.heap.size < w4.heap.size := (Array.getElem?_eq_some_iff.1 S4).1
  clear o4 b4 BU SU q0 q1 g4l
  go_wp2_with fail
  generalize hU : w4.alloc _ = U4
  have BU : Below w4.heap.size w4 U4 := by rw [← hU]; exact hB _ _
  have XU : U4.heap[w4.heap.size]? = some (.cells #[.int .i64 D.now, .slice (some ⟨g4, 0, none⟩) n n] 28 (0, 0)) := by rw [← hU]; exact heap_alloc_new w4 _
  have OX : OwT U4 U3.heap.size (.slice (some ⟨g4, 0, none⟩) n n) D.tms := HO4.out.kept (ext_below BU) (by simp [Value.ownBlock])
  clear hU
  -- the program
  refine (iTickV _ D q0 U4 ⟨_, rfl, OX.v⟩ HLE.out).mono ?_
  rintro e w5 ⟨gv, gr, rfl, O5, I5, b5⟩
  rw [← HR.out] at O5 I5 ⊢
  obtain ⟨ja, jc, hgr⟩ : ∃ a c, gr = .slice a RI.length c := I5.shape
  rw [← HLI.out] at hgr
  subst hgr
  obtain ⟨ga, gc, hgv⟩ : ∃ a c, gv = .slice a R.tms.length c := O5.v.shape
  rw [← HMR.out] at hgv
  subst hgv
  have OX5 : OwT w5 U3.heap.size (.slice (some ⟨g4, 0, none⟩) n n) D.tms := OX.kept (ext_below b5) (by simp [Value.ownBlock])
  have HGX : Hid (g4 < U4.heap.size) := (World.ownsRow.lt OX g4 rfl).2
  have X5 := below_blk b5 (Array.getElem?_eq_some_iff.1 XU).1 XU
  have B5 : Below w3.heap.size w3 w5 := (BW4.trans (BU.mono BW4.size)).trans (b5.mono (Nat.le_trans BW4.size BU.size))
  have P5 := below_blk B5 hw3 P3
  have S5 := below_blk (BU.trans (b5.mono BU.size)) hw4 S4
  have HUU : Hid (w3.heap.size ≤ U3.heap.size ∧ U3.heap.size ≤ U4.heap.size ∧ w3.heap.size ≤ U4.heap.size) := ⟨Nat.le_of_lt hu3, Nat.le_of_lt (Nat.lt_of_le_of_lt (World.ownsRow.lt OX g4 rfl).1 HGX.out), Nat.le_trans BW4.size BU.size⟩
  have HMI : Hid (∀ W, W = w5.alloc (.cells #[.int .i64 R.now, .slice ga m gc] 28 (0, 0)) → LI w3 W (.slice ia li ic) (.slice ja li jc) RI RI U4.heap.size) := fun W hW => by
    subst hW
    exact ⟨HI3.out, I5.ext (hE _ _)⟩
  have HM : Hid (∀ W, W = w5.alloc (.cells #[.int .i64 R.now, .slice ga m gc] 28 (0, 0)) → LW w w3 W D R (.slice ta n tc') (.slice sa m sc) (.slice (some ⟨g4, 0, none⟩) n n) (.slice ga m gc) w3.heap.size w4.heap.size w5.heap.size U4.heap.size R.tms ∧ OwT W U3.heap.size (.slice (some ⟨g4, 0, none⟩) n n) D.tms) := fun W hW => by
    subst hW
    have bb := hB w5 (.cells #[.int .i64 R.now, .slice ga m gc] 28 (0, 0))
    refine ⟨⟨B3.trans ((B5.trans (bb.mono B5.size)).mono B3.size), B5.trans (bb.mono B5.size), HV3.out, below_blk bb (Array.getElem?_eq_some_iff.1 P5).1 P5, below_blk bb (Array.getElem?_eq_some_iff.1 S5).1 S5, below_blk bb (Array.getElem?_eq_some_iff.1 X5).1 X5, heap_alloc_new w5 _, ?_, HUU.out.2.2, B3.size⟩, OX5.alloc _⟩
    exact O5.alloc _
  clear O5 I5 OX OX5 X5 S5 P5 B5 b5 BU XU S4 P4 BW4 P3 B3 hw3 hu3 hw4 HO4 HV3
  go_upto_region 8 with fail
  generalize hU : w5.alloc _ = W0
  obtain ⟨L0, X0⟩ := HM.out W0 hU.symm
  have HI0 := hideP (HMI.out W0 hU.symm)
  have HL0 : Hid (LW w w3 W0 D R (.slice ta n tc') (.slice sa m sc) (.slice (some ⟨g4, 0, none⟩) n n) (.slice ga m gc) w3.heap.size w4.heap.size w5.heap.size U4.heap.size R.tms) := L0
  have HX0 : Hid (OwT W0 U3.heap.size (.slice (some ⟨g4, 0, none⟩) n n) D.tms) := X0
  clear hU X0 HM HMI
  generalize w4.heap.size = bx at *
  generalize w5.heap.size = bg at *
  obtain ⟨s0, _⟩ := at_block L0.s 0 _ rfl
  obtain ⟨s1, _⟩ := at_block L0.s 1 _ rfl
  obtain ⟨y0, _⟩ := at_block L0.g 0 _ rfl
  obtain ⟨y1, _⟩ := at_block L0.g 1 _ rfl
  clear L0
  -- its answer held against the specification's
  go_wp2_with fail
  refine (eqW _ _ R _ ⟨_, rfl, HL0.out.gO.v⟩ HL0.out.sW (by rw [← HMR.out]; exact HML.out)).mono ?_
  rintro e W1' ⟨rfl, b1⟩
  have HL1' := hideP (HL0.out.grow b1)
  have HI1' := hideP (HI0.out.grow b1)
  have HX1' : Hid (OwT W1' U3.heap.size (.slice (some ⟨g4, 0, none⟩) n n) D.tms) := HX0.out.kept (ext_below b1) (by simp [Value.ownBlock])
  clear b1 s0 s1 y0 y1 HL0 HI0 HX0
  go_wp2_with fail
  refine (eqL_I _ _ RI _ HI1'.out.gR.vl (HI1'.out.sR.ext (ext_below HL1'.out.sB)) HIL.out).mono ?_
  rintro e W1 ⟨rfl, q1, hq1⟩
  have b1 : Below W1'.heap.size W1' W1 := by rw [hq1]; exact below_q _ _
  clear hq1
  have HL1 := hideP (HL1'.out.grow b1)
  have HI1 := hideP (HI1'.out.grow b1)
  have HX1 : Hid (OwT W1 U3.heap.size (.slice (some ⟨g4, 0, none⟩) n n) D.tms) := HX1'.out.kept (ext_below b1) (by simp [Value.ownBlock])
  have a0 := (at_block HL1.out.a 0 _ rfl).1
  have a1 := (at_block HL1.out.a 1 _ rfl).1
  have x0 := (at_block HL1.out.x 0 _ rfl).1
  have x1 := (at_block HL1.out.x 1 _ rfl).1
  have HS1 : Hid ((W1.cell? ⟨bx, 0, none⟩ = some (.int .i64 D.now) ∧ W1.cell? ⟨bx, 1, none⟩ = some (.slice (some ⟨g4, 0, none⟩) n n)) ∧ (W1.cell? ⟨w.heap.size, 0, none⟩ = some (.int .i64 D.now) ∧ W1.cell? ⟨w.heap.size, 1, none⟩ = some (.slice ta n tc'))) := ⟨⟨x0, x1⟩, ⟨a0, a1⟩⟩
  clear b1 HL1' HX1' HI1'
  -- its argument is as it was
  go_upto_region 10 with fail
  go_region_held3 (fun w' => w'.cell? ⟨bx, 0, none⟩ = some (.int .i64 D.now) ∧ w'.cell? ⟨bx, 1, none⟩ = some (.slice (some ⟨g4, 0, none⟩) n n) ∧ w'.cell? ⟨w.heap.size, 0, none⟩ = some (.int .i64 D.now) ∧ w'.cell? ⟨w.heap.size, 1, none⟩ = some (.slice ta n tc')) (simp [*])
    (first | (go_at_call 8; refine (toW _ D _ ?_ HLE.out).mono ?_; exact (h0.out.ext (ext_below HL1.out.low)).ext (ext_drewN W1 1); rintro e w6 ⟨g6, rfl, g6l, o6, b6⟩; rw [← HN.out]; have V6 : VWheel w6 (.agg #[.int .i64 D.now, .slice (some ⟨g6, 0, none⟩) n n]) D := (⟨_, rfl, by rw [HN.out]; exact o6.v HLE.out⟩); obtain ⟨⟨c0, c1⟩, ⟨d0, d1⟩⟩ := keptW (w := W1.drew) HS1.out b6) | (go_at_call 10; refine (eqW _ _ D _ ?_ ?_ HLE.out).mono ?_; exact (⟨_, rfl, (HX1.out.v.ext (ext_drewN W1 1)).ext (ext_below b6)⟩ : VWheel _ _ D); exact V6; rintro e w7 ⟨rfl, b7⟩; obtain ⟨⟨c0', c1'⟩, ⟨d0', d1'⟩⟩ := keptW ⟨⟨c0, c1⟩, ⟨d0, d1⟩⟩ b7))
  have bA : Below W1.heap.size W1 w7 := ((below_drewN (Below.refl _ W1) 1).trans (b6.mono (Nat.le_refl _))).trans (b7.mono b6.size)
  have HL2 := hideP (HL1.out.grow bA)
  have HI2 := hideP (HI1.out.grow bA)
  have HX2 : Hid (OwT w7 U3.heap.size (.slice (some ⟨g4, 0, none⟩) n n) D.tms) := HX1.out.kept (ext_below bA) (by simp [Value.ownBlock])
  clear c0 c1 d0 d1 c0' c1' d0' d1' b6 b7 bA V6 o6 g6l x0 x1 a0 a1 HL1 HX1 HS1 HI1
  have x0 := (at_block HL2.out.x 0 _ rfl).1
  have x1 := (at_block HL2.out.x 1 _ rfl).1
  -- marks in its argument
  go_wp2_with fail
  refine (markW U3.heap.size D.now _ D.tms 1 _ HX2.out HLE.out (by omega) (by omega)).mono ?_
  rintro e W3 ⟨rfl, o3, g3⟩
  rw [← HN.out]
  have HGO : Hid (OwT W3 U4.heap.size (.slice ga m gc) R.tms) := HL2.out.gO.kept g3 (by
    cases hv : (Value.slice ga m gc).ownBlock with
    | none => exact .inl rfl
    | some k =>
      right
      have := (World.ownsRow.lt HL2.out.gO k hv).1
      have := HGX.out
      simp only [Value.ownBlock, ne_eq, Option.some.injEq]
      omega)
  have HL3 := hideP (HL2.out.turn HX2.out HUU.out.1 g3 HGO.out)
  have HI3' := hideP (HI2.out.turnT HX2.out g3)
  clear o3 g3 x0 x1 HL2 HX2 HI2
  have s0 := (at_block HL3.out.s 0 _ rfl).1
  have s1 := (at_block HL3.out.s 1 _ rfl).1
  have y0 := (at_block HL3.out.g 0 _ rfl).1
  have y1 := (at_block HL3.out.g 1 _ rfl).1
  have hk0 : ¬ ((1 : Int) + 2 * (n : Int) < 0) := by omega
  have hk1 : decide ((1 : Int) + 2 * (n : Int) < 0) = false := by simp; omega
  go_wp2_with fail
  refine (eqW _ _ R _ ⟨_, rfl, HL3.out.gO.v⟩ HL3.out.sW (by rw [← HMR.out]; exact HML.out)).mono ?_
  rintro e W4' ⟨rfl, b4⟩
  have HL4' := hideP (HL3.out.grow b4)
  have HI4' := hideP (HI3'.out.grow b4)
  clear s0 s1 y0 y1 b4 HL3 HGO HI3'
  go_wp2_with fail
  refine (eqL_I _ _ RI _ HI4'.out.gR.vl (HI4'.out.sR.ext (ext_below HL4'.out.sB)) HIL.out).mono ?_
  rintro e W4 ⟨rfl, q4, hq4⟩
  have b4 : Below W4'.heap.size W4' W4 := by rw [hq4]; exact below_q _ _
  clear hq4
  have HL4 := hideP (HL4'.out.grow b4)
  have HI4 := hideP (HI4'.out.grow b4)
  clear b4 HL4' HI4'
  have y0 := (at_block HL4.out.g 0 _ rfl).1
  have y1 := (at_block HL4.out.g 1 _ rfl).1
  -- marks in its answer
  go_wp2_with fail
  refine (markW U4.heap.size R.now _ R.tms 1 _ HL4.out.gO (by rw [← HMR.out]; exact HML.out) (by omega) (by omega)).mono ?_
  rintro e W5' ⟨rfl, o5, g5⟩
  rw [← HMR.out] at o5 ⊢
  have HL5' := hideP (HL4.out.turn HL4.out.gO HL4.out.bs g5 o5)
  have HI5' := hideP (HI4.out.turnT HL4.out.gO g5)
  clear o5 g5 y0 y1 HL4 HI4
  have hmk : (1 : Int) + 2 * (m : Int) ≤ 1000000000 := by have := HML.out; omega
  go_wp2_with fail
  refine (markOI U4.heap.size _ RI (1 + 2 * (m : Int)) _ HI5'.out.gR HIL.out (by omega) hmk).mono ?_
  rintro e W5 ⟨rfl, o5, g5⟩
  rw [← HLI.out] at o5 ⊢
  have HL5 := hideP (HL5'.out.turnI HI5'.out.gR HL5'.out.bs g5)
  have HI5 : Hid (LI w3 W5 (.slice ia li ic) (.slice ja li jc) RI (mkL (fun x : Int => x) (1 + 2 * (m : Int)) li) U4.heap.size) := ⟨HI5'.out.sR, o5⟩
  clear o5 g5 HL5' HI5'
  have y0 := (at_block HL5.out.g 0 _ rfl).1
  have y1 := (at_block HL5.out.g 1 _ rfl).1
  go_wp2_with fail
  refine (heldW U4.heap.size R.now _ m 1 _ HL5.out.gO (by have := HML.out; omega) (by omega) (by omega)).mono ?_
  rintro e W6' ⟨rfl, b6⟩
  have HL6' := hideP (HL5.out.grow b6)
  have HI6' := hideP (HI5.out.grow b6)
  have hm0' : ¬ ((1 : Int) + 2 * (m : Int) < 0) := by omega
  have hli0 : (li : Int) ≤ 1048576 := by have := HIL2.out; omega
  clear y0 y1 b6 HL5 HI5
  go_wp2_with fail
  refine (heldOI U4.heap.size _ li (1 + 2 * (m : Int)) _ HI6'.out.gR (by omega) hmk HIL2.out).mono ?_
  rintro e W6 ⟨rfl, q6, hq6⟩
  have b6 : Below W6'.heap.size W6' W6 := by rw [hq6]; exact below_q _ _
  clear hq6
  have HL6 := hideP (HL6'.out.grow b6)
  have HI6 := hideP (HI6'.out.grow b6)
  clear b6 HL6' HI6'
  have a0 := (at_block HL6.out.a 0 _ rfl).1
  have a1 := (at_block HL6.out.a 1 _ rfl).1
  have hm0 : ¬ ((1 : Int) + 2 * (m : Int) + (li : Int) < 0) := by omega
  -- another call
  go_wp2_with fail
  refine (toW _ D W6 (h0.out.ext (ext_below HL6.out.low)) HLE.out).mono ?_
  rintro e W7 ⟨g7, rfl, g7l, o7, b7⟩
  rw [← HN.out]
  have HL7 := hideP (HL6.out.grow b7)
  have HI7 := hideP (HI6.out.grow b7)
  have V7 : VWheel W7 (.agg #[.int .i64 D.now, .slice (some ⟨g7, 0, none⟩) n n]) D := ⟨_, rfl, by rw [HN.out]; exact o7.v HLE.out⟩
  clear o7 b7 a0 a1 HL6 g7l HI6
  go_wp2_with fail
  refine (iTickV _ D q0 W7 V7 HLE.out).mono ?_
  rintro e W8 ⟨hv8, hr8, rfl, O8, I8, b8⟩
  rw [← HR.out] at O8 I8 ⊢
  have HL8 := hideP (HL7.out.grow b8)
  have HI8 := hideP (HI7.out.grow b8)
  obtain ⟨ka, kc, hhr⟩ : ∃ a c, hr8 = .slice a RI.length c := I8.shape
  rw [← HLI.out] at hhr
  subst hhr
  obtain ⟨ha, hc, hhv⟩ : ∃ a c, hv8 = .slice a R.tms.length c := O8.v.shape
  rw [← HMR.out] at hhv
  subst hhv
  have HHI : Hid (∀ W, W = W8.alloc (.cells #[.int .i64 R.now, .slice ha m hc] 28 (0, 0)) → LI w3 W (.slice ia li ic) (.slice ja li jc) RI (mkL (fun x : Int => x) (1 + 2 * (m : Int)) li) U4.heap.size ∧ VL fI W (.slice ka li kc) RI) := fun W hW => by
    subst hW
    exact ⟨HI8.out.grow (hB _ _), (I8.ext (hE _ _)).vl⟩
  have HH : Hid (∀ W, W = W8.alloc (.cells #[.int .i64 R.now, .slice ha m hc] 28 (0, 0)) → LW w w3 W D R (.slice ta n tc') (.slice sa m sc) (.slice (some ⟨g4, 0, none⟩) n n) (.slice ga m gc) w3.heap.size bx bg U4.heap.size (mkT 1 m) ∧ W.heap[W8.heap.size]? = some (.cells #[.int .i64 R.now, .slice ha m hc] 28 (0, 0)) ∧ VTims W (.slice ha m hc) R.tms) := fun W hW => by
    subst hW
    exact ⟨HL8.out.grow (hB _ _), heap_alloc_new _ _, O8.v.ext (hE _ _)⟩
  clear b8 O8 I8 V7 HL7 HI7
  go_upto_region 29 with fail
  generalize hU : W8.alloc _ = W9
  obtain ⟨L9, Q9, T9⟩ := HH.out W9 hU.symm
  have HL9 := hideP L9
  have HI9 := hideP (HHI.out W9 hU.symm)
  have HT9 : Hid (VTims W9 (.slice ha m hc) R.tms) := T9
  clear hU HH HHI L9 T9 HL8 HI8
  generalize W8.heap.size = bh at *
  obtain ⟨t0, _⟩ := at_block Q9 0 _ rfl
  obtain ⟨t1, _⟩ := at_block Q9 1 _ rfl
  have s0 := (at_block HL9.out.s 0 _ rfl).1
  have s1 := (at_block HL9.out.s 1 _ rfl).1
  go_wp2_with fail
  refine (eqW _ _ R _ ⟨_, rfl, HT9.out⟩ HL9.out.sW (by rw [← HMR.out]; exact HML.out)).mono ?_
  rintro e W10' ⟨rfl, b10⟩
  have HL10' := hideP (HL9.out.grow b10)
  have HI10' := hideP (HI9.out.1.grow b10)
  have HK10' := hideP (HI9.out.2.ext (ext_below b10))
  clear b10 t0 t1 s0 s1 Q9 HT9 HL9 HI9
  go_wp2_with fail
  refine (eqL_I _ _ RI _ HK10'.out (HI10'.out.sR.ext (ext_below HL10'.out.sB)) HIL.out).mono ?_
  rintro e W10 ⟨rfl, q10, hq10⟩
  have b10 : Below W10'.heap.size W10' W10 := by rw [hq10]; exact below_q _ _
  clear hq10
  have HL10 := hideP (HL10'.out.grow b10)
  have HI10 := hideP (HI10'.out.grow b10)
  clear b10 HL10' HI10' HK10'
  have y0 := (at_block HL10.out.g 0 _ rfl).1
  have y1 := (at_block HL10.out.g 1 _ rfl).1
  go_wp2_with fail
  refine (heldW U4.heap.size R.now _ m 1 _ HL10.out.gO (by have := HML.out; omega) (by omega) (by omega)).mono ?_
  rintro e W11 ⟨rfl, b11⟩
  have HL11 := hideP (HL10.out.grow b11)
  have HI11 := hideP (HI10.out.grow b11)
  clear b11 y0 y1
  go_wp2_with fail
  refine (heldOI U4.heap.size _ li (1 + 2 * (m : Int)) _ HI11.out.gR (by omega) hmk HIL2.out).mono ?_
  rintro e W12 ⟨rfl, q12, hq12⟩
  have b12 : Below W11.heap.size W11 W12 := by rw [hq12]; exact below_q _ _
  clear hq12
  go_wp2_with fail
  go_ret
  exact ⟨rfl, (HL11.out.grow b12).low⟩

end Go.Proofs.Ytiinknnnpcikgaa
