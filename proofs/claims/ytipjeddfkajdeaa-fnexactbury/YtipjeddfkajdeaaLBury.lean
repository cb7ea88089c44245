/- The exact statement of Bury: the walk of the law itself. -/
import Derived.Test.YtipjeddfkajdeaaTbL
import Derived.Test.YtipjeddfkajdeaaMsB2
import Derived.Test.YtipjeddfkajdeaaMsN
import Derived.Test.YtipjeddfkajdeaaMiBury
import Derived.Deep.RegionHeld3
namespace Go.Proofs.Ytipjeddfkajdeaa
open Go.RowKit

set_option maxRecDepth 20000 in
set_option maxHeartbeats 8000000 in
theorem law_Bury (v : Value) (D : DTab) (id : Int) (w : World) (h : VTab w v D) (_id1 : -9223372036854775808 ≤ id) (_id2 : id ≤ 9223372036854775807) :
    Calls Try.prog 4 #[v, .int .i64 id] w fun e w' => e = .returned (.bool true) ∧ Below w.heap.size w w' := by
  have hE : ∀ w : World, ∀ o, Ext w (w.alloc o) := fun w o => World.grownBy_alloc _ _ _
  have hB : ∀ w : World, ∀ o, Below w.heap.size w (w.alloc o) := fun w o => (Below.refl _ w).alloc (Nat.le_refl _) _
  have h0 : Hid (VTab w v D) := h
  obtain ⟨⟨R, rb⟩, hR⟩ : ∃ R, R = turnD D id 1 2 := ⟨_, rfl⟩
  have HR : Hid ((R, rb) = turnD D id 1 2) := hR
  have HRL : Hid (D.mems.length ≤ 1048576 → R.mems.length ≤ 1048576) := fun hl => by have := turnD_len D id 1 2 hl; rw [← hR] at this; exact this
  clear hR
  obtain ⟨tv, rfl, ht⟩ := h
  obtain ⟨ta, tc', rfl⟩ := ht.shape
  obtain ⟨n, hn⟩ : ∃ n, n = D.mems.length := ⟨_, rfl⟩
  have HN : Hid (n = D.mems.length) := hn
  rw [← hn] at h0 ⊢
  clear hn ht
  go_enter Try.func4, Try.ntmps4
  go_wp2_with fail
  refine (szTab _ D 1048576 _ (h0.out.ext (hE _ _)) (by omega) (by omega)).mono ?_
  rintro e w1 ⟨r, rfl, hrr, b1⟩
  rw [← HN.out] at hrr
  have B1 := (hB w _).trans (b1.mono (by simp))
  have P1 := below_blk b1 (by simp) (heap_alloc_new w _)
  rcases hrr with ⟨h1, rfl⟩ | ⟨h1, h2⟩
  · go_wp2_with fail
    go_ret
    exact ⟨rfl, B1⟩
  have HL : Hid (D.mems.length ≤ 1048575 ∨ D.mems.length = 1048576) := by have := HN.out; show _ ∨ _; omega
  have HLE : Hid (D.mems.length ≤ 1048576) := by have := HL.out; show _ ≤ _; omega
  have hl : n ≤ 1048576 := by omega
  have hr0 : 0 ≤ r := by omega
  clear h1 h2 b1
  obtain ⟨p0, _⟩ := at_block P1 0 _ rfl
  obtain ⟨p1, _⟩ := at_block P1 1 _ rfl
  have hw1 : w.heap.size < w1.heap.size := (Array.getElem?_eq_some_iff.1 P1).1
  go_wp2_with fail
  -- the specification
  refine (toTab _ D w1 (h0.out.ext (ext_below B1)) HLE.out).mono ?_
  rintro e w2 ⟨g2, rfl, o2, b2⟩
  rw [← HN.out]
  have B2 := B1.trans (b2.mono B1.size)
  have V2 : VTab w2 (.agg #[.int .i64 D.self, .slice (some ⟨g2, 0, none⟩) n n]) D := ⟨_, rfl, by rw [HN.out]; exact o2.v⟩
  have P2 := below_blk b2 hw1 P1
  clear o2
  go_wp2_with fail
  refine (sBuryV _ D id w2 V2 HLE.out).mono ?_
  rintro e w3 ⟨sv, rfl, o3s, b3⟩
  rw [← HR.out] at o3s ⊢
  have V3 := o3s.v
  have HV3 : Hid (VMem w3 sv R.mems) := V3
  obtain ⟨sa, sc, hsv⟩ : ∃ a c, sv = .slice a R.mems.length c := V3.shape
  obtain ⟨m, hm⟩ : ∃ m, m = R.mems.length := ⟨_, rfl⟩
  have HMR : Hid (m = R.mems.length) := hm
  rw [← hm] at hsv
  subst hsv
  have HML : Hid (m ≤ 1048576) := by rw [hm]; exact HRL.out HLE.out
  clear V3 o3s hm
  have B3 : Below w.heap.size w w3 := B2.trans (b3.mono B2.size)
  have P3 := below_blk b3 (by have := b2.size; omega) P2
  obtain ⟨q0, _⟩ := at_block P3 0 _ rfl
  obtain ⟨q1, _⟩ := at_block P3 1 _ rfl
  have hw3 : w.heap.size < w3.heap.size := (Array.getElem?_eq_some_iff.1 P3).1
  clear p0 p1 V2 b2 b3 P1 P2 B1 B2 hw1
  -- the program's argument
  go_wp2_with fail
  generalize hU : w3.alloc _ = U3
  have BU : Below w3.heap.size w3 U3 := by rw [← hU]; exact hB _ _
  have SU : U3.heap[w3.heap.size]? = some (.cells #[.int .i64 R.self, .slice sa m sc] 28 (0, 0)) := by rw [← hU]; exact heap_alloc_new w3 _
  clear hU
  have hu3 : w3.heap.size < U3.heap.size := (Array.getElem?_eq_some_iff.1 SU).1
  refine (toTab _ D U3 (h0.out.ext (ext_below (B3.trans (BU.mono B3.size)))) HLE.out).mono ?_
  rintro e w4 ⟨g4, rfl, o4, b4⟩
  rw [← HN.out]
  have HO4 : Hid (OwMem w4 U3.heap.size (.slice (some ⟨g4, 0, none⟩) n n) D.mems) := by rw [HN.out]; exact o4
  have BW4 : Below w3.heap.size w3 w4 := BU.trans (b4.mono BU.size)
  have P4 := below_blk BW4 hw3 P3
  have S4 := below_blk b4 hu3 SU
  have hw4 : w3.heap.size < w4.heap.size := (Array.getElem?_eq_some_iff.1 S4).1
  clear o4 b4 BU SU q0 q1
  go_wp2_with fail
  generalize hU : w4.alloc _ = U4
  have BU : Below w4.heap.size w4 U4 := by rw [← hU]; exact hB _ _
  have XU : U4.heap[w4.heap.size]? = some (.cells #[.int .i64 D.self, .slice (some ⟨g4, 0, none⟩) n n] 28 (0, 0)) := by rw [← hU]; exact heap_alloc_new w4 _
  have OX : OwMem U4 U3.heap.size (.slice (some ⟨g4, 0, none⟩) n n) D.mems := HO4.out.ext (ext_below BU)
  clear hU
  -- the program
  refine (iBuryV _ D id U4 ⟨_, rfl, OX.v⟩ HLE.out).mono ?_
  rintro e w5 ⟨gv, rfl, O5, b5⟩
  rw [← HR.out] at O5 ⊢
  obtain ⟨ga, gc, hgv⟩ : ∃ a c, gv = .slice a R.mems.length c := O5.v.shape
  rw [← HMR.out] at hgv
  subst hgv
  have OX5 : OwMem w5 U3.heap.size (.slice (some ⟨g4, 0, none⟩) n n) D.mems := OX.ext (ext_below b5)
  have HGX : Hid (g4 < U4.heap.size) := (OX.lt g4 rfl).2
  have X5 := below_blk b5 (Array.getElem?_eq_some_iff.1 XU).1 XU
  have B5 : Below w3.heap.size w3 w5 := (BW4.trans (BU.mono BW4.size)).trans (b5.mono (Nat.le_trans BW4.size BU.size))
  have P5 := below_blk B5 hw3 P3
  have S5 := below_blk (BU.trans (b5.mono BU.size)) hw4 S4
  have HUU : Hid (w3.heap.size ≤ U3.heap.size ∧ U3.heap.size ≤ U4.heap.size ∧ w3.heap.size ≤ U4.heap.size) := ⟨Nat.le_of_lt hu3, Nat.le_of_lt (Nat.lt_of_le_of_lt (OX.lt g4 rfl).1 HGX.out), Nat.le_trans BW4.size BU.size⟩
  have HM : Hid (∀ W, W = w5.alloc (.cells #[.int .i64 R.self, .slice ga m gc] 28 (0, 0)) → LT w w3 W D R (.slice ta n tc') (.slice sa m sc) (.slice (some ⟨g4, 0, none⟩) n n) (.slice ga m gc) w3.heap.size w4.heap.size w5.heap.size U4.heap.size R.mems ∧ OwMem W U3.heap.size (.slice (some ⟨g4, 0, none⟩) n n) D.mems) := fun W hW => by
    subst hW
    have bb := hB w5 (.cells #[.int .i64 R.self, .slice ga m gc] 28 (0, 0))
    refine ⟨⟨B3.trans ((B5.trans (bb.mono B5.size)).mono B3.size), B5.trans (bb.mono B5.size), HV3.out, below_blk bb (Array.getElem?_eq_some_iff.1 P5).1 P5, below_blk bb (Array.getElem?_eq_some_iff.1 S5).1 S5, below_blk bb (Array.getElem?_eq_some_iff.1 X5).1 X5, heap_alloc_new w5 _, ?_, HUU.out.2.2, B3.size⟩, OX5.ext (hE _ _)⟩
    exact O5.ext (hE _ _)
  clear O5 OX OX5 X5 S5 P5 B5 b5 BU XU S4 P4 BW4 P3 B3 hw3 hu3 hw4 HO4 HV3
  go_upto_region 8 with fail
  generalize hU : w5.alloc _ = W0
  obtain ⟨L0, X0⟩ := HM.out W0 hU.symm
  have HL0 : Hid (LT w w3 W0 D R (.slice ta n tc') (.slice sa m sc) (.slice (some ⟨g4, 0, none⟩) n n) (.slice ga m gc) w3.heap.size w4.heap.size w5.heap.size U4.heap.size R.mems) := L0
  have HX0 : Hid (OwMem W0 U3.heap.size (.slice (some ⟨g4, 0, none⟩) n n) D.mems) := X0
  clear hU X0 HM
  generalize w4.heap.size = bx at *
  generalize w5.heap.size = bg at *
  obtain ⟨s0, _⟩ := at_block L0.s 0 _ rfl
  obtain ⟨s1, _⟩ := at_block L0.s 1 _ rfl
  obtain ⟨y0, _⟩ := at_block L0.g 0 _ rfl
  obtain ⟨y1, _⟩ := at_block L0.g 1 _ rfl
  clear L0
  -- its answer held against the specification's
  go_wp2_with fail
  refine (eqTab _ _ R _ ⟨_, rfl, HL0.out.gO.v⟩ HL0.out.sW (by rw [← HMR.out]; exact HML.out)).mono ?_
  rintro e W1 ⟨rfl, b1⟩
  have HL1 := hideQ (HL0.out.grow b1)
  have HX1 : Hid (OwMem W1 U3.heap.size (.slice (some ⟨g4, 0, none⟩) n n) D.mems) := HX0.out.ext (ext_below b1)
  have a0 := (at_block HL1.out.a 0 _ rfl).1
  have a1 := (at_block HL1.out.a 1 _ rfl).1
  have x0 := (at_block HL1.out.x 0 _ rfl).1
  have x1 := (at_block HL1.out.x 1 _ rfl).1
  have HS1 : Hid ((W1.cell? ⟨bx, 0, none⟩ = some (.int .i64 D.self) ∧ W1.cell? ⟨bx, 1, none⟩ = some (.slice (some ⟨g4, 0, none⟩) n n)) ∧ (W1.cell? ⟨w.heap.size, 0, none⟩ = some (.int .i64 D.self) ∧ W1.cell? ⟨w.heap.size, 1, none⟩ = some (.slice ta n tc'))) := ⟨⟨x0, x1⟩, ⟨a0, a1⟩⟩
  clear s0 s1 y0 y1 b1 HL0 HX0
  -- its argument is as it was
  go_upto_region 10 with fail
  go_region_held3 (fun w' => w'.cell? ⟨bx, 0, none⟩ = some (.int .i64 D.self) ∧ w'.cell? ⟨bx, 1, none⟩ = some (.slice (some ⟨g4, 0, none⟩) n n) ∧ w'.cell? ⟨w.heap.size, 0, none⟩ = some (.int .i64 D.self) ∧ w'.cell? ⟨w.heap.size, 1, none⟩ = some (.slice ta n tc')) (simp [*])
    (first | (go_at_call 8; refine (toTab _ D _ ?_ HLE.out).mono ?_; exact (h0.out.ext (ext_below HL1.out.low)).ext (ext_drewN W1 1); rintro e w6 ⟨g6, rfl, o6, b6⟩; rw [← HN.out]; have V6 : VTab w6 (.agg #[.int .i64 D.self, .slice (some ⟨g6, 0, none⟩) n n]) D := (⟨_, rfl, by rw [HN.out]; exact o6.v⟩); obtain ⟨⟨c0, c1⟩, ⟨d0, d1⟩⟩ := keptT (w := W1.drew) HS1.out b6) | (go_at_call 10; refine (eqTab _ _ D _ ?_ ?_ HLE.out).mono ?_; exact (⟨_, rfl, (HX1.out.v.ext (ext_drewN W1 1)).ext (ext_below b6)⟩ : VTab _ _ D); exact V6; rintro e w7 ⟨rfl, b7⟩; obtain ⟨⟨c0', c1'⟩, ⟨d0', d1'⟩⟩ := keptT ⟨⟨c0, c1⟩, ⟨d0, d1⟩⟩ b7))
  have bA : Below W1.heap.size W1 w7 := ((below_drewN (Below.refl _ W1) 1).trans (b6.mono (Nat.le_refl _))).trans (b7.mono b6.size)
  have HL2 := hideQ (HL1.out.grow bA)
  have HX2 : Hid (OwMem w7 U3.heap.size (.slice (some ⟨g4, 0, none⟩) n n) D.mems) := HX1.out.ext (ext_below bA)
  clear c0 c1 d0 d1 c0' c1' d0' d1' b6 b7 bA V6 o6 x0 x1 a0 a1 HL1 HX1 HS1
  have x0 := (at_block HL2.out.x 0 _ rfl).1
  have x1 := (at_block HL2.out.x 1 _ rfl).1
  -- marks in its argument
  go_wp2_with fail
  refine (markTab U3.heap.size D.self _ D.mems 1 _ HX2.out HLE.out (by omega) (by omega)).mono ?_
  rintro e W3 ⟨rfl, o3, g3⟩
  rw [← HN.out]
  have HGO : Hid (OwMem W3 U4.heap.size (.slice ga m gc) R.mems) := HL2.out.gO.keep g3 (by
    cases hv : (Value.slice ga m gc).ownBlock with
    | none => exact .inl rfl
    | some k =>
      right
      have := (HL2.out.gO.lt k hv).1
      have := HGX.out
      simp only [Value.ownBlock, ne_eq, Option.some.injEq]
      omega)
  have HL3 := hideQ (HL2.out.turn HX2.out HUU.out.1 g3 HGO.out)
  clear o3 g3 x0 x1 HL2 HX2
  have s0 := (at_block HL3.out.s 0 _ rfl).1
  have s1 := (at_block HL3.out.s 1 _ rfl).1
  have y0 := (at_block HL3.out.g 0 _ rfl).1
  have y1 := (at_block HL3.out.g 1 _ rfl).1
  have hk0 : ¬ ((1 : Int) + 3 * (n : Int) < 0) := by omega
  have hk1 : decide ((1 : Int) + 3 * (n : Int) < 0) = false := by simp; omega
  go_wp2_with fail
  refine (eqTab _ _ R _ ⟨_, rfl, HL3.out.gO.v⟩ HL3.out.sW (by rw [← HMR.out]; exact HML.out)).mono ?_
  rintro e W4 ⟨rfl, b4⟩
  have HL4 := hideQ (HL3.out.grow b4)
  clear s0 s1 y0 y1 b4 HL3 HGO
  have y0 := (at_block HL4.out.g 0 _ rfl).1
  have y1 := (at_block HL4.out.g 1 _ rfl).1
  -- marks in its answer
  go_wp2_with fail
  refine (markTab U4.heap.size R.self _ R.mems 1 _ HL4.out.gO (by rw [← HMR.out]; exact HML.out) (by omega) (by omega)).mono ?_
  rintro e W5 ⟨rfl, o5, g5⟩
  rw [← HMR.out] at o5 ⊢
  have HL5 := hideQ (HL4.out.turn HL4.out.gO HL4.out.bs g5 o5)
  clear o5 g5 y0 y1 HL4
  have y0 := (at_block HL5.out.g 0 _ rfl).1
  have y1 := (at_block HL5.out.g 1 _ rfl).1
  go_wp2_with fail
  refine (heldTab U4.heap.size R.self _ m 1 _ HL5.out.gO (by have := HML.out; omega) (by omega) (by omega)).mono ?_
  rintro e W6 ⟨rfl, b6⟩
  have HL6 := hideQ (HL5.out.grow b6)
  clear y0 y1 b6 HL5
  have a0 := (at_block HL6.out.a 0 _ rfl).1
  have a1 := (at_block HL6.out.a 1 _ rfl).1
  have hm0 : ¬ ((1 : Int) + 3 * (m : Int) < 0) := by omega
  -- another call
  go_wp2_with fail
  refine (toTab _ D W6 (h0.out.ext (ext_below HL6.out.low)) HLE.out).mono ?_
  rintro e W7 ⟨g7, rfl, o7, b7⟩
  rw [← HN.out]
  have HL7 := hideQ (HL6.out.grow b7)
  have V7 : VTab W7 (.agg #[.int .i64 D.self, .slice (some ⟨g7, 0, none⟩) n n]) D := ⟨_, rfl, by rw [HN.out]; exact o7.v⟩
  clear o7 b7 a0 a1 HL6
  go_wp2_with fail
  refine (iBuryV _ D id W7 V7 HLE.out).mono ?_
  rintro e W8 ⟨hv8, rfl, O8, b8⟩
  rw [← HR.out] at O8 ⊢
  have HL8 := hideQ (HL7.out.grow b8)
  obtain ⟨ha, hc, hhv⟩ : ∃ a c, hv8 = .slice a R.mems.length c := O8.v.shape
  rw [← HMR.out] at hhv
  subst hhv
  have HH : Hid (∀ W, W = W8.alloc (.cells #[.int .i64 R.self, .slice ha m hc] 28 (0, 0)) → LT w w3 W D R (.slice ta n tc') (.slice sa m sc) (.slice (some ⟨g4, 0, none⟩) n n) (.slice ga m gc) w3.heap.size bx bg U4.heap.size (mkMem 1 m) ∧ W.heap[W8.heap.size]? = some (.cells #[.int .i64 R.self, .slice ha m hc] 28 (0, 0)) ∧ VMem W (.slice ha m hc) R.mems) := fun W hW => by
    subst hW
    exact ⟨HL8.out.grow (hB _ _), heap_alloc_new _ _, O8.v.ext (hE _ _)⟩
  clear b8 O8 V7 HL7
  go_upto_region 25 with fail
  generalize hU : W8.alloc _ = W9
  obtain ⟨L9, Q9, T9⟩ := HH.out W9 hU.symm
  have HL9 := hideQ L9
  have HT9 : Hid (VMem W9 (.slice ha m hc) R.mems) := T9
  clear hU HH L9 T9 HL8
  generalize W8.heap.size = bh at *
  obtain ⟨t0, _⟩ := at_block Q9 0 _ rfl
  obtain ⟨t1, _⟩ := at_block Q9 1 _ rfl
  have s0 := (at_block HL9.out.s 0 _ rfl).1
  have s1 := (at_block HL9.out.s 1 _ rfl).1
  go_wp2_with fail
  refine (eqTab _ _ R _ ⟨_, rfl, HT9.out⟩ HL9.out.sW (by rw [← HMR.out]; exact HML.out)).mono ?_
  rintro e W10 ⟨rfl, b10⟩
  have HL10 := hideQ (HL9.out.grow b10)
  clear b10 t0 t1 s0 s1 Q9 HT9 HL9
  have y0 := (at_block HL10.out.g 0 _ rfl).1
  have y1 := (at_block HL10.out.g 1 _ rfl).1
  go_wp2_with fail
  refine (heldTab U4.heap.size R.self _ m 1 _ HL10.out.gO (by have := HML.out; omega) (by omega) (by omega)).mono ?_
  rintro e W11 ⟨rfl, b11⟩
  go_wp2_with fail
  go_ret
  exact ⟨rfl, (HL10.out.grow b11).low⟩

end Go.Proofs.Ytipjeddfkajdeaa
