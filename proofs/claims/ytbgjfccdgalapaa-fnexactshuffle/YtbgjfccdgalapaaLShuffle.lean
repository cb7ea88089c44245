/- The exact statement of Shuffle: the walk of the law itself. -/
import Derived.Test.YtbgjfccdgalapaaLPr
import Derived.Test.YtbgjfccdgalapaaPr2s
import Derived.Test.YtbgjfccdgalapaaPx2
namespace Go.Proofs.Ytbgjfccdgalapaa
open Go.RowKit

/-- What is carried through the walk of a law that answers a list of numbers. -/
structure LS (w Ws W : World) (sv gv : Value) (R G : List Int) (base : Nat) : Prop where
  low : Below w.heap.size w W
  sB : Below Ws.heap.size Ws W
  sV : VL fI Ws sv R
  gO : OwI W base gv G
  bs : Ws.heap.size ≤ base
  ws : w.heap.size ≤ Ws.heap.size
variable {w Ws W W' : World} {sv gv : Value} {R G G' : List Int} {base : Nat}
theorem LS.grow (h : LS w Ws W sv gv R G base) (b : Below W.heap.size W W') : LS w Ws W' sv gv R G base := ⟨h.low.trans (b.mono h.low.size), h.sB.trans (b.mono h.sB.size), h.sV, h.gO.ext (ext_below b), h.bs, h.ws⟩
theorem LS.turn {row : Value} {rb : Nat} {T : List Int} (h : LS w Ws W sv gv R G base) (o : OwI W rb row T) (hb : Ws.heap.size ≤ rb) (hg : W.grownBy W' row.ownBlock) (hG : OwI W' base gv G') : LS w Ws W' sv gv R G' base := by
  have hr : ∀ k, row.ownBlock = some k → rb ≤ k := fun k hk => (o.lt k hk).1
  exact ⟨h.low.grown hg h.low.size (fun k hk => Nat.le_trans (Nat.le_trans h.ws hb) (hr k hk)), h.sB.grown hg h.sB.size (fun k hk => Nat.le_trans hb (hr k hk)), h.sV, hG, h.bs, h.ws⟩
theorem LS.sW (h : LS w Ws W sv gv R G base) : VL fI W sv R := h.sV.ext (ext_below h.sB)
theorem shufD_len (xs : List Int) (s : Int) (h : xs.length ≤ 1048576) : (shufD xs s).1.length ≤ 1048576 := by
  unfold shufD
  split
  · simp
  · rw [shufL_len]; exact h
theorem belN (w : World) (q : Nat) : Below w.heap.size w (w.drewN q) := below_drewN (Below.refl _ w) q

set_option maxRecDepth 20000 in
set_option maxHeartbeats 4000000 in
theorem law_Shuffle (v : Value) (xs : List Int) (s : Int) (w : World) (h : VL fI w v xs) (h1 : -9223372036854775808 ≤ s) (h2 : s ≤ 9223372036854775807) :
    Calls Try.prog 4 #[v, .int .i64 s] w fun e w' => e = .returned (.bool true) ∧ Below w.heap.size w w' := by
  obtain ⟨a, cap, rfl⟩ := vl_shape h
  obtain ⟨n, hn⟩ : ∃ n, n = xs.length := ⟨_, rfl⟩
  have HN : Hid (n = xs.length) := hn
  have hml : n ≤ 9223372036854775807 := by
    obtain ⟨a', cap', e, h1, h2, _⟩ := h
    unfold maxLen at h2
    omega
  have h0 : Hid (VL fI w (.slice a n cap) xs) := by rw [hn]; exact h
  rw [← hn]
  clear hn h
  by_cases hbig : n > 1048576
  · have d1 : decide ((n : Int) > 1048576) = true := decide_eq_true (by omega)
    go_enter Try.func4, Try.ntmps4
    go_wp2_with fail
    go_ret
    exact ⟨rfl, Below.refl _ _⟩
  have d1 : decide ((n : Int) > 1048576) = false := decide_eq_false (by omega)
  have hl : n ≤ 1048576 := by omega
  have HLE : Hid (xs.length ≤ 1048576) := by have := HN.out; show _ ≤ _; omega
  obtain ⟨⟨R, rs⟩, hR⟩ : ∃ R, R = shufD xs s := ⟨_, rfl⟩
  have HR : Hid ((R, rs) = shufD xs s) := hR
  have HRL : Hid (R.length ≤ 1048576) := by have := shufD_len xs s HLE.out; rw [← hR] at this; exact this
  obtain ⟨m, hm⟩ : ∃ m, m = R.length := ⟨_, rfl⟩
  have HMR : Hid (m = R.length) := hm
  have HML : Hid (m ≤ 1048576) := by show _ ≤ _; rw [hm]; exact HRL.out
  clear hR hm hbig
  have HTA : Hid (∀ V, Below w.heap.size w V → Calls Try.prog 11 #[.slice a n cap] V fun e w' => e = .returned (.slice (some ⟨V.heap.size, 0, none⟩) n n) ∧ Hid (OwI w' V.heap.size (.slice (some ⟨V.heap.size, 0, none⟩) n n) xs) ∧ Below V.heap.size V w') := fun V e => (toL_I _ xs V (h0.out.ext (ext_below e)) HLE.out).mono (fun e w' ⟨h1, h2, h3⟩ => ⟨by rw [HN.out]; exact h1, h2.own (Nat.le_refl _) HN.out hl, h3⟩)
  have HS : Hid (∀ V va, VL fI V va xs → Calls Try.prog 10 #[va, .int .i64 s] V fun e w' => ∃ sa sc, e = .returned (.tuple #[.slice sa m sc, .int .i64 rs]) ∧ Hid (OwI w' V.heap.size (.slice sa m sc) R) ∧ Below V.heap.size V w') := fun V va hv => (sShuffleV va xs s V hv h1 h2).mono (fun e w' ⟨tv, h1, h2, h3⟩ => by
    rw [← HR.out] at h1 h2
    obtain ⟨sa, sc, hsv⟩ := h2.shape
    rw [← HMR.out] at hsv
    subst hsv
    exact ⟨sa, sc, h1, h2, h3⟩)
  have HI : Hid (∀ V va, VL fI V va xs → Calls Try.prog 12 #[va, .int .i64 s] V fun e w' => ∃ sa sc, e = .returned (.tuple #[.slice sa m sc, .int .i64 rs]) ∧ Hid (OwI w' V.heap.size (.slice sa m sc) R) ∧ Below V.heap.size V w') := fun V va hv => (iShuffleV va xs s V hv h1 h2).mono (fun e w' ⟨tv, h1, h2, h3⟩ => by
    rw [← HR.out] at h1 h2
    obtain ⟨sa, sc, hsv⟩ := h2.shape
    rw [← HMR.out] at hsv
    subst hsv
    exact ⟨sa, sc, h1, h2, h3⟩)
  go_enter Try.func4, Try.ntmps4
  go_wp2_with fail
  refine (HTA.out w (Below.refl _ _)).mono ?_
  rintro e w2 ⟨rfl, o2, b2⟩
  go_wp2_with fail
  refine (HS.out w2 _ o2.out.vl).mono ?_
  rintro e w3 ⟨sa, sc, rfl, o3, b3⟩
  have B3 : Below w.heap.size w w3 := b2.trans (b3.mono b2.size)
  have HV3 : Hid (VL fI w3 (.slice sa m sc) R) := o3.out.vl
  clear o3 o2 b2 b3
  go_wp2_with fail
  refine (HTA.out w3 B3).mono ?_
  rintro e U4 ⟨rfl, o4, b4⟩
  have hgx : w3.heap.size < U4.heap.size := (o4.out.lt w3.heap.size rfl).2
  have B4 : Below w.heap.size w U4 := B3.trans (b4.mono B3.size)
  go_wp2_with fail
  refine (HI.out U4 _ o4.out.vl).mono ?_
  rintro e W0 ⟨ga, gc, rfl, O5, b5⟩
  have HL0 : Hid (LS w w3 W0 (.slice sa m sc) (.slice ga m gc) R R U4.heap.size) := ⟨B4.trans (b5.mono B4.size), b4.trans (b5.mono b4.size), HV3.out, O5.out, b4.size, B3.size⟩
  have HX0 : Hid (OwI W0 w3.heap.size (.slice (some ⟨w3.heap.size, 0, none⟩) n n) xs) := o4.out.ext (ext_below b5)
  clear o4 b4 B4 O5 b5 B3 HV3
  obtain ⟨gx, hgxe⟩ : ∃ gx, gx = w3.heap.size := ⟨_, rfl⟩
  have HGX : Hid (gx < U4.heap.size) := by rw [hgxe]; exact hgx
  have HXX : Hid (OwI W0 w3.heap.size (.slice (some ⟨gx, 0, none⟩) n n) xs) := by rw [hgxe]; exact HX0.out
  rw [← hgxe]
  clear hgxe hgx HX0
  go_wp2_with fail
  refine (eqL_I _ _ R _ HL0.out.gO.vl HL0.out.sW HRL.out).mono ?_
  rintro e W1 ⟨rfl, q1, hq1⟩
  have b1 : Below W0.heap.size W0 W1 := by rw [hq1]; exact belN _ _
  clear hq1
  have HL1 := hideR (HL0.out.grow b1)
  have HX1 : Hid (OwI W1 w3.heap.size (.slice (some ⟨gx, 0, none⟩) n n) xs) := HXX.out.ext (ext_below b1)
  clear b1 HL0 HXX
  go_wp2_with fail
  refine (HTA.out W1 HL1.out.low).mono ?_
  rintro e W2 ⟨rfl, o6, b6⟩
  have HL2 := hideR (HL1.out.grow b6)
  have HX2 : Hid (OwI W2 w3.heap.size (.slice (some ⟨gx, 0, none⟩) n n) xs) := HX1.out.ext (ext_below b6)
  clear b6 HL1 HX1
  go_wp2_with fail
  refine (eqL_I _ _ xs _ HX2.out.vl o6.out.vl HLE.out).mono ?_
  rintro e W3 ⟨rfl, q3, hq3⟩
  have b3 : Below W2.heap.size W2 W3 := by rw [hq3]; exact belN _ _
  clear hq3
  have HL3 := hideR (HL2.out.grow b3)
  have HX3 : Hid (OwI W3 w3.heap.size (.slice (some ⟨gx, 0, none⟩) n n) xs) := HX2.out.ext (ext_below b3)
  clear b3 HL2 HX2 o6
  go_wp2_with fail
  refine (markOI w3.heap.size _ xs 1 _ HX3.out HLE.out (by omega) (by omega)).mono ?_
  rintro e W4 ⟨rfl, _, g4⟩
  rw [← HN.out]
  have HGO : Hid (OwI W4 U4.heap.size (.slice ga m gc) R) := keep_ltN HL3.out.gO g4 HGX.out
  have HL4 := hideR (HL3.out.turn HX3.out (Nat.le_refl _) g4 HGO.out)
  clear g4 HL3 HX3 HGO
  have hk0 : ¬ ((1 : Int) + (n : Int) < 0) := by omega
  have hk1 : decide ((1 : Int) + (n : Int) < 0) = false := by simp; omega
  go_wp2_with fail
  refine (eqL_I _ _ R _ HL4.out.gO.vl HL4.out.sW HRL.out).mono ?_
  rintro e W5 ⟨rfl, q5, hq5⟩
  have b5 : Below W4.heap.size W4 W5 := by rw [hq5]; exact belN _ _
  clear hq5
  have HL5 := hideR (HL4.out.grow b5)
  clear b5 HL4
  go_wp2_with fail
  refine (markOI U4.heap.size _ R 1 _ HL5.out.gO HRL.out (by omega) (by omega)).mono ?_
  rintro e W6 ⟨rfl, o6, g6⟩
  rw [← HMR.out] at o6 ⊢
  have HL6 := hideR (HL5.out.turn HL5.out.gO HL5.out.bs g6 o6)
  clear o6 g6 HL5
  go_wp2_with fail
  refine (heldOI U4.heap.size _ m 1 _ HL6.out.gO (by omega) (by omega) HML.out).mono ?_
  rintro e W7 ⟨rfl, q7, hq7⟩
  have b7 : Below W6.heap.size W6 W7 := by rw [hq7]; exact belN _ _
  clear hq7
  have HL7 := hideR (HL6.out.grow b7)
  have hm0 : ¬ ((1 : Int) + (m : Int) < 0) := by omega
  clear b7 HL6
  go_wp2_with fail
  refine (HTA.out W7 HL7.out.low).mono ?_
  rintro e W8 ⟨rfl, o8, b8⟩
  have HL8 := hideR (HL7.out.grow b8)
  clear b8 HL7
  go_wp2_with fail
  refine (HI.out W8 _ o8.out.vl).mono ?_
  rintro e W9 ⟨ha, hc, rfl, O9, b9⟩
  have HL9 := hideR (HL8.out.grow b9)
  clear b9 HL8 o8
  go_wp2_with fail
  refine (eqL_I _ _ R _ O9.out.vl HL9.out.sW HRL.out).mono ?_
  rintro e W10 ⟨rfl, q10, hq10⟩
  have b10 : Below W9.heap.size W9 W10 := by rw [hq10]; exact belN _ _
  clear hq10
  have HL10 := hideR (HL9.out.grow b10)
  clear b10 HL9 O9
  go_wp2_with fail
  refine (heldOI U4.heap.size _ m 1 _ HL10.out.gO (by omega) (by omega) HML.out).mono ?_
  rintro e W11 ⟨rfl, q11, hq11⟩
  have b11 : Below W10.heap.size W10 W11 := by rw [hq11]; exact belN _ _
  clear hq11
  go_wp2_with fail
  go_ret
  exact ⟨rfl, (HL10.out.grow b11).low⟩

end Go.Proofs.Ytbgjfccdgalapaa
