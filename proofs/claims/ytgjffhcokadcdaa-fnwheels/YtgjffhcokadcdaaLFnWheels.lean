/- FnWheels: the walk of the law itself. -/
import Derived.Test.YtgjffhcokadcdaaHqF
import Derived.Test.YtgjffhcokadcdaaHqG
import Derived.Test.YtgjffhcokadcdaaHqH
import Derived.Test.YtgjffhcokadcdaaHqI
import Derived.Test.YtgjffhcokadcdaaWhNi
import Derived.Deep.CutRange
namespace Go.Proofs.Ytgjffhcokadcdaa
open Go.RowKit

theorem hideF {p : Prop} (h : p) : Hid p := h
/-- A wheel lies in the box b, its timers can be read. -/
structure BX (W : World) (b : Nat) (D : DWheel) (v : Value) : Prop where
  box : W.heap[b]? = some (.cells #[.int .i64 D.now, v] 25 (0, 0))
  tms : VTims W v D.tms
theorem BX.grow {W W' : World} {b : Nat} {D : DWheel} {v : Value} (h : BX W b D v) (k : Below W.heap.size W W') : BX W' b D v := ⟨below_blk k (Array.getElem?_eq_some_iff.1 h.box).1 h.box, h.tms.ext (ext_below k)⟩
theorem BX.cells {W : World} {b : Nat} {D : DWheel} {v : Value} (h : BX W b D v) : W.cell? ⟨b, 0, none⟩ = some (.int .i64 D.now) ∧ W.cell? ⟨b, 1, none⟩ = some v := ⟨(at_block h.box 0 _ rfl).1, (at_block h.box 1 _ rfl).1⟩
theorem BX.w {W : World} {b : Nat} {D : DWheel} {v : Value} (h : BX W b D v) : VWheel W (.agg #[.int .i64 D.now, v]) D := ⟨v, rfl, h.tms⟩
theorem bx_new {W : World} {D : DWheel} {v : Value} (h : VTims W v D.tms) : BX (W.alloc (.cells #[.int .i64 D.now, v] 25 (0, 0))) W.heap.size D v ∧ Below W.heap.size W (W.alloc (.cells #[.int .i64 D.now, v] 25 (0, 0))) := ⟨⟨heap_alloc_new W _, h.ext (World.grownBy_alloc _ _ _)⟩, (Below.refl _ W).alloc (Nat.le_refl _) _⟩

theorem own_nil (W : World) : OwI (W.alloc (.cells #[] 3)) W.heap.size (.slice (some ⟨W.heap.size, 0, none⟩) 0 0) [] := ⟨rfl, .inr ⟨W.heap.size, 0, #[], rfl, Nat.le_refl _, heap_alloc_new W _, Nat.le_refl _, Nat.zero_le _, rfl, rfl⟩⟩
theorem ib_own {B : Nat} {a w w' : World} {v : Value} {xs : List Int} (h : Below B a w) (hB : B ≤ w.heap.size) (ho : OwI w B v xs) (hg : w.grownBy w' v.ownBlock) : Below B a w' := h.grown hg hB (fun k hk => (World.ownsRow.lt ho k hk).1)
theorem vl_get {w : World} {ia : Option Addr} {ln ic k : Nat} {ys : List Int} {y : Int} (h : VL fI w (.slice ia ln ic) ys) (hk : ys[k]? = some y) : ∃ b o, ia = some ⟨b, o, none⟩ ∧ w.cell? ⟨b, o + k, none⟩ = some (.int .i64 y) := by
  obtain ⟨a, c, e, _, _, h3⟩ := h
  obtain ⟨b, o, rfl, _, hc⟩ := h3 (by have := (List.getElem?_eq_some_iff.1 hk).1; omega)
  simp only [Value.slice.injEq] at e
  exact ⟨b, o, e.1, hc k y hk⟩

set_option maxRecDepth 20000 in
set_option maxHeartbeats 8000000 in
theorem law_FnWheels (a : Option Addr) (n cap : Nat) (xs : List Int) (w : World) (hr : Rd w a n xs) (hnc : n ≤ cap) (hcm : cap ≤ maxLen) :
    Calls Try.prog 3 #[.slice a n cap] w fun e w' => e = .returned (.bool true) ∧ Below w.heap.size w w' := by
  have hm : n ≤ maxLen := Nat.le_trans hnc hcm
  have HRD : Hid (Rd w a n xs ∧ n ≤ maxLen) := ⟨hr, hm⟩
  clear hr hm hnc hcm
  go_enter Try.func3, Try.ntmps3
  go_wp2_with fail
  refine (drawS a n cap xs w HRD.out.1 HRD.out.2).mono ?_
  rintro e w1 ⟨now, tv, ts, id, after, rfl, hl, o1, hid, haf, b1⟩
  obtain ⟨ra, rc, rfl⟩ := o1.v.shape
  obtain ⟨D, hD⟩ : ∃ D : DWheel, D = ⟨now, ts⟩ := ⟨_, rfl⟩
  have HT1 : Hid (VTims w1 (.slice ra ts.length rc) D.tms) := by rw [hD]; exact o1.v
  have HDL : Hid (D.tms.length ≤ 60) := by rw [hD]; exact hl
  have HDN : Hid (now = D.now) := by rw [hD]; exact rfl
  have HB1 : Hid (Below w.heap.size w w1) := b1
  obtain ⟨id0, id1⟩ := hid
  obtain ⟨af0, af1⟩ := haf
  clear hl o1 b1 hD
  have hnow : now = D.now := HDN.out
  subst hnow
  generalize ts.length = lt at *
  -- the wheel's box
  go_wp2_with fail
  generalize hU : w1.alloc _ = W2
  obtain ⟨X2, Y2⟩ : BX W2 w1.heap.size D (.slice ra lt rc) ∧ Below w1.heap.size w1 W2 := by rw [← hU]; exact bx_new HT1.out
  have HX2 := hideF X2
  have HB2 := hideF (HB1.out.trans (Y2.mono HB1.out.size))
  clear hU X2 Y2 HT1 HB1
  generalize w1.heap.size = bw at *
  refine (iSetV _ D id after W2 HX2.out.w (by have := HDL.out; omega)).mono ?_
  rintro e w3 ⟨xv, rfl, O3, b3⟩
  obtain ⟨⟨X, ok⟩, hRX⟩ : ∃ R, R = setD (tB (WheelP D)) D id after := ⟨_, rfl⟩
  rw [← hRX] at O3 ⊢
  have HRX := hideF hRX
  have HX3 := hideF (HX2.out.grow b3)
  have HB3 := hideF (HB2.out.trans (b3.mono HB2.out.size))
  have HT3 : Hid (VTims w3 xv X.tms) := O3.v
  obtain ⟨xa, xc, rfl⟩ := O3.v.shape
  obtain ⟨lx, hlx⟩ : ∃ lx, lx = X.tms.length := ⟨_, rfl⟩
  have HLX := hideF hlx
  rw [← hlx] at HT3 ⊢
  clear O3 b3 hRX HX2 HB2 hlx
  go_upto_region 3 with fail
  generalize hU : w3.alloc _ = W4
  obtain ⟨X4, Y4⟩ : BX W4 w3.heap.size X (.slice xa lx xc) ∧ Below w3.heap.size w3 W4 := by rw [← hU]; exact bx_new HT3.out
  have HW4 := hideF (HX3.out.grow Y4)
  have HX4 := hideF X4
  have HB4 := hideF (HB3.out.trans (Y4.mono HB3.out.size))
  clear hU X4 Y4 HT3 HB3 HX3
  generalize w3.heap.size = bx at *
  obtain ⟨c0, c1⟩ := HW4.out.cells
  go_wp2_with fail
  refine (sWheelOkV _ D W4 HW4.out.w).mono ?_
  rintro e w5 ⟨rfl, b5⟩
  have HW5 := hideF (HW4.out.grow b5)
  have HX5 := hideF (HX4.out.grow b5)
  have HB5 := hideF (HB4.out.trans (b5.mono HB4.out.size))
  clear b5 c0 c1 HW4 HX4 HB4
  cases hok : tB (WheelP D) with
  | false =>
    have hX : X = ⟨0, []⟩ ∧ ok = false := by
      have := HRX.out
      rw [hok] at this
      unfold setD at this
      simp only [Bool.false_eq_true, if_false, Prod.mk.injEq] at this
      exact this
    obtain ⟨hX1, hX2⟩ := hX
    have hlx0 : lx = 0 := by rw [HLX.out, hX1]; rfl
    subst hX2
    subst hlx0
    obtain ⟨d0, d1⟩ := HX5.out.cells
    clear hok hX1
    go_wp2_with fail
    refine (iWheelOkV _ ⟨0, []⟩ _ ⟨_, rfl, OwT.v (base := 0) (ts := []) (World.ownsRow_nil _ _ _ _)⟩).mono ?_
    rintro e w6 ⟨rfl, b6⟩
    rw [tB_true wq_empty]
    go_wp2_with fail
    go_ret
    exact ⟨rfl, HB5.out.trans (b6.mono HB5.out.size)⟩
  | true =>
    have HP : Hid (WheelP D) := tB_iff.1 hok
    have HOK : Hid (tB (WheelP D) = true) := hok
    rw [hok] at HRX
    clear hok
    cases hbad : badS D id after with
    | true =>
      have hX : X = D ∧ ok = false := by
        have := HRX.out
        rw [set_bad hbad] at this
        simp only [Prod.mk.injEq] at this
        exact this
      obtain ⟨hX1, hX2⟩ := hX
      subst hX2
      have HVX : Hid (VWheel w5 (.agg #[.int .i64 X.now, .slice xa lx xc]) D) := by have := HX5.out.w; rw [hX1] at this ⊢; exact this
      obtain ⟨d0, d1⟩ := HX5.out.cells
      obtain ⟨e0, e1⟩ := HW5.out.cells
      clear hbad hX1
      go_wp2_with fail
      refine (sameV _ _ D _ HVX.out HW5.out.w (by have := HDL.out; omega)).mono ?_
      rintro e w6 ⟨rfl, b6⟩
      go_wp2_with fail
      go_ret
      exact ⟨rfl, HB5.out.trans (b6.mono HB5.out.size)⟩
    | false =>
      have hX : X = setW D id after ∧ ok = true := by
        have := HRX.out
        rw [set_good hbad] at this
        simp only [Prod.mk.injEq] at this
        exact this
      obtain ⟨hX1, hX2⟩ := hX
      subst hX2
      have HXS := hideF hX1
      have HBD := hideF hbad
      have HPX : Hid (WheelP X) := by rw [hX1]; exact setW_p HP.out hbad
      have hnum := bad_no hbad
      obtain ⟨⟨hi0, hi1⟩, hA0, hA1⟩ := hnum
      clear hX1 hbad HRX
      obtain ⟨d0, d1⟩ := HX5.out.cells
      have HLEFT : Hid (leftB (tB (WheelP X)) X id = (after, true)) := by rw [tB_true HPX.out, HXS.out]; exact setW_left HP.out HBD.out
      obtain ⟨nx, hnx, hnx1, hnx2⟩ := setW_next HP.out HBD.out
      have HNEXT : Hid (nextB (tB (WheelP X)) X = (nx, true)) := by rw [tB_true HPX.out, HXS.out]; exact hnx
      obtain ⟨S, hS, hS2⟩ := setW_stop HP.out HBD.out
      have HSTOP : Hid (stopD (tB (WheelP X)) X id = (S, true)) := by rw [tB_true HPX.out, HXS.out]; exact hS
      have HSL : Hid (∀ c, leftB c S id = (0, false)) := hS2
      clear hnx hS hS2
      go_wp2_with fail
      refine (iLeftV _ X id w5 HX5.out.w).mono ?_
      rintro e w6 ⟨rfl, b6⟩
      rw [HLEFT.out]
      have HW6 := hideF (HW5.out.grow b6)
      have HX6 := hideF (HX5.out.grow b6)
      have HB6 := hideF (HB5.out.trans (b6.mono HB5.out.size))
      clear b6 d0 d1 HW5 HX5 HB5
      obtain ⟨d0, d1⟩ := HX6.out.cells
      go_wp2_with fail
      refine (iNextV _ X w6 HX6.out.w).mono ?_
      rintro e w7 ⟨rfl, b7⟩
      rw [HNEXT.out]
      have HW7 := hideF (HW6.out.grow b7)
      have HX7 := hideF (HX6.out.grow b7)
      have HB7 := hideF (HB6.out.trans (b7.mono HB6.out.size))
      clear b7 d0 d1 HW6 HX6 HB6
      obtain ⟨d0, d1⟩ := HX7.out.cells
      go_wp2_with fail
      refine (iWheelOkV _ X w7 HX7.out.w).mono ?_
      rintro e w8 ⟨rfl, b8⟩
      rw [tB_true HPX.out]
      have HW8 := hideF (HW7.out.grow b8)
      have HX8 := hideF (HX7.out.grow b8)
      have HB8 := hideF (HB7.out.trans (b8.mono HB7.out.size))
      clear b8 d0 d1 HW7 HX7 HB7
      obtain ⟨d0, d1⟩ := HX8.out.cells
      have hgt : ¬ (after < nx) := by omega
      go_wp2_with fail
      refine (iStopV _ X id w8 HX8.out.w (by rw [HXS.out]; have := (setW_p HP.out HBD.out).2.1; omega)).mono ?_
      rintro e w9 ⟨sv, rfl, O9, b9⟩
      rw [HSTOP.out] at O9 ⊢
      have HW9 := hideF (HW8.out.grow b9)
      have HX9 := hideF (HX8.out.grow b9)
      have HB9 := hideF (HB8.out.trans (b9.mono HB8.out.size))
      have HT9 : Hid (VTims w9 sv S.tms) := O9.v
      obtain ⟨sa, sc, hsv⟩ : ∃ a c, sv = .slice a S.tms.length c := O9.v.shape
      obtain ⟨ls, hls⟩ : ∃ ls, ls = S.tms.length := ⟨_, rfl⟩
      rw [← hls] at hsv
      subst hsv
      clear b9 d0 d1 HW8 HX8 HB8 O9 hls
      go_upto_region 12 with fail
      generalize hU : w9.alloc _ = WA
      obtain ⟨SA, YA⟩ : BX WA w9.heap.size S (.slice sa ls sc) ∧ Below w9.heap.size w9 WA := by rw [← hU]; exact bx_new HT9.out
      have HSA := hideF SA
      have HWA := hideF (HW9.out.grow YA)
      have HXA := hideF (HX9.out.grow YA)
      have HBA := hideF (HB9.out.trans (YA.mono HB9.out.size))
      clear hU SA YA HT9 HB9 HX9 HW9
      generalize w9.heap.size = bs at *
      obtain ⟨d0, d1⟩ := HSA.out.cells
      go_wp2_with fail
      refine (iLeftV _ S id WA HSA.out.w).mono ?_
      rintro e wB ⟨rfl, bB⟩
      rw [HSL.out]
      have HWB := hideF (HWA.out.grow bB)
      have HXB := hideF (HXA.out.grow bB)
      have HBB := hideF (HBA.out.trans (bB.mono HBA.out.size))
      clear bB d0 d1 HWA HXA HBA HSA
      obtain ⟨d0, d1⟩ := HWB.out.cells
      obtain ⟨hD0, hD1⟩ := HP.out.1
      by_cases hfar : 1000000 - D.now < after
      · have hfar' : decide (1000000 - D.now < after) = true := by simpa using hfar
        go_wp2_with fail
        go_ret
        exact ⟨rfl, HBB.out⟩
      have hfar' : decide (1000000 - D.now < after) = false := by simpa using hfar
      go_wp2_with fail
      refine (atC a n cap xs _ (HRD.out.1.grown (ext_below HBB.out)) HRD.out.2).mono ?_
      rintro e w10 ⟨x, hx0, hx1, rfl, hw10⟩
      subst hw10
      have hmod : x.tmod after = x % after := Int.tmod_eq_emod_of_nonneg hx0
      obtain ⟨nn, hnn⟩ : ∃ nn, nn = x % after := ⟨_, rfl⟩
      have hn0 : 0 ≤ nn := by rw [hnn]; exact Int.emod_nonneg _ (by omega)
      have hn1 : nn < after := by rw [hnn]; exact Int.emod_lt_of_pos _ (by omega)
      rw [← hnn] at hmod
      clear hnn
      obtain ⟨Y, A, B, C, Z, t1, hPY, t2, t3, hABC, hidC, hidA, hCl, hZl⟩ := setW_tick HP.out HBD.out (by omega) hn0 hn1
      have HT1 : Hid (tickD (tB (WheelP X)) X nn = (Y, A)) := by rw [tB_true HPX.out, HXS.out]; exact t1
      have HT2 : Hid (tickD (tB (WheelP Y)) Y (after - nn) = (Z, B)) := by rw [tB_true hPY]; exact t2
      have HT3 : Hid (tickD (tB (WheelP X)) X after = (Z, C)) := by rw [tB_true HPX.out, HXS.out]; exact t3
      have HFA : Hid (A ++ B = C ∧ id ∈ C ∧ id ∉ A ∧ C.length ≤ 40 ∧ Z.tms.length ≤ 40 ∧ Y.tms.length ≤ 40 ∧ X.tms.length ≤ 40) := ⟨hABC, hidC, hidA, hCl, hZl, hPY.2.1, HPX.out.2.1⟩
      clear t1 t2 t3 hABC hidC hidA hCl hZl hPY HXS HBD HP HPX HLEFT HNEXT HSTOP HSL HOK
      clear d0 d1
      obtain ⟨d0, d1⟩ := HXB.out.cells
      have hne : after ≠ 0 := by omega
      go_wp2_with fail
      clear HWB
      refine (iTickV _ X nn _ HXB.out.w (by have := HFA.out; omega)).mono ?_
      rintro e v1 ⟨tv1, rv1, rfl, O1, R1, b1⟩
      rw [HT1.out] at O1 R1 ⊢
      have HV1 : Hid (VTims v1 tv1 Y.tms) := O1.v
      obtain ⟨sa1, sc1, hsv⟩ : ∃ a c, tv1 = .slice a Y.tms.length c := O1.v.shape
      obtain ⟨ls1, hls⟩ : ∃ ls, ls = Y.tms.length := ⟨_, rfl⟩
      rw [← hls] at hsv
      subst hsv
      have RL := R1.vl
      obtain ⟨ia1, ic1, hrv⟩ : ∃ a c, rv1 = .slice a A.length c := by obtain ⟨a, c, e, _⟩ := RL; exact ⟨a, c, e⟩
      obtain ⟨ln1, hln⟩ : ∃ ls, ls = A.length := ⟨_, rfl⟩
      rw [← hln] at hrv
      subst hrv
      have HLN1 := hideF hln
      clear hls hln O1 R1
      go_upto_region 17 with fail
      generalize hU : v1.alloc _ = V1
      obtain ⟨SA, YA⟩ : BX V1 v1.heap.size Y (.slice sa1 ls1 sc1) ∧ Below v1.heap.size v1 V1 := by rw [← hU]; exact bx_new HV1.out
      have HN1 := hideF SA
      have HI1 : Hid (VL fI V1 (.slice ia1 ln1 ic1) A) := RL.ext (ext_below YA)
      have HXBn := hideF (HXB.out.grow b1)
      have HXBm := hideF (HXBn.out.grow YA)
      clear HXB HXBn
      have HXB := HXBm
      clear HXBm
      have HBn := hideF (HBB.out.trans (b1.mono HBB.out.size))
      have HBm := hideF (HBn.out.trans (YA.mono HBn.out.size))
      clear hU SA YA HV1 HBn HBB b1 RL d0 d1
      have HBB := HBm
      clear HBm
      generalize v1.heap.size = by1 at *
      obtain ⟨d0, d1⟩ := HN1.out.cells
      go_wp2_with fail
      refine (iTickV _ Y (after - nn) _ HN1.out.w (by have := HFA.out; omega)).mono ?_
      rintro e v2 ⟨tv2, rv2, rfl, O2, R2, b2⟩
      rw [HT2.out] at O2 R2 ⊢
      have HV2 : Hid (VTims v2 tv2 Z.tms) := O2.v
      obtain ⟨sa2, sc2, hsv⟩ : ∃ a c, tv2 = .slice a Z.tms.length c := O2.v.shape
      obtain ⟨ls2, hls⟩ : ∃ ls, ls = Z.tms.length := ⟨_, rfl⟩
      rw [← hls] at hsv
      subst hsv
      have RL := R2.vl
      obtain ⟨ia2, ic2, hrv⟩ : ∃ a c, rv2 = .slice a B.length c := by obtain ⟨a, c, e, _⟩ := RL; exact ⟨a, c, e⟩
      obtain ⟨ln2, hln⟩ : ∃ ls, ls = B.length := ⟨_, rfl⟩
      rw [← hln] at hrv
      subst hrv
      have HLN2 := hideF hln
      clear hls hln O2 R2
      go_upto_region 18 with fail
      generalize hU : v2.alloc _ = V2
      obtain ⟨SA, YA⟩ : BX V2 v2.heap.size Z (.slice sa2 ls2 sc2) ∧ Below v2.heap.size v2 V2 := by rw [← hU]; exact bx_new HV2.out
      have HN2 := hideF SA
      have HI2 : Hid (VL fI V2 (.slice ia2 ln2 ic2) B) := RL.ext (ext_below YA)
      have HXBn := hideF (HXB.out.grow b2)
      have HXBm := hideF (HXBn.out.grow YA)
      clear HXB HXBn
      have HXB := HXBm
      clear HXBm
      have HI1n := hideF (HI1.out.ext (ext_below b2))
      have HI1m := hideF (HI1n.out.ext (ext_below YA))
      clear HI1 HI1n
      have HI1 := HI1m
      clear HI1m
      have HBn := hideF (HBB.out.trans (b2.mono HBB.out.size))
      have HBm := hideF (HBn.out.trans (YA.mono HBn.out.size))
      clear hU SA YA HV2 HBn HBB b2 RL d0 d1
      have HBB := HBm
      clear HBm
      generalize v2.heap.size = by2 at *
      obtain ⟨d0, d1⟩ := HXB.out.cells
      go_wp2_with fail
      refine (iTickV _ X after _ HXB.out.w (by have := HFA.out; omega)).mono ?_
      rintro e v3 ⟨tv3, rv3, rfl, O3, R3, b3⟩
      rw [HT3.out] at O3 R3 ⊢
      have HV3 : Hid (VTims v3 tv3 Z.tms) := O3.v
      obtain ⟨sa3, sc3, hsv⟩ : ∃ a c, tv3 = .slice a Z.tms.length c := O3.v.shape
      obtain ⟨ls3, hls⟩ : ∃ ls, ls = Z.tms.length := ⟨_, rfl⟩
      rw [← hls] at hsv
      subst hsv
      have RL := R3.vl
      obtain ⟨ia3, ic3, hrv⟩ : ∃ a c, rv3 = .slice a C.length c := by obtain ⟨a, c, e, _⟩ := RL; exact ⟨a, c, e⟩
      obtain ⟨ln3, hln⟩ : ∃ ls, ls = C.length := ⟨_, rfl⟩
      rw [← hln] at hrv
      subst hrv
      have HLN3 := hideF hln
      clear hls hln O3 R3
      go_upto_region 19 with fail
      generalize hU : v3.alloc _ = V3
      obtain ⟨SA, YA⟩ : BX V3 v3.heap.size Z (.slice sa3 ls3 sc3) ∧ Below v3.heap.size v3 V3 := by rw [← hU]; exact bx_new HV3.out
      have HN3 := hideF SA
      have HI3 : Hid (VL fI V3 (.slice ia3 ln3 ic3) C) := RL.ext (ext_below YA)
      have HN2n := hideF (HN2.out.grow b3)
      have HN2m := hideF (HN2n.out.grow YA)
      clear HN2 HN2n
      have HN2 := HN2m
      clear HN2m
      have HI1n := hideF (HI1.out.ext (ext_below b3))
      have HI1m := hideF (HI1n.out.ext (ext_below YA))
      clear HI1 HI1n
      have HI1 := HI1m
      clear HI1m
      have HI2n := hideF (HI2.out.ext (ext_below b3))
      have HI2m := hideF (HI2n.out.ext (ext_below YA))
      clear HI2 HI2n
      have HI2 := HI2m
      clear HI2m
      have HBn := hideF (HBB.out.trans (b3.mono HBB.out.size))
      have HBm := hideF (HBn.out.trans (YA.mono HBn.out.size))
      clear hU SA YA HV3 HBn HBB b3 RL d0 d1
      have HBB := HBm
      clear HBm
      generalize v3.heap.size = by3 at *
      clear HT1 HT2 HT3 HXB HN1
      have HLL : Hid (A.length + B.length = C.length ∧ C.length ≤ 40) := ⟨by rw [← HFA.out.1, List.length_append], HFA.out.2.2.2.1⟩
      go_upto_region 20 with (at_builtin; first
        | (refine wpList_append_il _ rfl (.tmp 145) (.tmp 146) rfl V3.heap.size _ [] rfl (own_nil V3) ia1 ln1 ic1 A rfl (HI1.out.ext (World.grownBy_alloc V3 _ none)) (by have := HLL.out; simp only [List.length_nil]; omega) (by simp) ?_; intro v5 w5 o5 g5; have O5 : Hid (OwI w5 V3.heap.size v5 A) := o5; have K5 : Hid (Below V3.heap.size V3 w5) := ib_own ((Below.refl _ V3).alloc (Nat.le_refl _) _) (by simp) (own_nil V3) g5; clear o5 g5)
        | (refine wpList_append_il _ rfl (.tmp 147) (.tmp 148) rfl V3.heap.size v5 A rfl O5.out ia2 ln2 ic2 B rfl (HI2.out.ext (ext_below K5.out)) (by have := HLL.out; omega) K5.out.size ?_; intro v6 w6 o6 g6; have O6 : Hid (OwI w6 V3.heap.size v6 (A ++ B)) := o6; have K6 : Hid (Below V3.heap.size V3 w6) := ib_own K5.out K5.out.size O5.out g6; clear o6 g6))
      have RL := O6.out.vl
      rw [HFA.out.1] at RL
      obtain ⟨ia6, ic6, hrv⟩ : ∃ a c, v6 = .slice a C.length c := by obtain ⟨a, c, e, _⟩ := RL; exact ⟨a, c, e⟩
      rw [← HLN3.out] at hrv
      subst hrv
      have HR := hideF RL
      have HZ2 := hideF (HN2.out.grow K6.out)
      have HZ3 := hideF (HN3.out.grow K6.out)
      have HA6 := hideF (HI1.out.ext (ext_below K6.out))
      have HC6 := hideF (HI3.out.ext (ext_below K6.out))
      have HB6 := hideF (HBB.out.trans (K6.out.mono HBB.out.size))
      clear RL HN2 HN3 HI1 HI2 HI3 HBB K5 O5 O6 K6
      obtain ⟨d0, d1⟩ := HZ2.out.cells
      obtain ⟨e0, e1⟩ := HZ3.out.cells
      go_wp2_with fail
      refine (sameV _ _ Z _ HZ2.out.w HZ3.out.w (by have := HFA.out; omega)).mono ?_
      rintro e w7 ⟨rfl, b7⟩
      have HR7 := hideF (HR.out.ext (ext_below b7))
      have HA7 := hideF (HA6.out.ext (ext_below b7))
      have HC7 := hideF (HC6.out.ext (ext_below b7))
      have HB7 := hideF (HB6.out.trans (b7.mono HB6.out.size))
      clear b7 HR HA6 HC6 HB6 HZ2 HZ3 d0 d1 e0 e1
      have hl3 : (ln3 : Int) ≤ 40 := by have := HLL.out; have := HLN3.out; omega
      have hl1 : (ln1 : Int) ≤ 40 := by have := HLL.out; have := HLN1.out; omega
      go_wp2_with fail
      go_loopw [24, 25] (fun mv i wr => ∃ (k q : Nat) (b : Bool), k ≤ ln3 ∧ i = .int .i64 k ∧ mv = .bool b ∧ Hid (b = decide (id ∈ C.take k)) ∧ wr = w7.drewN q) (fun _ i _ => ln3 - (intOf i).toNat)
      case atStart => exact ⟨0, 0, false, Nat.zero_le _, rfl, rfl, by show _ = _; simp, rfl⟩
      case round =>
        obtain ⟨k, q, b, hk, rfl, rfl, HBb, rfl⟩ := hrel
        by_cases hlt : k < ln3
        · obtain ⟨y, hy⟩ : ∃ y, C[k]? = some y := ⟨_, List.getElem?_eq_getElem (by have := HLN3.out; omega)⟩
          have HNB : Hid (decide (id ∈ C.take (k + 1)) = (b || decide (y = id))) := by
            show _ = _
            rw [HBb.out, List.take_add_one, hy]
            by_cases e : y = id
            · subst e; simp
            · have e' : ¬ id = y := fun h => e h.symm
              simp [e, e']
          obtain ⟨b1, o1, rfl, c1⟩ := vl_get HC7.out hy
          obtain ⟨b2, o2, rfl, c2⟩ := vl_get HR7.out hy
          have hlt' : (k : Int) < (ln3 : Int) := by omega
          clear hy HBb
          go_wp2_with fail
          go_quiet (fail)
          cases b with
          | true =>
            go_wp2
            go_roundw
            case rel => exact ⟨k + 1, _, true, by omega, by go_num, rfl, by show _ = _; rw [HNB.out]; rfl, by first | rfl | exact World.drewN_drewN _ _ _⟩
            case measure => simp [intOf]; omega
          | false =>
            go_wp2
            go_roundw
            case rel => exact ⟨k + 1, _, decide (y = id), by omega, by go_num, by first | rfl | simp, by show _ = _; rw [HNB.out]; rfl, by first | rfl | exact World.drewN_drewN _ _ _⟩
            case measure => simp [intOf]; omega
        · have hb : b = true := by
            rw [HBb.out, List.take_of_length_le (by have := HLN3.out; omega)]
            simpa using HFA.out.2.1
          subst hb
          clear HBb
          go_wp2_with fail
          go_loopw [26] (fun i wr => ∃ k : Nat, k ≤ ln1 ∧ i = .int .i64 k ∧ wr = w7.drewN q) (fun i _ => ln1 - (intOf i).toNat)
          case atStart => exact ⟨0, Nat.zero_le _, rfl, rfl⟩
          case round =>
            obtain ⟨j, hj, rfl, rfl⟩ := hrel
            by_cases hlt1 : j < ln1
            · obtain ⟨y, hy⟩ : ∃ y, A[j]? = some y := ⟨_, List.getElem?_eq_getElem (by have := HLN1.out; omega)⟩
              have hyn : ¬ y = id := fun e => HFA.out.2.2.1 (e ▸ List.mem_of_getElem? hy)
              obtain ⟨b1, o1, rfl, c1⟩ := vl_get HA7.out hy
              have hlt' : (j : Int) < (ln1 : Int) := by omega
              clear hy
              go_wp2
              go_roundw
              case rel => exact ⟨j + 1, by omega, by go_num, by first | trivial | rfl⟩
              case measure => simp [intOf]; omega
            · go_wp2
              go_ret
              exact ⟨rfl, below_drewN HB7.out q⟩

end Go.Proofs.Ytgjffhcokadcdaa
