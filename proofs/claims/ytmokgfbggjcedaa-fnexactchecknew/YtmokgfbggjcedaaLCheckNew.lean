
/- The exact statement of CheckNew: the walk of the law itself. -/
import Derived.Test.YtmokgfbggjcedaaCk5
import Derived.Test.YtmokgfbggjcedaaCk7ns
import Derived.Test.YtmokgfbggjcedaaCk7ni
import Derived.Test.YtmokgfbggjcedaaVal
namespace Go.Proofs.Ytmokgfbggjcedaa
open Go.RowKit

/-- What is carried through the walk of a law that answers a prober: the specification's answer (of the world Ws), the program's. -/
structure LKQ (w Ws W : World) (R : DChk) (sv gv : Value) (s g base : Nat) (G : List Int) : Prop where
  low : Below w.heap.size w W
  sB : Below Ws.heap.size Ws W
  sV : RV Ws sv R.name
  s : W.heap[s]? = some (.cells #[sv, .int .i64 R.ttl, .int .i64 R.most, .int .i64 R.st, .int .i64 R.age, .int .i64 R.fails] 27 (0, 0))
  g : W.heap[g]? = some (.cells #[gv, .int .i64 R.ttl, .int .i64 R.most, .int .i64 R.st, .int .i64 R.age, .int .i64 R.fails] 27 (0, 0))
  gO : OwB W base gv G
  bs : Ws.heap.size ≤ base
  ws : w.heap.size ≤ Ws.heap.size
variable {w Ws W W' : World} {R : DChk} {sv gv : Value} {s g base : Nat} {G G' : List Int}
theorem LKQ.grow (h : LKQ w Ws W R sv gv s g base G) (b : Below W.heap.size W W') : LKQ w Ws W' R sv gv s g base G :=
  ⟨h.low.trans (b.mono h.low.size), h.sB.trans (b.mono h.sB.size), h.sV, ext_blk (ext_below b) h.s, ext_blk (ext_below b) h.g, h.gO.ext (ext_below b), h.bs, h.ws⟩
theorem LKQ.turn {row : Value} {rb : Nat} {T : List Int} (h : LKQ w Ws W R sv gv s g base G) (o : OwB W rb row T) (hb : Ws.heap.size ≤ rb) (hg : W.grownBy W' row.ownBlock) (hG : OwB W' base gv G') : LKQ w Ws W' R sv gv s g base G' := by
  have kp : ∀ (b : Nat) (cs : Array Value) (t : TypeId), W.heap[b]? = some (.cells cs t (0, 0)) → t ≠ 5 → W'.heap[b]? = some (.cells cs t (0, 0)) := fun b cs t hbb ht => (hg.block b (Array.getElem?_eq_some_iff.1 hbb).1 (ne_rowB o hbb ht)).trans hbb
  have hr : ∀ k, row.ownBlock = some k → rb ≤ k := fun k hk => (o.lt k hk).1
  exact ⟨h.low.grown hg h.low.size (fun k hk => Nat.le_trans (Nat.le_trans h.ws hb) (hr k hk)), h.sB.grown hg h.sB.size (fun k hk => Nat.le_trans hb (hr k hk)), h.sV, kp _ _ _ h.s (by decide), kp _ _ _ h.g (by decide), hG, h.bs, h.ws⟩
theorem LKQ.sW (h : LKQ w Ws W R sv gv s g base G) : VChk W (.agg #[sv, .int .i64 R.ttl, .int .i64 R.most, .int .i64 R.st, .int .i64 R.age, .int .i64 R.fails]) R := ⟨sv, rfl, h.sV.ext (ext_below h.sB)⟩


set_option maxRecDepth 20000 in
set_option maxHeartbeats 4000000 in
theorem law_CheckNew (a : Option Addr) (n cap : Nat) (xs : List Int) (t m : Int) (w : World) (hr : Rd w a n xs) (hc : n ≤ cap) (hm : cap ≤ maxLen) (_h1 : -9223372036854775808 ≤ t) (_h2 : t ≤ 9223372036854775807) (_h3 : -9223372036854775808 ≤ m) (_h4 : m ≤ 9223372036854775807) :
    Calls Try.prog 4 #[.slice a n cap, .int .i64 t, .int .i64 m] w fun e w' => e = .returned (.bool true) ∧ Below w.heap.size w w' := by
  have hE : ∀ w : World, ∀ o, Ext w (w.alloc o) := fun w o => World.grownBy_alloc _ _ _
  have hB : ∀ w : World, ∀ o, Below w.heap.size w (w.alloc o) := fun w o => (Below.refl _ w).alloc (Nat.le_refl _) _
  have hml : n ≤ 9223372036854775807 := by unfold maxLen at hm; omega
  by_cases hn : n ≤ 1048576
  case neg =>
    have hn' : (1048576 : Int) < (n : Int) := by omega
    go_enter Try.func4, Try.ntmps4
    go_wp2
    go_ret
    exact ⟨rfl, Below.refl _ _⟩
  have hn' : ¬ (1048576 : Int) < (n : Int) := by omega
  have hl := hr.len
  have HV : Hid (RV w (.slice a n cap) xs) := ⟨a, cap, by rw [hl], by rw [hl]; exact hr, by omega, hm⟩
  have HLE : Hid (xs.length ≤ 1048576) := by show _ ≤ _; omega
  have HRG : Hid (∀ x ∈ xs, 0 ≤ x ∧ x ≤ 255) := hr.rng
  have HXL : Hid (n = xs.length) := hl.symm
  obtain ⟨⟨R, rb⟩, hR⟩ : ∃ R, R = newPD xs t m := ⟨_, rfl⟩
  have HR : Hid ((R, rb) = newPD xs t m) := hR
  obtain ⟨k, hk⟩ : ∃ k, k = R.name.length := ⟨_, rfl⟩
  have HMR : Hid (k = R.name.length) := hk
  have HML : Hid (k ≤ 1048576) := by
    show _ ≤ _
    have := newPD_len xs t m HLE.out
    rw [← hR] at this
    rw [hk]
    exact this
  clear hR hk hr hl hc hm
  have HTV : Hid (∀ V, Below w.heap.size w V → Calls Try.prog 14 #[.slice a n cap] V fun e w' => ∃ v1, e = .returned v1 ∧ Hid (OwB w' V.heap.size v1 xs) ∧ Below V.heap.size V w') := fun V hb => (toV _ xs V (HV.out.ext (ext_below hb)) HLE.out).mono (fun e w' ⟨v1, h1, h2, h3⟩ => ⟨v1, h1, ⟨h2, HRG.out⟩, h3⟩)
  have HS : Hid (∀ V va, RV V va xs → Calls Try.prog 13 #[va, .int .i64 t, .int .i64 m] V fun e w' => ∃ sa sc, e = .returned (.tuple #[.agg #[.slice sa k sc, .int .i64 R.ttl, .int .i64 R.most, .int .i64 R.st, .int .i64 R.age, .int .i64 R.fails], .bool rb]) ∧ Hid (OwB w' V.heap.size (.slice sa k sc) R.name) ∧ Below V.heap.size V w') := fun V va hv => (sCheckNewV va xs t m V hv HLE.out).mono (fun e w' ⟨tv, h1, h2, h3⟩ => by
    rw [← HR.out] at h1 h2
    obtain ⟨sa, sc, hsv⟩ := h2.shape
    rw [← HMR.out] at hsv
    subst hsv
    exact ⟨sa, sc, h1, h2, h3⟩)
  have HI : Hid (∀ V va, RV V va xs → Calls Try.prog 15 #[va, .int .i64 t, .int .i64 m] V fun e w' => ∃ sa sc, e = .returned (.tuple #[.agg #[.slice sa k sc, .int .i64 R.ttl, .int .i64 R.most, .int .i64 R.st, .int .i64 R.age, .int .i64 R.fails], .bool rb]) ∧ Hid (OwB w' V.heap.size (.slice sa k sc) R.name) ∧ Below V.heap.size V w') := fun V va hv => (iCheckNewV va xs t m V hv HLE.out).mono (fun e w' ⟨tv, h1, h2, h3⟩ => by
    rw [← HR.out] at h1 h2
    obtain ⟨sa, sc, hsv⟩ := h2.shape
    rw [← HMR.out] at hsv
    subst hsv
    exact ⟨sa, sc, h1, h2, h3⟩)
  go_enter Try.func4, Try.ntmps4
  go_wp2_with fail
  refine (HTV.out w (Below.refl _ _)).mono ?_
  rintro e w1 ⟨v1, rfl, o1, b1⟩
  go_wp2_with fail
  refine (HS.out w1 _ o1.out.rv).mono ?_
  rintro e v3 ⟨sa, sc, rfl, o3, b3⟩
  have HM3 : Hid (∀ W, W = v3.alloc (.cells #[.slice sa k sc, .int .i64 R.ttl, .int .i64 R.most, .int .i64 R.st, .int .i64 R.age, .int .i64 R.fails] 27 (0, 0)) → Below w.heap.size w W ∧ W.heap[v3.heap.size]? = some (.cells #[.slice sa k sc, .int .i64 R.ttl, .int .i64 R.most, .int .i64 R.st, .int .i64 R.age, .int .i64 R.fails] 27 (0, 0)) ∧ RV W (.slice sa k sc) R.name) := fun W hW => by
    subst hW
    exact ⟨(b1.trans (b3.mono b1.size)).trans ((hB _ _).mono (Nat.le_trans b1.size b3.size)), heap_alloc_new _ _, o3.out.rv.ext (hE _ _)⟩
  clear b1 b3 o1
  go_upto_region 4 with fail
  generalize hU : v3.alloc _ = w3
  obtain ⟨B3, PS3, V3⟩ := HM3.out w3 hU.symm
  clear hU HM3 o3
  generalize v3.heap.size = bs at *
  go_wp2_with fail
  refine (HTV.out w3 B3).mono ?_
  rintro e w4 ⟨xv, rfl, ox, b4⟩
  go_wp2_with fail
  refine (HI.out w4 _ ox.out.rv).mono ?_
  rintro e w5 ⟨ga, gc, rfl, O5, b5⟩
  have HLL : Hid (∀ W, W = w5.alloc (.cells #[.slice ga k gc, .int .i64 R.ttl, .int .i64 R.most, .int .i64 R.st, .int .i64 R.age, .int .i64 R.fails] 27 (0, 0)) → LKQ w w3 W R (.slice sa k sc) (.slice ga k gc) bs w5.heap.size w4.heap.size R.name ∧ OwB W w3.heap.size xv xs ∧ (∀ b, xv.ownBlock = some b → b < w4.heap.size)) := fun W hW => by
    subst hW
    have X5 : Ext w4 (w5.alloc (.cells #[.slice ga k gc, .int .i64 R.ttl, .int .i64 R.most, .int .i64 R.st, .int .i64 R.age, .int .i64 R.fails] 27 (0, 0))) := (ext_below b5).tr (hE _ _)
    have X : Ext w3 (w5.alloc (.cells #[.slice ga k gc, .int .i64 R.ttl, .int .i64 R.most, .int .i64 R.st, .int .i64 R.age, .int .i64 R.fails] 27 (0, 0))) := (ext_below b4).tr X5
    exact ⟨⟨B3.trans ((ext_bel X).mono B3.size), ext_bel X, V3, ext_blk X PS3, heap_alloc_new _ _, O5.out.ext (hE _ _), b4.size, B3.size⟩, ox.out.ext X5, fun b hb => (ox.out.lt b hb).2⟩
  go_upto_region 6 with fail
  generalize hU : w5.alloc _ = W0
  obtain ⟨L0, X0, G0⟩ := HLL.out W0 hU.symm
  clear hU HLL O5 b5 PS3 V3 B3 ox b4
  generalize w5.heap.size = bg at *
  have HGX := hideR G0
  have HX0 := hideR X0
  have HL0 : Hid (LKQ w w3 W0 R (.slice sa k sc) (.slice ga k gc) bs bg w4.heap.size R.name) := L0
  obtain ⟨s0, s1, s2, s3, s4, s5⟩ := cells6 L0.s
  obtain ⟨y0, y1, y2, y3, y4, y5⟩ := cells6 L0.g
  clear L0 G0 X0
  go_wp2_with fail
  refine (eqChk _ _ R _ ⟨_, rfl, HL0.out.gO.rv⟩ HL0.out.sW (by rw [← HMR.out]; exact HML.out)).mono ?_
  rintro e W1 ⟨rfl, bb1⟩
  have HL1 := hideR (HL0.out.grow bb1)
  have HX1 := hideR (HX0.out.ext (ext_below bb1))
  clear s0 s1 s2 s3 s4 s5 y0 y1 y2 y3 y4 y5 bb1 HL0 HX0
  -- its argument is as it was
  go_wp2_with fail
  refine (HTV.out W1 HL1.out.low).mono ?_
  rintro e W2 ⟨v6, rfl, o6, bb2⟩
  go_wp2_with fail
  refine (eqV_yes xv v6 xs W2 (HX1.out.ext (ext_below bb2)).rv o6.out.rv (Nat.le_trans HLE.out (by omega))).mono ?_
  rintro e W3 ⟨rfl, q7, rfl⟩
  have bA : Below W1.heap.size W1 (W2.drewN q7) := below_drewN bb2 q7
  have HL2 := hideR (HL1.out.grow bA)
  have HX2 := hideR (HX1.out.ext (ext_below bA))
  clear bA bb2 o6 HL1 HX1
  -- marks in its argument
  go_wp2_with fail
  refine (markV w3.heap.size xv xs 1 _ HX2.out.1 (Nat.le_trans HLE.out (by omega)) (by omega) (by omega)).mono ?_
  rintro e W4 ⟨rfl, o8, g8⟩
  have HGO : Hid (OwB W4 w4.heap.size (.slice ga k gc) R.name) := keep_ltB HL2.out.gO g8 HGX.out
  have HL3 := hideR (HL2.out.turn HX2.out (Nat.le_refl _) g8 HGO.out)
  rw [← HXL.out]
  clear o8 g8 HL2 HX2
  obtain ⟨s0, s1, s2, s3, s4, s5⟩ := cells6 HL3.out.s
  obtain ⟨y0, y1, y2, y3, y4, y5⟩ := cells6 HL3.out.g
  have hk0 : ¬ ((1 : Int) + (n : Int) < 0) := by omega
  have hk1 : decide ((1 : Int) + (n : Int) < 0) = false := by simp; omega
  go_wp2_with fail
  refine (eqChk _ _ R _ ⟨_, rfl, HL3.out.gO.rv⟩ HL3.out.sW (by rw [← HMR.out]; exact HML.out)).mono ?_
  rintro e W5 ⟨rfl, bb5⟩
  have HL4 := hideR (HL3.out.grow bb5)
  clear s0 s1 s2 s3 s4 s5 y0 y1 y2 y3 y4 y5 bb5 HL3 HGO
  obtain ⟨y0, y1, y2, y3, y4, y5⟩ := cells6 HL4.out.g
  go_wp2_with fail
  refine (markChk w4.heap.size R _ R.name 1 _ HL4.out.gO (by rw [← HMR.out]; exact HML.out) (by omega) (by omega)).mono ?_
  rintro e Z5 ⟨rfl, o5, g5⟩
  rw [← HMR.out] at o5 ⊢
  have HL5 := hideR (HL4.out.turn HL4.out.gO HL4.out.bs g5 o5)
  clear o5 g5 y0 y1 y2 y3 y4 y5 HL4
  obtain ⟨y0, y1, y2, y3, y4, y5⟩ := cells6 HL5.out.g
  go_wp2_with fail
  refine (heldChk w4.heap.size R _ k 1 _ HL5.out.gO HML.out (by omega) (by omega)).mono ?_
  rintro e Z6 ⟨rfl, b6⟩
  have HL6 := hideR (HL5.out.grow b6)
  clear y0 y1 y2 y3 y4 y5 b6 HL5
  have hm0 : ¬ ((1 : Int) + (k : Int) < 0) := by omega
  go_wp2_with fail
  refine (HTV.out Z6 HL6.out.low).mono ?_
  rintro e Z7 ⟨v7, rfl, o7, b7⟩
  have HL7 := hideR (HL6.out.grow b7)
  clear b7 HL6
  go_wp2_with fail
  refine (HI.out Z7 _ o7.out.rv).mono ?_
  rintro e Z8 ⟨ha, hc, rfl, O8, b8⟩
  have HL8 := hideR (HL7.out.grow b8)
  have HH : Hid (∀ W, W = Z8.alloc (.cells #[.slice ha k hc, .int .i64 R.ttl, .int .i64 R.most, .int .i64 R.st, .int .i64 R.age, .int .i64 R.fails] 27 (0, 0)) → LKQ w w3 W R (.slice sa k sc) (.slice ga k gc) bs bg w4.heap.size (marks 1 k) ∧ W.heap[Z8.heap.size]? = some (.cells #[.slice ha k hc, .int .i64 R.ttl, .int .i64 R.most, .int .i64 R.st, .int .i64 R.age, .int .i64 R.fails] 27 (0, 0)) ∧ RV W (.slice ha k hc) R.name) := fun W hW => by
    subst hW
    exact ⟨HL8.out.grow (hB _ _), heap_alloc_new _ _, O8.out.rv.ext (hE _ _)⟩
  clear b8 HL7 o7
  go_upto_region 23 with fail
  generalize hU : Z8.alloc _ = Z9
  obtain ⟨L9, Q9, T9⟩ := HH.out Z9 hU.symm
  have HL9 := hideR L9
  have HT9 : Hid (RV Z9 (.slice ha k hc) R.name) := T9
  clear hU HH L9 T9 HL8 O8
  generalize Z8.heap.size = bh at *
  obtain ⟨t0, t1, t2, t3, t4, t5⟩ := cells6 Q9
  obtain ⟨s0, s1, s2, s3, s4, s5⟩ := cells6 HL9.out.s
  go_wp2_with fail
  refine (eqChk _ _ R _ ⟨_, rfl, HT9.out⟩ HL9.out.sW (by rw [← HMR.out]; exact HML.out)).mono ?_
  rintro e Z10 ⟨rfl, b10⟩
  have HL10 := hideR (HL9.out.grow b10)
  clear b10 t0 t1 t2 t3 t4 t5 s0 s1 s2 s3 s4 s5 Q9 HT9 HL9
  obtain ⟨y0, y1, y2, y3, y4, y5⟩ := cells6 HL10.out.g
  go_wp2_with fail
  refine (heldChk w4.heap.size R _ k 1 _ HL10.out.gO HML.out (by omega) (by omega)).mono ?_
  rintro e Z11 ⟨rfl, b11⟩
  go_wp2_with fail
  go_ret
  exact ⟨rfl, (HL10.out.grow b11).low⟩

end Go.Proofs.Ytmokgfbggjcedaa
