
/- FnChecks: the walk of the law itself. -/
import Derived.Test.YtihlinhfnlfdmaaKd4
import Derived.Test.YtihlinhfnlfdmaaKd5
import Derived.Test.YtihlinhfnlfdmaaSt13
import Derived.Test.YtihlinhfnlfdmaaCk7ti
import Derived.Test.YtihlinhfnlfdmaaCk7pi
import Derived.Test.YtihlinhfnlfdmaaCk7fi
namespace Go.Proofs.Ytihlinhfnlfdmaa
open Go.RowKit

/-- A check in a box, its name in memory of the call's own. -/
structure KB (w : World) (b : Nat) (C : DChk) (a : Option Addr) (n c : Nat) (W : World) : Prop where
  box : W.heap[b]? = some (.cells #[.slice a n c, .int .i64 C.ttl, .int .i64 C.most, .int .i64 C.st, .int .i64 C.age, .int .i64 C.fails] 24 (0, 0))
  own : OwN W w.heap.size (.slice a n c) C.name
variable {w W W' : World} {b : Nat} {C : DChk} {a : Option Addr} {n c : Nat}
theorem KB.ext (h : KB w b C a n c W) (e : Ext W W') : KB w b C a n c W' := ⟨ext_blk e h.box, h.own.ext e⟩
theorem KB.off {b' : Nat} {cs : Array Value} (h : KB w b C a n c W) (k : W.grownBy W' (some b')) (hn : b ≠ b') (hb : W.heap[b']? = some (.cells cs 24 (0, 0))) : KB w b C a n c W' :=
  ⟨grown_blk k hn h.box, h.own.keep k (neN h.own hb (by decide))⟩
theorem KB.v (h : KB w b C a n c W) : VChk W (.agg #[.slice a n c, .int .i64 C.ttl, .int .i64 C.most, .int .i64 C.st, .int .i64 C.age, .int .i64 C.fails]) C := ⟨_, rfl, h.own.rv⟩
theorem KB.lt (h : KB w b C a n c W) : b < W.heap.size := (Array.getElem?_eq_some_iff.1 h.box).1
theorem KB.lay {W2 : World} {C' : DChk} {a' : Option Addr} {n' c' : Nat} (h : KB w b C a n c W) (e : Ext W W2) (o : OwB W2 W.heap.size (.slice a' n' c') C'.name) (hs : w.heap.size ≤ W.heap.size) : KB w b C' a' n' c' ((((((W2.setCell ⟨b, 0, none⟩ (.slice a' n' c')).setCell ⟨b, 1, none⟩ (.int .i64 C'.ttl)).setCell ⟨b, 2, none⟩ (.int .i64 C'.most)).setCell ⟨b, 3, none⟩ (.int .i64 C'.st)).setCell ⟨b, 4, none⟩ (.int .i64 C'.age)).setCell ⟨b, 5, none⟩ (.int .i64 C'.fails)) ∧ W2.grownBy ((((((W2.setCell ⟨b, 0, none⟩ (.slice a' n' c')).setCell ⟨b, 1, none⟩ (.int .i64 C'.ttl)).setCell ⟨b, 2, none⟩ (.int .i64 C'.most)).setCell ⟨b, 3, none⟩ (.int .i64 C'.st)).setCell ⟨b, 4, none⟩ (.int .i64 C'.age)).setCell ⟨b, 5, none⟩ (.int .i64 C'.fails)) (some b) := by
  have h2 := h.ext e
  exact ⟨⟨chk_set h2.box _ _ _ _ _ _, (chk_own (o.base hs) (.inr (fun e => ne_rowB o h2.box (by decide) e.symm)) _ _ _ _ _ _).n⟩, ((((((set_grown _ _ _ _).trans (set_grown _ _ _ _)).trans (set_grown _ _ _ _)).trans (set_grown _ _ _ _)).trans (set_grown _ _ _ _)).trans (set_grown _ _ _ _))⟩
theorem two_checks {w W : World} {b b' : Nat} {P F : DChk} {pa fa : Option Addr} {pn pc fn fc : Nat} (hp : KB w b P pa pn pc W) (hf : KB w b' F fa fn fc W) :
    VChks (W.alloc (.cells #[.slice pa pn pc, .int .i64 P.ttl, .int .i64 P.most, .int .i64 P.st, .int .i64 P.age, .int .i64 P.fails, .slice fa fn fc, .int .i64 F.ttl, .int .i64 F.most, .int .i64 F.st, .int .i64 F.age, .int .i64 F.fails] 24)) (.slice (some ⟨W.heap.size, 0, none⟩) 2 2) [P, F] := by
  have X : Ext W (W.alloc (.cells #[.slice pa pn pc, .int .i64 P.ttl, .int .i64 P.most, .int .i64 P.st, .int .i64 P.age, .int .i64 P.fails, .slice fa fn fc, .int .i64 F.ttl, .int .i64 F.most, .int .i64 F.st, .int .i64 F.age, .int .i64 F.fails] 24)) := World.grownBy_alloc _ _ _
  refine ⟨fun i j => (#[.slice pa pn pc, .int .i64 P.ttl, .int .i64 P.most, .int .i64 P.st, .int .i64 P.age, .int .i64 P.fails, .slice fa fn fc, .int .i64 F.ttl, .int .i64 F.most, .int .i64 F.st, .int .i64 F.age, .int .i64 F.fails] : Array Value)[i * 6 + j]?.getD (.bool true), ⟨_, _, rfl, Nat.le_refl _, by unfold maxLen; decide, fun _ => ⟨W.heap.size, 0, rfl, by simp, fun i hi j hj => ?_⟩⟩, fun i d hd => ?_⟩
  · rw [cell_of_row _ W.heap.size _ _ _ (0, 0) (heap_alloc_new W _)]
    have hi' : i = 0 ∨ i = 1 := by have : i < 2 := hi; omega
    have hj' : j = 0 ∨ j = 1 ∨ j = 2 ∨ j = 3 ∨ j = 4 ∨ j = 5 := by omega
    rcases hi' with rfl | rfl <;> rcases hj' with rfl | rfl | rfl | rfl | rfl | rfl <;> rfl
  · match i, hd with
    | 0, hd =>
      cases hd
      exact ⟨hp.own.rv.ext X, rfl, rfl, rfl, rfl, rfl⟩
    | 1, hd =>
      cases hd
      exact ⟨hf.own.rv.ext X, rfl, rfl, rfl, rfl, rfl⟩
theorem no_checks (W : World) : VChks W (.slice none 0 0) [] := ⟨fun _ _ => .bool true, ⟨none, 0, rfl, Nat.le_refl _, by unfold maxLen; decide, fun h => absurd h (by decide)⟩, fun i d hd => by simp at hd⟩

set_option maxRecDepth 20000 in
set_option maxHeartbeats 8000000 in
theorem law_FnChecks (a : Option Addr) (n cap : Nat) (xs : List Int) (w : World) (hr : Rd w a n xs) (hnc : n ≤ cap) (hm : cap ≤ maxLen) :
    Calls Try.prog 3 #[.slice a n cap] w fun e w' => e = .returned (.bool true) ∧ Below w.heap.size w w' := by
  have hE : ∀ w : World, ∀ o, Ext w (w.alloc o) := fun w o => World.grownBy_alloc _ _ _
  have HR : Hid (Rd w a n xs) := hr
  have HMM : Hid (n ≤ maxLen) := Nat.le_trans hnc hm
  clear hr hnc hm
  go_enter Try.func3, Try.ntmps3
  go_wp2_with fail
  refine (drawTickV a n cap xs w HR.out HMM.out).mono ?_
  rintro e w1 ⟨C, ca, cc, q, rfl, o1, l1, hq, b1⟩
  have HL : Hid (C.name.length ≤ 1048576) := Nat.le_trans l1 (by omega)
  obtain ⟨cn, hcn⟩ : ∃ cn, cn = C.name.length := ⟨_, rfl⟩
  rw [← hcn] at o1 ⊢
  have HQ := hideR hq
  have B1 := hideR b1
  clear l1 hcn hq b1
  have HM : Hid (∀ V, V = w1.alloc (.cells #[.slice ca cn cc, .int .i64 C.ttl, .int .i64 C.most, .int .i64 C.st, .int .i64 C.age, .int .i64 C.fails] 24 (0, 0)) → Ext w1 V ∧ V.heap[w1.heap.size]? = some (.cells #[.slice ca cn cc, .int .i64 C.ttl, .int .i64 C.most, .int .i64 C.st, .int .i64 C.age, .int .i64 C.fails] 24 (0, 0))) := fun V hV => by subst hV; exact ⟨hE _ _, heap_alloc_new _ _⟩
  go_upto_region 2 with fail
  generalize hV : w1.alloc _ = V1
  obtain ⟨XV, PV⟩ := HM.out V1 hV.symm
  clear hV HM
  have BV1 := hideR (B1.out.trans ((ext_bel XV).mono B1.out.size))
  have KC1 := hideR (⟨PV, o1.ext XV⟩ : KB w w1.heap.size C ca cn cc V1)
  clear o1 XV PV B1
  generalize w1.heap.size = bc at *
  obtain ⟨x0, x1, x2, x3, x4, x5⟩ := cells6 KC1.out.box
  -- a tick
  go_wp2_with fail
  refine (iCheckTickV _ C q V1 KC1.out.v HL.out HQ.out.1 HQ.out.2).mono ?_
  rintro e w2 ⟨tv, rfl, o2, b2⟩
  obtain ⟨⟨X, xb⟩, hX⟩ : ∃ R, R = tickPD C q := ⟨_, rfl⟩
  rw [← hX] at o2 ⊢
  have HX := hideR hX
  have HXL := hideR (show X.name.length ≤ 1048576 by have := tickPD_len C q HL.out; rw [← hX] at this; exact this)
  simp only at o2 ⊢
  obtain ⟨xa, xc, htv⟩ := o2.shape
  obtain ⟨xn, hxn⟩ : ∃ xn, xn = X.name.length := ⟨_, rfl⟩
  rw [← hxn] at htv
  subst htv
  have HXN := hideR hxn
  have KC2 := hideR (KC1.out.ext (ext_below b2))
  have B2 := hideR (BV1.out.trans (b2.mono BV1.out.size))
  have O2 := hideR (o2.n.base BV1.out.size)
  clear x0 x1 x2 x3 x4 x5 KC1 BV1 b2 o2 hX hxn
  have HM : Hid (∀ V, V = w2.alloc (.cells #[.slice xa xn xc, .int .i64 X.ttl, .int .i64 X.most, .int .i64 X.st, .int .i64 X.age, .int .i64 X.fails] 24 (0, 0)) → Ext w2 V ∧ V.heap[w2.heap.size]? = some (.cells #[.slice xa xn xc, .int .i64 X.ttl, .int .i64 X.most, .int .i64 X.st, .int .i64 X.age, .int .i64 X.fails] 24 (0, 0))) := fun V hV => by subst hV; exact ⟨hE _ _, heap_alloc_new _ _⟩
  go_upto_region 3 with fail
  generalize hV : w2.alloc _ = V2
  obtain ⟨XV, PV⟩ := HM.out V2 hV.symm
  clear hV HM
  have BV2 := hideR (B2.out.trans ((ext_bel XV).mono B2.out.size))
  have KX2 := hideR (⟨PV, O2.out.ext XV⟩ : KB w w2.heap.size X xa xn xc V2)
  have KC3 := hideR (KC2.out.ext XV)
  have HCX := hideR (KC2.out.lt)
  clear O2 XV PV B2 KC2
  generalize w2.heap.size = bx at *
  obtain ⟨x0, x1, x2, x3, x4, x5⟩ := cells6 KC3.out.box
  go_wp2_with fail
  refine (sCheckOkV _ C V2 KC3.out.v).mono ?_
  rintro e w3 ⟨rfl, b3⟩
  have KC4 := hideR (KC3.out.ext (ext_below b3))
  have KX4 := hideR (KX2.out.ext (ext_below b3))
  have B4 := hideR (BV2.out.trans (b3.mono BV2.out.size))
  clear x0 x1 x2 x3 x4 x5 KC3 KX2 BV2 b3
  by_cases hg : ¬ (chkB C = true ∧ 0 ≤ q)
  · have hz : (X, xb) = (zeroChk, false) := by
      rw [HX.out]
      unfold tickPD
      cases hc : chkB C
      · rfl
      · rw [decide_eq_false (fun h => hg ⟨hc, h⟩)]; rfl
    obtain ⟨e1, e2⟩ := Prod.mk.inj hz
    have e3 : xn = 0 := by rw [HXN.out, e1]; rfl
    subst e2
    subst e3
    have HST : Hid (∀ V, Calls Try.prog 7 #[.int .i64 0] V fun e w' => ∃ va vc, e = .returned (.slice va 7 vc) ∧ Below V.heap.size V w') := fun V => (iStatusTextV 0 V).mono fun e w' ⟨v, h1, h2, h3⟩ => by
      obtain ⟨va, vc, hv⟩ := rv_shape (h2.rv (stL_rng 0))
      exact ⟨va, vc, by rw [h1, hv]; rfl, h3⟩
    obtain ⟨x0, _, _, _, _, _⟩ := cells6 KX4.out.box
    cases hc : chkB C
    · clear hz hg e1
      go_wp2_with fail
      refine (HST.out w3).mono ?_
      rintro e w4 ⟨va, vc, rfl, b4⟩
      have B5 := B4.out.trans (b4.mono B4.out.size)
      go_wp2_with fail
      go_ret
      exact ⟨rfl, B5⟩
    · have hn0 : decide (q < 0) = true := decide_eq_true (by by_cases h : 0 ≤ q; exact absurd ⟨hc, h⟩ hg; omega)
      clear hz hg e1
      go_wp2_with fail
      refine (HST.out w3).mono ?_
      rintro e w4 ⟨va, vc, rfl, b4⟩
      have B5 := B4.out.trans (b4.mono B4.out.size)
      go_wp2_with fail
      go_ret
      exact ⟨rfl, B5⟩
  obtain ⟨hc, hq0⟩ := Classical.not_not.1 hg
  have HCC := hideR hc
  have HQ0 := hideR hq0
  have hn0 : decide (q < 0) = false := decide_eq_false (by omega)
  rw [hc]
  have HXD : Hid ((X, xb) = tickD C q) := by
    show _ = _
    rw [HX.out]
    unfold tickPD
    rw [hc, decide_eq_true hq0]
    rfl
  have HXOK : Hid (chkB X = true) := by
    show _ = _
    have := tick_okC hc hq0
    rw [← HXD.out] at this
    exact this
  have HTELL : Hid (xb = true → (X.st != 2) = false ∧ (C.st == 2) = false) := fun h => by
    have h2 : (tickD C q).2 = true := by rw [← HXD.out]; exact h
    have := tick_tells h2
    rw [← HXD.out] at this
    exact ⟨by simpa using this.1, by simpa using this.2⟩
  clear hg hc hq0 HX
  -- it passes
  obtain ⟨x0, x1, x2, x3, x4, x5⟩ := cells6 KC4.out.box
  go_wp2_with fail
  refine (iCheckPassV _ C w3 KC4.out.v HL.out).mono ?_
  rintro e w4 ⟨tv, rfl, o4, b4⟩
  obtain ⟨⟨P, pb⟩, hP⟩ : ∃ R, R = passPD C := ⟨_, rfl⟩
  rw [← hP] at o4 ⊢
  have HP : Hid (P = fI C 0) := by
    show _ = _
    have : passPD C = passD C := by unfold passPD; rw [HCC.out]; rfl
    rw [this] at hP
    rw [fI_zero, ← hP]
  simp only at o4 ⊢
  obtain ⟨pa, pc, htv⟩ := o4.shape
  obtain ⟨pn, hpn⟩ : ∃ pn, pn = P.name.length := ⟨_, rfl⟩
  rw [← hpn] at htv
  subst htv
  have HPL : Hid (P.name.length ≤ 1048576) := by
    show _ ≤ _
    rw [HP.out]
    exact HL.out
  have KC5 := hideR (KC4.out.ext (ext_below b4))
  have KX5 := hideR (KX4.out.ext (ext_below b4))
  have B5 := hideR (B4.out.trans (b4.mono B4.out.size))
  have O5 := hideR (o4.n.base B4.out.size)
  clear x0 x1 x2 x3 x4 x5 KC4 KX4 B4 b4 o4 hP hpn
  have HM : Hid (∀ V, V = w4.alloc (.cells #[.slice pa pn pc, .int .i64 P.ttl, .int .i64 P.most, .int .i64 P.st, .int .i64 P.age, .int .i64 P.fails] 24 (0, 0)) → Ext w4 V ∧ V.heap[w4.heap.size]? = some (.cells #[.slice pa pn pc, .int .i64 P.ttl, .int .i64 P.most, .int .i64 P.st, .int .i64 P.age, .int .i64 P.fails] 24 (0, 0))) := fun V hV => by subst hV; exact ⟨hE _ _, heap_alloc_new _ _⟩
  go_upto_region 6 with fail
  generalize hV : w4.alloc _ = V5
  obtain ⟨XV, PV⟩ := HM.out V5 hV.symm
  clear hV HM
  have BV5 := hideR (B5.out.trans ((ext_bel XV).mono B5.out.size))
  have KP6 := hideR (⟨PV, O5.out.ext XV⟩ : KB w w4.heap.size P pa pn pc V5)
  have KC6 := hideR (KC5.out.ext XV)
  have KX6 := hideR (KX5.out.ext XV)
  have HCP := hideR (KC5.out.lt)
  clear O5 XV PV B5 KC5 KX5 hn0
  generalize w4.heap.size = bp at *
  obtain ⟨x0, x1, x2, x3, x4, x5⟩ := cells6 KX6.out.box
  go_wp2_with fail
  refine (iCheckOkV _ X V5 KX6.out.v).mono ?_
  rintro e w5 ⟨rfl, b5⟩
  rw [HXOK.out]
  have KC7 := hideR (KC6.out.ext (ext_below b5))
  have KX7 := hideR (KX6.out.ext (ext_below b5))
  have KP7 := hideR (KP6.out.ext (ext_below b5))
  have B7 := hideR (BV5.out.trans (b5.mono BV5.out.size))
  clear x0 x1 x2 x3 x4 x5 KC6 KX6 KP6 BV5 b5
  obtain ⟨_, _, _, y3, _, _⟩ := cells6 KX7.out.box
  obtain ⟨p0, p1, p2, p3, p4, p5⟩ := cells6 KP7.out.box
  obtain ⟨_, c1, c2, c3, _, _⟩ := cells6 KC7.out.box
  have hp0 : (P.st != 0) = false := by rw [HP.out]; rfl
  have HPD : Hid (tickPD P q = tickD P q) := by
    show _ = _
    unfold tickPD
    rw [decide_eq_true HQ0.out, HP.out, fI_ok HCC.out 0 (by have := chkB_num HCC.out; omega)]
    rfl
  have HTK := hideR (tick_passed (n := q) HCC.out)
  cases xb
  · clear HTELL HXD
    go_upto_region 8 with fail
    clear p0 p1 p2 p3 p4 p5 y3 c1 c2 c3 hp0 KX7 HXOK HXN HXL
    obtain ⟨p0, p1, p2, p3, p4, p5⟩ := cells6 KP7.out.box
    go_wp2_with fail
    refine (iCheckTickV _ P q w5 KP7.out.v HPL.out HQ.out.1 HQ.out.2).mono ?_
    rintro e w6 ⟨tv, rfl, o6, b6⟩
    obtain ⟨⟨Y, yb⟩, hY⟩ : ∃ R, R = tickPD P q := ⟨_, rfl⟩
    rw [← hY] at o6 ⊢
    have HY : Hid (yb = (decide (0 < C.ttl) && decide (C.ttl ≤ q)) ∧ yb = (Y.st == 2)) := by
      have h1 := HTK.out
      have h2 := HPD.out
      rw [← hY, HP.out, fI_zero] at h2
      rw [← h2] at h1
      exact h1
    simp only at o6 ⊢
    obtain ⟨ya, yc, htv⟩ := o6.shape
    obtain ⟨yn, hyn⟩ : ∃ yn, yn = Y.name.length := ⟨_, rfl⟩
    rw [← hyn] at htv
    subst htv
    have KC8 := hideR (KC7.out.ext (ext_below b6))
    have KP8 := hideR (KP7.out.ext (ext_below b6))
    have B8 := hideR (B7.out.trans (b6.mono B7.out.size))
    clear p0 p1 p2 p3 p4 p5 KC7 KP7 B7 b6 o6 hY hyn
    have HM : Hid (∀ V, V = w6.alloc (.cells #[.slice ya yn yc, .int .i64 Y.ttl, .int .i64 Y.most, .int .i64 Y.st, .int .i64 Y.age, .int .i64 Y.fails] 24 (0, 0)) → Ext w6 V ∧ V.heap[w6.heap.size]? = some (.cells #[.slice ya yn yc, .int .i64 Y.ttl, .int .i64 Y.most, .int .i64 Y.st, .int .i64 Y.age, .int .i64 Y.fails] 24 (0, 0))) := fun V hV => by subst hV; exact ⟨hE _ _, heap_alloc_new _ _⟩
    go_upto_region 9 with fail
    generalize hV : w6.alloc _ = V6
    obtain ⟨XV, PV⟩ := HM.out V6 hV.symm
    clear hV HM
    have KC9 := hideR (KC8.out.ext XV)
    have KP9 := hideR (KP8.out.ext XV)
    have B9 := hideR (B8.out.trans ((ext_bel XV).mono B8.out.size))
    have PY := (cells6 PV).2.2.2.1
    have HPB := hideR (KP8.out.lt)
    clear XV PV KC8 KP8 B8
    generalize w6.heap.size = by9 at *
    obtain ⟨_, c1, c2, _, _, _⟩ := cells6 KC9.out.box
    obtain ⟨p0, p1, p2, p3, p4, p5⟩ := cells6 KP9.out.box
    by_cases u1 : 0 < C.ttl
    · by_cases u2 : C.ttl ≤ q
      · have hy1 : yb = true := by rw [HY.out.1, decide_eq_true u1, decide_eq_true u2]; rfl
        have hy2 : (Y.st == 2) = true := by rw [← HY.out.2, hy1]
        subst hy1
        clear HY
        go_upto_region 11 with fail
        clear hy2 u1 u2
        clear c1 c2 PY
        have HM : Hid (∀ V, V = V6.alloc (.cells #[.slice pa pn pc, .int .i64 P.ttl, .int .i64 P.most, .int .i64 P.st, .int .i64 P.age, .int .i64 P.fails] 24 (0, 0)) → Ext V6 V ∧ V.heap[V6.heap.size]? = some (.cells #[.slice pa pn pc, .int .i64 P.ttl, .int .i64 P.most, .int .i64 P.st, .int .i64 P.age, .int .i64 P.fails] 24 (0, 0))) := fun V hV => by subst hV; exact ⟨hE _ _, heap_alloc_new _ _⟩
        go_upto_region 12 with fail
        generalize hV : V6.alloc _ = V7
        obtain ⟨XV, PV⟩ := HM.out V7 hV.symm
        clear hV HM
        have KF0 := hideR (⟨PV, KP9.out.own.ext XV⟩ : KB w V6.heap.size P pa pn pc V7)
        have KC10 := hideR (KC9.out.ext XV)
        have KP10 := hideR (KP9.out.ext XV)
        have B10 := hideR (B9.out.trans ((ext_bel XV).mono B9.out.size))
        have HPF := hideR (KP9.out.lt)
        have HCF := hideR (KC9.out.lt)
        have HWF := hideR (B9.out.size)
        clear p0 p1 p2 p3 p4 p5 XV PV KC9 KP9 B9
        generalize V6.heap.size = bf at *
        go_wp2
        go_loopw [12] (fun i wr => ∃ (k : Nat) (F : DChk) (fa : Option Addr) (fn fc : Nat), (k : Int) ≤ C.most ∧ i = .int .i64 k ∧ Hid (F = fI C k) ∧ Hid (KB w bf F fa fn fc wr) ∧ Hid (KB w bc C ca cn cc wr) ∧ Hid (KB w bp P pa pn pc wr) ∧ Hid (Below w.heap.size w wr)) (fun i _ => (C.most - intOf i).toNat)
        case atStart => exact ⟨0, P, pa, pn, pc, by have := chkB_num HCC.out; omega, rfl, HP.out, KF0, KC10, KP10, B10⟩
        case round =>
          obtain ⟨k, F, fa, fn, fc, hk, rfl, hF, KF, KC, KP, hB⟩ := hrel
          clear KF0 KC10 KP10 B10
          obtain ⟨_, _, c2, _, _, _⟩ := cells6 KC.out.box
          obtain ⟨f0, f1, f2, f3, f4, f5⟩ := cells6 KF.out.box
          by_cases hlt : (k : Int) < C.most
          · have hst : (F.st == 2) = false := by rw [hF.out]; exact fI_low k hlt
            have HFL : Hid (F.name.length ≤ 1048576) := by show _ ≤ _; rw [hF.out]; exact HL.out
            have hmk : C.most ≤ 5 := (chkB_num HCC.out).2.2.2.1
            have hw : IntKind.i64.wrap ((k : Int) + 1) = (k : Int) + 1 := by rw [IntKind.wrap_i64]; omega
            have HK := hideR hlt
            go_wp2_with fail
            refine (iCheckFailV _ F wr KF.out.v HFL.out).mono ?_
            rintro e w8 ⟨tv, rfl, o8, b8⟩
            obtain ⟨⟨F2, fb⟩, hF2⟩ : ∃ R, R = failPD F := ⟨_, rfl⟩
            rw [← hF2] at o8 ⊢
            have HF2 : Hid (F2 = fI C (k + 1)) := by
              show _ = _
              rw [← fI_next HCC.out k HK.out, ← hF.out, ← hF2]
            simp only at o8 ⊢
            obtain ⟨ga, gc, htv⟩ := o8.shape
            obtain ⟨gn, hgn⟩ : ∃ gn, gn = F2.name.length := ⟨_, rfl⟩
            rw [← hgn] at htv
            subst htv
            have HY := hideR (KF.out.lay (ext_below b8) o8 hB.out.size)
            have KB8 := hideR ((KF.out.ext (ext_below b8)).box)
            have KC8 := hideR ((KC.out.ext (ext_below b8)).off HY.out.2 (by have := HCF.out; omega) KB8.out)
            have KP8 := hideR ((KP.out.ext (ext_below b8)).off HY.out.2 (by have := HPF.out; omega) KB8.out)
            have B8 := hideR ((hB.out.trans (b8.mono hB.out.size)).grown HY.out.2 (Nat.le_trans hB.out.size b8.size) (fun k hk => by cases hk; exact HWF.out))
            have HY1 := hideR HY.out.1
            obtain ⟨y0, y1, y2, y3, y4, y5⟩ := cells6 KB8.out
            have ff0 := (at_block KB8.out 0 _ rfl).2
            have ff1 := (at_block KB8.out 1 _ rfl).2
            have ff2 := (at_block KB8.out 2 _ rfl).2
            have ff3 := (at_block KB8.out 3 _ rfl).2
            have ff4 := (at_block KB8.out 4 _ rfl).2
            have ff5 := (at_block KB8.out 5 _ rfl).2
            clear c2 f0 f1 f2 f3 f4 f5 hst KF KC KP hB KB8 HY o8 b8 hF2 hgn hlt
            go_wp2
            go_roundw
            case rel => exact ⟨k + 1, F2, ga, gn, gc, by have := HK.out; omega, by go_num, HF2, HY1, KC8, KP8, B8⟩
            case measure => have := HK.out; simp [intOf]; omega
          · have hkm : (k : Int) = C.most := by omega
            have hst2 : F.st = 2 := by rw [hF.out]; exact fI_top HCC.out k hkm
            have hst : (F.st == 2) = true := by rw [hst2]; rfl
            obtain ⟨q0, q1, q2, q3, q4, q5⟩ := cells6 KP.out.box
            have hlt' : decide ((k : Int) < C.most) = false := decide_eq_false hlt
            have HWST : Hid (worstF 0 [P, F] = 2) := worst_two (by rw [HP.out]; exact fI_ok HCC.out 0 (by omega)) (by rw [hF.out]; exact fI_ok HCC.out k (by omega)) (by rw [HP.out]; rfl) hst2
            have HWW : Hid (∀ U, U = wr.alloc (.cells #[.slice pa pn pc, .int .i64 P.ttl, .int .i64 P.most, .int .i64 P.st, .int .i64 P.age, .int .i64 P.fails, .slice fa fn fc, .int .i64 F.ttl, .int .i64 F.most, .int .i64 F.st, .int .i64 F.age, .int .i64 F.fails] 24) → Calls Try.prog 11 #[.slice (some ⟨wr.heap.size, 0, none⟩) 2 2] U fun e w' => e = .returned (.int .i64 2) ∧ Below w.heap.size w w') := fun U hU => by
              have V := two_checks KP.out KF.out
              rw [← hU] at V
              have BU : Below w.heap.size w U := by rw [hU]; exact hB.out.alloc hB.out.size _
              exact (iWorstV _ [P, F] U V (by show 2 ≤ 1048576; omega)).mono fun e w' ⟨h1, h2⟩ => ⟨by rw [h1, HWST.out], BU.trans (h2.mono BU.size)⟩
            clear hst2 hkm hlt HWST hF KF KC KP HP HPL hk
            go_wp2_with fail
            refine (HWW.out _ rfl).mono ?_
            rintro e w9 ⟨rfl, B9⟩
            go_wp2_with fail
            refine (iWorstV _ [] w9 (no_checks w9) (by show 0 ≤ 1048576; omega)).mono ?_
            rintro e w10 ⟨rfl, b10⟩
            have B10 := B9.trans (b10.mono B9.size)
            have hwn : worstF 0 [] = 0 := rfl
            rw [hwn]
            go_wp2_with fail
            go_ret
            exact ⟨rfl, B10⟩
      · have hy1 : yb = false := by rw [HY.out.1, decide_eq_false u2]; simp
        have hy2 : (Y.st == 2) = false := by rw [← HY.out.2, hy1]
        subst hy1
        clear HY
        go_upto_region 11 with fail
        clear hy2 u1 u2
        clear c1 c2 PY
        have HM : Hid (∀ V, V = V6.alloc (.cells #[.slice pa pn pc, .int .i64 P.ttl, .int .i64 P.most, .int .i64 P.st, .int .i64 P.age, .int .i64 P.fails] 24 (0, 0)) → Ext V6 V ∧ V.heap[V6.heap.size]? = some (.cells #[.slice pa pn pc, .int .i64 P.ttl, .int .i64 P.most, .int .i64 P.st, .int .i64 P.age, .int .i64 P.fails] 24 (0, 0))) := fun V hV => by subst hV; exact ⟨hE _ _, heap_alloc_new _ _⟩
        go_upto_region 12 with fail
        generalize hV : V6.alloc _ = V7
        obtain ⟨XV, PV⟩ := HM.out V7 hV.symm
        clear hV HM
        have KF0 := hideR (⟨PV, KP9.out.own.ext XV⟩ : KB w V6.heap.size P pa pn pc V7)
        have KC10 := hideR (KC9.out.ext XV)
        have KP10 := hideR (KP9.out.ext XV)
        have B10 := hideR (B9.out.trans ((ext_bel XV).mono B9.out.size))
        have HPF := hideR (KP9.out.lt)
        have HCF := hideR (KC9.out.lt)
        have HWF := hideR (B9.out.size)
        clear p0 p1 p2 p3 p4 p5 XV PV KC9 KP9 B9
        generalize V6.heap.size = bf at *
        go_wp2
        go_loopw [12] (fun i wr => ∃ (k : Nat) (F : DChk) (fa : Option Addr) (fn fc : Nat), (k : Int) ≤ C.most ∧ i = .int .i64 k ∧ Hid (F = fI C k) ∧ Hid (KB w bf F fa fn fc wr) ∧ Hid (KB w bc C ca cn cc wr) ∧ Hid (KB w bp P pa pn pc wr) ∧ Hid (Below w.heap.size w wr)) (fun i _ => (C.most - intOf i).toNat)
        case atStart => exact ⟨0, P, pa, pn, pc, by have := chkB_num HCC.out; omega, rfl, HP.out, KF0, KC10, KP10, B10⟩
        case round =>
          obtain ⟨k, F, fa, fn, fc, hk, rfl, hF, KF, KC, KP, hB⟩ := hrel
          clear KF0 KC10 KP10 B10
          obtain ⟨_, _, c2, _, _, _⟩ := cells6 KC.out.box
          obtain ⟨f0, f1, f2, f3, f4, f5⟩ := cells6 KF.out.box
          by_cases hlt : (k : Int) < C.most
          · have hst : (F.st == 2) = false := by rw [hF.out]; exact fI_low k hlt
            have HFL : Hid (F.name.length ≤ 1048576) := by show _ ≤ _; rw [hF.out]; exact HL.out
            have hmk : C.most ≤ 5 := (chkB_num HCC.out).2.2.2.1
            have hw : IntKind.i64.wrap ((k : Int) + 1) = (k : Int) + 1 := by rw [IntKind.wrap_i64]; omega
            have HK := hideR hlt
            go_wp2_with fail
            refine (iCheckFailV _ F wr KF.out.v HFL.out).mono ?_
            rintro e w8 ⟨tv, rfl, o8, b8⟩
            obtain ⟨⟨F2, fb⟩, hF2⟩ : ∃ R, R = failPD F := ⟨_, rfl⟩
            rw [← hF2] at o8 ⊢
            have HF2 : Hid (F2 = fI C (k + 1)) := by
              show _ = _
              rw [← fI_next HCC.out k HK.out, ← hF.out, ← hF2]
            simp only at o8 ⊢
            obtain ⟨ga, gc, htv⟩ := o8.shape
            obtain ⟨gn, hgn⟩ : ∃ gn, gn = F2.name.length := ⟨_, rfl⟩
            rw [← hgn] at htv
            subst htv
            have HY := hideR (KF.out.lay (ext_below b8) o8 hB.out.size)
            have KB8 := hideR ((KF.out.ext (ext_below b8)).box)
            have KC8 := hideR ((KC.out.ext (ext_below b8)).off HY.out.2 (by have := HCF.out; omega) KB8.out)
            have KP8 := hideR ((KP.out.ext (ext_below b8)).off HY.out.2 (by have := HPF.out; omega) KB8.out)
            have B8 := hideR ((hB.out.trans (b8.mono hB.out.size)).grown HY.out.2 (Nat.le_trans hB.out.size b8.size) (fun k hk => by cases hk; exact HWF.out))
            have HY1 := hideR HY.out.1
            obtain ⟨y0, y1, y2, y3, y4, y5⟩ := cells6 KB8.out
            have ff0 := (at_block KB8.out 0 _ rfl).2
            have ff1 := (at_block KB8.out 1 _ rfl).2
            have ff2 := (at_block KB8.out 2 _ rfl).2
            have ff3 := (at_block KB8.out 3 _ rfl).2
            have ff4 := (at_block KB8.out 4 _ rfl).2
            have ff5 := (at_block KB8.out 5 _ rfl).2
            clear c2 f0 f1 f2 f3 f4 f5 hst KF KC KP hB KB8 HY o8 b8 hF2 hgn hlt
            go_wp2
            go_roundw
            case rel => exact ⟨k + 1, F2, ga, gn, gc, by have := HK.out; omega, by go_num, HF2, HY1, KC8, KP8, B8⟩
            case measure => have := HK.out; simp [intOf]; omega
          · have hkm : (k : Int) = C.most := by omega
            have hst2 : F.st = 2 := by rw [hF.out]; exact fI_top HCC.out k hkm
            have hst : (F.st == 2) = true := by rw [hst2]; rfl
            obtain ⟨q0, q1, q2, q3, q4, q5⟩ := cells6 KP.out.box
            have hlt' : decide ((k : Int) < C.most) = false := decide_eq_false hlt
            have HWST : Hid (worstF 0 [P, F] = 2) := worst_two (by rw [HP.out]; exact fI_ok HCC.out 0 (by omega)) (by rw [hF.out]; exact fI_ok HCC.out k (by omega)) (by rw [HP.out]; rfl) hst2
            have HWW : Hid (∀ U, U = wr.alloc (.cells #[.slice pa pn pc, .int .i64 P.ttl, .int .i64 P.most, .int .i64 P.st, .int .i64 P.age, .int .i64 P.fails, .slice fa fn fc, .int .i64 F.ttl, .int .i64 F.most, .int .i64 F.st, .int .i64 F.age, .int .i64 F.fails] 24) → Calls Try.prog 11 #[.slice (some ⟨wr.heap.size, 0, none⟩) 2 2] U fun e w' => e = .returned (.int .i64 2) ∧ Below w.heap.size w w') := fun U hU => by
              have V := two_checks KP.out KF.out
              rw [← hU] at V
              have BU : Below w.heap.size w U := by rw [hU]; exact hB.out.alloc hB.out.size _
              exact (iWorstV _ [P, F] U V (by show 2 ≤ 1048576; omega)).mono fun e w' ⟨h1, h2⟩ => ⟨by rw [h1, HWST.out], BU.trans (h2.mono BU.size)⟩
            clear hst2 hkm hlt HWST hF KF KC KP HP HPL hk
            go_wp2_with fail
            refine (HWW.out _ rfl).mono ?_
            rintro e w9 ⟨rfl, B9⟩
            go_wp2_with fail
            refine (iWorstV _ [] w9 (no_checks w9) (by show 0 ≤ 1048576; omega)).mono ?_
            rintro e w10 ⟨rfl, b10⟩
            have B10 := B9.trans (b10.mono B9.size)
            have hwn : worstF 0 [] = 0 := rfl
            rw [hwn]
            go_wp2_with fail
            go_ret
            exact ⟨rfl, B10⟩
    · have hy1 : yb = false := by rw [HY.out.1, decide_eq_false u1]; rfl
      have hy2 : (Y.st == 2) = false := by rw [← HY.out.2, hy1]
      subst hy1
      clear HY
      go_upto_region 11 with fail
      clear hy2 u1
      clear c1 c2 PY
      have HM : Hid (∀ V, V = V6.alloc (.cells #[.slice pa pn pc, .int .i64 P.ttl, .int .i64 P.most, .int .i64 P.st, .int .i64 P.age, .int .i64 P.fails] 24 (0, 0)) → Ext V6 V ∧ V.heap[V6.heap.size]? = some (.cells #[.slice pa pn pc, .int .i64 P.ttl, .int .i64 P.most, .int .i64 P.st, .int .i64 P.age, .int .i64 P.fails] 24 (0, 0))) := fun V hV => by subst hV; exact ⟨hE _ _, heap_alloc_new _ _⟩
      go_upto_region 12 with fail
      generalize hV : V6.alloc _ = V7
      obtain ⟨XV, PV⟩ := HM.out V7 hV.symm
      clear hV HM
      have KF0 := hideR (⟨PV, KP9.out.own.ext XV⟩ : KB w V6.heap.size P pa pn pc V7)
      have KC10 := hideR (KC9.out.ext XV)
      have KP10 := hideR (KP9.out.ext XV)
      have B10 := hideR (B9.out.trans ((ext_bel XV).mono B9.out.size))
      have HPF := hideR (KP9.out.lt)
      have HCF := hideR (KC9.out.lt)
      have HWF := hideR (B9.out.size)
      clear p0 p1 p2 p3 p4 p5 XV PV KC9 KP9 B9
      generalize V6.heap.size = bf at *
      go_wp2
      go_loopw [12] (fun i wr => ∃ (k : Nat) (F : DChk) (fa : Option Addr) (fn fc : Nat), (k : Int) ≤ C.most ∧ i = .int .i64 k ∧ Hid (F = fI C k) ∧ Hid (KB w bf F fa fn fc wr) ∧ Hid (KB w bc C ca cn cc wr) ∧ Hid (KB w bp P pa pn pc wr) ∧ Hid (Below w.heap.size w wr)) (fun i _ => (C.most - intOf i).toNat)
      case atStart => exact ⟨0, P, pa, pn, pc, by have := chkB_num HCC.out; omega, rfl, HP.out, KF0, KC10, KP10, B10⟩
      case round =>
        obtain ⟨k, F, fa, fn, fc, hk, rfl, hF, KF, KC, KP, hB⟩ := hrel
        clear KF0 KC10 KP10 B10
        obtain ⟨_, _, c2, _, _, _⟩ := cells6 KC.out.box
        obtain ⟨f0, f1, f2, f3, f4, f5⟩ := cells6 KF.out.box
        by_cases hlt : (k : Int) < C.most
        · have hst : (F.st == 2) = false := by rw [hF.out]; exact fI_low k hlt
          have HFL : Hid (F.name.length ≤ 1048576) := by show _ ≤ _; rw [hF.out]; exact HL.out
          have hmk : C.most ≤ 5 := (chkB_num HCC.out).2.2.2.1
          have hw : IntKind.i64.wrap ((k : Int) + 1) = (k : Int) + 1 := by rw [IntKind.wrap_i64]; omega
          have HK := hideR hlt
          go_wp2_with fail
          refine (iCheckFailV _ F wr KF.out.v HFL.out).mono ?_
          rintro e w8 ⟨tv, rfl, o8, b8⟩
          obtain ⟨⟨F2, fb⟩, hF2⟩ : ∃ R, R = failPD F := ⟨_, rfl⟩
          rw [← hF2] at o8 ⊢
          have HF2 : Hid (F2 = fI C (k + 1)) := by
            show _ = _
            rw [← fI_next HCC.out k HK.out, ← hF.out, ← hF2]
          simp only at o8 ⊢
          obtain ⟨ga, gc, htv⟩ := o8.shape
          obtain ⟨gn, hgn⟩ : ∃ gn, gn = F2.name.length := ⟨_, rfl⟩
          rw [← hgn] at htv
          subst htv
          have HY := hideR (KF.out.lay (ext_below b8) o8 hB.out.size)
          have KB8 := hideR ((KF.out.ext (ext_below b8)).box)
          have KC8 := hideR ((KC.out.ext (ext_below b8)).off HY.out.2 (by have := HCF.out; omega) KB8.out)
          have KP8 := hideR ((KP.out.ext (ext_below b8)).off HY.out.2 (by have := HPF.out; omega) KB8.out)
          have B8 := hideR ((hB.out.trans (b8.mono hB.out.size)).grown HY.out.2 (Nat.le_trans hB.out.size b8.size) (fun k hk => by cases hk; exact HWF.out))
          have HY1 := hideR HY.out.1
          obtain ⟨y0, y1, y2, y3, y4, y5⟩ := cells6 KB8.out
          have ff0 := (at_block KB8.out 0 _ rfl).2
          have ff1 := (at_block KB8.out 1 _ rfl).2
          have ff2 := (at_block KB8.out 2 _ rfl).2
          have ff3 := (at_block KB8.out 3 _ rfl).2
          have ff4 := (at_block KB8.out 4 _ rfl).2
          have ff5 := (at_block KB8.out 5 _ rfl).2
          clear c2 f0 f1 f2 f3 f4 f5 hst KF KC KP hB KB8 HY o8 b8 hF2 hgn hlt
          go_wp2
          go_roundw
          case rel => exact ⟨k + 1, F2, ga, gn, gc, by have := HK.out; omega, by go_num, HF2, HY1, KC8, KP8, B8⟩
          case measure => have := HK.out; simp [intOf]; omega
        · have hkm : (k : Int) = C.most := by omega
          have hst2 : F.st = 2 := by rw [hF.out]; exact fI_top HCC.out k hkm
          have hst : (F.st == 2) = true := by rw [hst2]; rfl
          obtain ⟨q0, q1, q2, q3, q4, q5⟩ := cells6 KP.out.box
          have hlt' : decide ((k : Int) < C.most) = false := decide_eq_false hlt
          have HWST : Hid (worstF 0 [P, F] = 2) := worst_two (by rw [HP.out]; exact fI_ok HCC.out 0 (by omega)) (by rw [hF.out]; exact fI_ok HCC.out k (by omega)) (by rw [HP.out]; rfl) hst2
          have HWW : Hid (∀ U, U = wr.alloc (.cells #[.slice pa pn pc, .int .i64 P.ttl, .int .i64 P.most, .int .i64 P.st, .int .i64 P.age, .int .i64 P.fails, .slice fa fn fc, .int .i64 F.ttl, .int .i64 F.most, .int .i64 F.st, .int .i64 F.age, .int .i64 F.fails] 24) → Calls Try.prog 11 #[.slice (some ⟨wr.heap.size, 0, none⟩) 2 2] U fun e w' => e = .returned (.int .i64 2) ∧ Below w.heap.size w w') := fun U hU => by
            have V := two_checks KP.out KF.out
            rw [← hU] at V
            have BU : Below w.heap.size w U := by rw [hU]; exact hB.out.alloc hB.out.size _
            exact (iWorstV _ [P, F] U V (by show 2 ≤ 1048576; omega)).mono fun e w' ⟨h1, h2⟩ => ⟨by rw [h1, HWST.out], BU.trans (h2.mono BU.size)⟩
          clear hst2 hkm hlt HWST hF KF KC KP HP HPL hk
          go_wp2_with fail
          refine (HWW.out _ rfl).mono ?_
          rintro e w9 ⟨rfl, B9⟩
          go_wp2_with fail
          refine (iWorstV _ [] w9 (no_checks w9) (by show 0 ≤ 1048576; omega)).mono ?_
          rintro e w10 ⟨rfl, b10⟩
          have B10 := B9.trans (b10.mono B9.size)
          have hwn : worstF 0 [] = 0 := rfl
          rw [hwn]
          go_wp2_with fail
          go_ret
          exact ⟨rfl, B10⟩
  · obtain ⟨t1, t2⟩ := HTELL.out rfl
    clear HTELL HXD
    go_upto_region 8 with fail
    clear t1 t2
    clear p0 p1 p2 p3 p4 p5 y3 c1 c2 c3 hp0 KX7 HXOK HXN HXL
    obtain ⟨p0, p1, p2, p3, p4, p5⟩ := cells6 KP7.out.box
    go_wp2_with fail
    refine (iCheckTickV _ P q w5 KP7.out.v HPL.out HQ.out.1 HQ.out.2).mono ?_
    rintro e w6 ⟨tv, rfl, o6, b6⟩
    obtain ⟨⟨Y, yb⟩, hY⟩ : ∃ R, R = tickPD P q := ⟨_, rfl⟩
    rw [← hY] at o6 ⊢
    have HY : Hid (yb = (decide (0 < C.ttl) && decide (C.ttl ≤ q)) ∧ yb = (Y.st == 2)) := by
      have h1 := HTK.out
      have h2 := HPD.out
      rw [← hY, HP.out, fI_zero] at h2
      rw [← h2] at h1
      exact h1
    simp only at o6 ⊢
    obtain ⟨ya, yc, htv⟩ := o6.shape
    obtain ⟨yn, hyn⟩ : ∃ yn, yn = Y.name.length := ⟨_, rfl⟩
    rw [← hyn] at htv
    subst htv
    have KC8 := hideR (KC7.out.ext (ext_below b6))
    have KP8 := hideR (KP7.out.ext (ext_below b6))
    have B8 := hideR (B7.out.trans (b6.mono B7.out.size))
    clear p0 p1 p2 p3 p4 p5 KC7 KP7 B7 b6 o6 hY hyn
    have HM : Hid (∀ V, V = w6.alloc (.cells #[.slice ya yn yc, .int .i64 Y.ttl, .int .i64 Y.most, .int .i64 Y.st, .int .i64 Y.age, .int .i64 Y.fails] 24 (0, 0)) → Ext w6 V ∧ V.heap[w6.heap.size]? = some (.cells #[.slice ya yn yc, .int .i64 Y.ttl, .int .i64 Y.most, .int .i64 Y.st, .int .i64 Y.age, .int .i64 Y.fails] 24 (0, 0))) := fun V hV => by subst hV; exact ⟨hE _ _, heap_alloc_new _ _⟩
    go_upto_region 9 with fail
    generalize hV : w6.alloc _ = V6
    obtain ⟨XV, PV⟩ := HM.out V6 hV.symm
    clear hV HM
    have KC9 := hideR (KC8.out.ext XV)
    have KP9 := hideR (KP8.out.ext XV)
    have B9 := hideR (B8.out.trans ((ext_bel XV).mono B8.out.size))
    have PY := (cells6 PV).2.2.2.1
    have HPB := hideR (KP8.out.lt)
    clear XV PV KC8 KP8 B8
    generalize w6.heap.size = by9 at *
    obtain ⟨_, c1, c2, _, _, _⟩ := cells6 KC9.out.box
    obtain ⟨p0, p1, p2, p3, p4, p5⟩ := cells6 KP9.out.box
    by_cases u1 : 0 < C.ttl
    · by_cases u2 : C.ttl ≤ q
      · have hy1 : yb = true := by rw [HY.out.1, decide_eq_true u1, decide_eq_true u2]; rfl
        have hy2 : (Y.st == 2) = true := by rw [← HY.out.2, hy1]
        subst hy1
        clear HY
        go_upto_region 11 with fail
        clear hy2 u1 u2
        clear c1 c2 PY
        have HM : Hid (∀ V, V = V6.alloc (.cells #[.slice pa pn pc, .int .i64 P.ttl, .int .i64 P.most, .int .i64 P.st, .int .i64 P.age, .int .i64 P.fails] 24 (0, 0)) → Ext V6 V ∧ V.heap[V6.heap.size]? = some (.cells #[.slice pa pn pc, .int .i64 P.ttl, .int .i64 P.most, .int .i64 P.st, .int .i64 P.age, .int .i64 P.fails] 24 (0, 0))) := fun V hV => by subst hV; exact ⟨hE _ _, heap_alloc_new _ _⟩
        go_upto_region 12 with fail
        generalize hV : V6.alloc _ = V7
        obtain ⟨XV, PV⟩ := HM.out V7 hV.symm
        clear hV HM
        have KF0 := hideR (⟨PV, KP9.out.own.ext XV⟩ : KB w V6.heap.size P pa pn pc V7)
        have KC10 := hideR (KC9.out.ext XV)
        have KP10 := hideR (KP9.out.ext XV)
        have B10 := hideR (B9.out.trans ((ext_bel XV).mono B9.out.size))
        have HPF := hideR (KP9.out.lt)
        have HCF := hideR (KC9.out.lt)
        have HWF := hideR (B9.out.size)
        clear p0 p1 p2 p3 p4 p5 XV PV KC9 KP9 B9
        generalize V6.heap.size = bf at *
        go_wp2
        go_loopw [12] (fun i wr => ∃ (k : Nat) (F : DChk) (fa : Option Addr) (fn fc : Nat), (k : Int) ≤ C.most ∧ i = .int .i64 k ∧ Hid (F = fI C k) ∧ Hid (KB w bf F fa fn fc wr) ∧ Hid (KB w bc C ca cn cc wr) ∧ Hid (KB w bp P pa pn pc wr) ∧ Hid (Below w.heap.size w wr)) (fun i _ => (C.most - intOf i).toNat)
        case atStart => exact ⟨0, P, pa, pn, pc, by have := chkB_num HCC.out; omega, rfl, HP.out, KF0, KC10, KP10, B10⟩
        case round =>
          obtain ⟨k, F, fa, fn, fc, hk, rfl, hF, KF, KC, KP, hB⟩ := hrel
          clear KF0 KC10 KP10 B10
          obtain ⟨_, _, c2, _, _, _⟩ := cells6 KC.out.box
          obtain ⟨f0, f1, f2, f3, f4, f5⟩ := cells6 KF.out.box
          by_cases hlt : (k : Int) < C.most
          · have hst : (F.st == 2) = false := by rw [hF.out]; exact fI_low k hlt
            have HFL : Hid (F.name.length ≤ 1048576) := by show _ ≤ _; rw [hF.out]; exact HL.out
            have hmk : C.most ≤ 5 := (chkB_num HCC.out).2.2.2.1
            have hw : IntKind.i64.wrap ((k : Int) + 1) = (k : Int) + 1 := by rw [IntKind.wrap_i64]; omega
            have HK := hideR hlt
            go_wp2_with fail
            refine (iCheckFailV _ F wr KF.out.v HFL.out).mono ?_
            rintro e w8 ⟨tv, rfl, o8, b8⟩
            obtain ⟨⟨F2, fb⟩, hF2⟩ : ∃ R, R = failPD F := ⟨_, rfl⟩
            rw [← hF2] at o8 ⊢
            have HF2 : Hid (F2 = fI C (k + 1)) := by
              show _ = _
              rw [← fI_next HCC.out k HK.out, ← hF.out, ← hF2]
            simp only at o8 ⊢
            obtain ⟨ga, gc, htv⟩ := o8.shape
            obtain ⟨gn, hgn⟩ : ∃ gn, gn = F2.name.length := ⟨_, rfl⟩
            rw [← hgn] at htv
            subst htv
            have HY := hideR (KF.out.lay (ext_below b8) o8 hB.out.size)
            have KB8 := hideR ((KF.out.ext (ext_below b8)).box)
            have KC8 := hideR ((KC.out.ext (ext_below b8)).off HY.out.2 (by have := HCF.out; omega) KB8.out)
            have KP8 := hideR ((KP.out.ext (ext_below b8)).off HY.out.2 (by have := HPF.out; omega) KB8.out)
            have B8 := hideR ((hB.out.trans (b8.mono hB.out.size)).grown HY.out.2 (Nat.le_trans hB.out.size b8.size) (fun k hk => by cases hk; exact HWF.out))
            have HY1 := hideR HY.out.1
            obtain ⟨y0, y1, y2, y3, y4, y5⟩ := cells6 KB8.out
            have ff0 := (at_block KB8.out 0 _ rfl).2
            have ff1 := (at_block KB8.out 1 _ rfl).2
            have ff2 := (at_block KB8.out 2 _ rfl).2
            have ff3 := (at_block KB8.out 3 _ rfl).2
            have ff4 := (at_block KB8.out 4 _ rfl).2
            have ff5 := (at_block KB8.out 5 _ rfl).2
            clear c2 f0 f1 f2 f3 f4 f5 hst KF KC KP hB KB8 HY o8 b8 hF2 hgn hlt
            go_wp2
            go_roundw
            case rel => exact ⟨k + 1, F2, ga, gn, gc, by have := HK.out; omega, by go_num, HF2, HY1, KC8, KP8, B8⟩
            case measure => have := HK.out; simp [intOf]; omega
          · have hkm : (k : Int) = C.most := by omega
            have hst2 : F.st = 2 := by rw [hF.out]; exact fI_top HCC.out k hkm
            have hst : (F.st == 2) = true := by rw [hst2]; rfl
            obtain ⟨q0, q1, q2, q3, q4, q5⟩ := cells6 KP.out.box
            have hlt' : decide ((k : Int) < C.most) = false := decide_eq_false hlt
            have HWST : Hid (worstF 0 [P, F] = 2) := worst_two (by rw [HP.out]; exact fI_ok HCC.out 0 (by omega)) (by rw [hF.out]; exact fI_ok HCC.out k (by omega)) (by rw [HP.out]; rfl) hst2
            have HWW : Hid (∀ U, U = wr.alloc (.cells #[.slice pa pn pc, .int .i64 P.ttl, .int .i64 P.most, .int .i64 P.st, .int .i64 P.age, .int .i64 P.fails, .slice fa fn fc, .int .i64 F.ttl, .int .i64 F.most, .int .i64 F.st, .int .i64 F.age, .int .i64 F.fails] 24) → Calls Try.prog 11 #[.slice (some ⟨wr.heap.size, 0, none⟩) 2 2] U fun e w' => e = .returned (.int .i64 2) ∧ Below w.heap.size w w') := fun U hU => by
              have V := two_checks KP.out KF.out
              rw [← hU] at V
              have BU : Below w.heap.size w U := by rw [hU]; exact hB.out.alloc hB.out.size _
              exact (iWorstV _ [P, F] U V (by show 2 ≤ 1048576; omega)).mono fun e w' ⟨h1, h2⟩ => ⟨by rw [h1, HWST.out], BU.trans (h2.mono BU.size)⟩
            clear hst2 hkm hlt HWST hF KF KC KP HP HPL hk
            go_wp2_with fail
            refine (HWW.out _ rfl).mono ?_
            rintro e w9 ⟨rfl, B9⟩
            go_wp2_with fail
            refine (iWorstV _ [] w9 (no_checks w9) (by show 0 ≤ 1048576; omega)).mono ?_
            rintro e w10 ⟨rfl, b10⟩
            have B10 := B9.trans (b10.mono B9.size)
            have hwn : worstF 0 [] = 0 := rfl
            rw [hwn]
            go_wp2_with fail
            go_ret
            exact ⟨rfl, B10⟩
      · have hy1 : yb = false := by rw [HY.out.1, decide_eq_false u2]; simp
        have hy2 : (Y.st == 2) = false := by rw [← HY.out.2, hy1]
        subst hy1
        clear HY
        go_upto_region 11 with fail
        clear hy2 u1 u2
        clear c1 c2 PY
        have HM : Hid (∀ V, V = V6.alloc (.cells #[.slice pa pn pc, .int .i64 P.ttl, .int .i64 P.most, .int .i64 P.st, .int .i64 P.age, .int .i64 P.fails] 24 (0, 0)) → Ext V6 V ∧ V.heap[V6.heap.size]? = some (.cells #[.slice pa pn pc, .int .i64 P.ttl, .int .i64 P.most, .int .i64 P.st, .int .i64 P.age, .int .i64 P.fails] 24 (0, 0))) := fun V hV => by subst hV; exact ⟨hE _ _, heap_alloc_new _ _⟩
        go_upto_region 12 with fail
        generalize hV : V6.alloc _ = V7
        obtain ⟨XV, PV⟩ := HM.out V7 hV.symm
        clear hV HM
        have KF0 := hideR (⟨PV, KP9.out.own.ext XV⟩ : KB w V6.heap.size P pa pn pc V7)
        have KC10 := hideR (KC9.out.ext XV)
        have KP10 := hideR (KP9.out.ext XV)
        have B10 := hideR (B9.out.trans ((ext_bel XV).mono B9.out.size))
        have HPF := hideR (KP9.out.lt)
        have HCF := hideR (KC9.out.lt)
        have HWF := hideR (B9.out.size)
        clear p0 p1 p2 p3 p4 p5 XV PV KC9 KP9 B9
        generalize V6.heap.size = bf at *
        go_wp2
        go_loopw [12] (fun i wr => ∃ (k : Nat) (F : DChk) (fa : Option Addr) (fn fc : Nat), (k : Int) ≤ C.most ∧ i = .int .i64 k ∧ Hid (F = fI C k) ∧ Hid (KB w bf F fa fn fc wr) ∧ Hid (KB w bc C ca cn cc wr) ∧ Hid (KB w bp P pa pn pc wr) ∧ Hid (Below w.heap.size w wr)) (fun i _ => (C.most - intOf i).toNat)
        case atStart => exact ⟨0, P, pa, pn, pc, by have := chkB_num HCC.out; omega, rfl, HP.out, KF0, KC10, KP10, B10⟩
        case round =>
          obtain ⟨k, F, fa, fn, fc, hk, rfl, hF, KF, KC, KP, hB⟩ := hrel
          clear KF0 KC10 KP10 B10
          obtain ⟨_, _, c2, _, _, _⟩ := cells6 KC.out.box
          obtain ⟨f0, f1, f2, f3, f4, f5⟩ := cells6 KF.out.box
          by_cases hlt : (k : Int) < C.most
          · have hst : (F.st == 2) = false := by rw [hF.out]; exact fI_low k hlt
            have HFL : Hid (F.name.length ≤ 1048576) := by show _ ≤ _; rw [hF.out]; exact HL.out
            have hmk : C.most ≤ 5 := (chkB_num HCC.out).2.2.2.1
            have hw : IntKind.i64.wrap ((k : Int) + 1) = (k : Int) + 1 := by rw [IntKind.wrap_i64]; omega
            have HK := hideR hlt
            go_wp2_with fail
            refine (iCheckFailV _ F wr KF.out.v HFL.out).mono ?_
            rintro e w8 ⟨tv, rfl, o8, b8⟩
            obtain ⟨⟨F2, fb⟩, hF2⟩ : ∃ R, R = failPD F := ⟨_, rfl⟩
            rw [← hF2] at o8 ⊢
            have HF2 : Hid (F2 = fI C (k + 1)) := by
              show _ = _
              rw [← fI_next HCC.out k HK.out, ← hF.out, ← hF2]
            simp only at o8 ⊢
            obtain ⟨ga, gc, htv⟩ := o8.shape
            obtain ⟨gn, hgn⟩ : ∃ gn, gn = F2.name.length := ⟨_, rfl⟩
            rw [← hgn] at htv
            subst htv
            have HY := hideR (KF.out.lay (ext_below b8) o8 hB.out.size)
            have KB8 := hideR ((KF.out.ext (ext_below b8)).box)
            have KC8 := hideR ((KC.out.ext (ext_below b8)).off HY.out.2 (by have := HCF.out; omega) KB8.out)
            have KP8 := hideR ((KP.out.ext (ext_below b8)).off HY.out.2 (by have := HPF.out; omega) KB8.out)
            have B8 := hideR ((hB.out.trans (b8.mono hB.out.size)).grown HY.out.2 (Nat.le_trans hB.out.size b8.size) (fun k hk => by cases hk; exact HWF.out))
            have HY1 := hideR HY.out.1
            obtain ⟨y0, y1, y2, y3, y4, y5⟩ := cells6 KB8.out
            have ff0 := (at_block KB8.out 0 _ rfl).2
            have ff1 := (at_block KB8.out 1 _ rfl).2
            have ff2 := (at_block KB8.out 2 _ rfl).2
            have ff3 := (at_block KB8.out 3 _ rfl).2
            have ff4 := (at_block KB8.out 4 _ rfl).2
            have ff5 := (at_block KB8.out 5 _ rfl).2
            clear c2 f0 f1 f2 f3 f4 f5 hst KF KC KP hB KB8 HY o8 b8 hF2 hgn hlt
            go_wp2
            go_roundw
            case rel => exact ⟨k + 1, F2, ga, gn, gc, by have := HK.out; omega, by go_num, HF2, HY1, KC8, KP8, B8⟩
            case measure => have := HK.out; simp [intOf]; omega
          · have hkm : (k : Int) = C.most := by omega
            have hst2 : F.st = 2 := by rw [hF.out]; exact fI_top HCC.out k hkm
            have hst : (F.st == 2) = true := by rw [hst2]; rfl
            obtain ⟨q0, q1, q2, q3, q4, q5⟩ := cells6 KP.out.box
            have hlt' : decide ((k : Int) < C.most) = false := decide_eq_false hlt
            have HWST : Hid (worstF 0 [P, F] = 2) := worst_two (by rw [HP.out]; exact fI_ok HCC.out 0 (by omega)) (by rw [hF.out]; exact fI_ok HCC.out k (by omega)) (by rw [HP.out]; rfl) hst2
            have HWW : Hid (∀ U, U = wr.alloc (.cells #[.slice pa pn pc, .int .i64 P.ttl, .int .i64 P.most, .int .i64 P.st, .int .i64 P.age, .int .i64 P.fails, .slice fa fn fc, .int .i64 F.ttl, .int .i64 F.most, .int .i64 F.st, .int .i64 F.age, .int .i64 F.fails] 24) → Calls Try.prog 11 #[.slice (some ⟨wr.heap.size, 0, none⟩) 2 2] U fun e w' => e = .returned (.int .i64 2) ∧ Below w.heap.size w w') := fun U hU => by
              have V := two_checks KP.out KF.out
              rw [← hU] at V
              have BU : Below w.heap.size w U := by rw [hU]; exact hB.out.alloc hB.out.size _
              exact (iWorstV _ [P, F] U V (by show 2 ≤ 1048576; omega)).mono fun e w' ⟨h1, h2⟩ => ⟨by rw [h1, HWST.out], BU.trans (h2.mono BU.size)⟩
            clear hst2 hkm hlt HWST hF KF KC KP HP HPL hk
            go_wp2_with fail
            refine (HWW.out _ rfl).mono ?_
            rintro e w9 ⟨rfl, B9⟩
            go_wp2_with fail
            refine (iWorstV _ [] w9 (no_checks w9) (by show 0 ≤ 1048576; omega)).mono ?_
            rintro e w10 ⟨rfl, b10⟩
            have B10 := B9.trans (b10.mono B9.size)
            have hwn : worstF 0 [] = 0 := rfl
            rw [hwn]
            go_wp2_with fail
            go_ret
            exact ⟨rfl, B10⟩
    · have hy1 : yb = false := by rw [HY.out.1, decide_eq_false u1]; rfl
      have hy2 : (Y.st == 2) = false := by rw [← HY.out.2, hy1]
      subst hy1
      clear HY
      go_upto_region 11 with fail
      clear hy2 u1
      clear c1 c2 PY
      have HM : Hid (∀ V, V = V6.alloc (.cells #[.slice pa pn pc, .int .i64 P.ttl, .int .i64 P.most, .int .i64 P.st, .int .i64 P.age, .int .i64 P.fails] 24 (0, 0)) → Ext V6 V ∧ V.heap[V6.heap.size]? = some (.cells #[.slice pa pn pc, .int .i64 P.ttl, .int .i64 P.most, .int .i64 P.st, .int .i64 P.age, .int .i64 P.fails] 24 (0, 0))) := fun V hV => by subst hV; exact ⟨hE _ _, heap_alloc_new _ _⟩
      go_upto_region 12 with fail
      generalize hV : V6.alloc _ = V7
      obtain ⟨XV, PV⟩ := HM.out V7 hV.symm
      clear hV HM
      have KF0 := hideR (⟨PV, KP9.out.own.ext XV⟩ : KB w V6.heap.size P pa pn pc V7)
      have KC10 := hideR (KC9.out.ext XV)
      have KP10 := hideR (KP9.out.ext XV)
      have B10 := hideR (B9.out.trans ((ext_bel XV).mono B9.out.size))
      have HPF := hideR (KP9.out.lt)
      have HCF := hideR (KC9.out.lt)
      have HWF := hideR (B9.out.size)
      clear p0 p1 p2 p3 p4 p5 XV PV KC9 KP9 B9
      generalize V6.heap.size = bf at *
      go_wp2
      go_loopw [12] (fun i wr => ∃ (k : Nat) (F : DChk) (fa : Option Addr) (fn fc : Nat), (k : Int) ≤ C.most ∧ i = .int .i64 k ∧ Hid (F = fI C k) ∧ Hid (KB w bf F fa fn fc wr) ∧ Hid (KB w bc C ca cn cc wr) ∧ Hid (KB w bp P pa pn pc wr) ∧ Hid (Below w.heap.size w wr)) (fun i _ => (C.most - intOf i).toNat)
      case atStart => exact ⟨0, P, pa, pn, pc, by have := chkB_num HCC.out; omega, rfl, HP.out, KF0, KC10, KP10, B10⟩
      case round =>
        obtain ⟨k, F, fa, fn, fc, hk, rfl, hF, KF, KC, KP, hB⟩ := hrel
        clear KF0 KC10 KP10 B10
        obtain ⟨_, _, c2, _, _, _⟩ := cells6 KC.out.box
        obtain ⟨f0, f1, f2, f3, f4, f5⟩ := cells6 KF.out.box
        by_cases hlt : (k : Int) < C.most
        · have hst : (F.st == 2) = false := by rw [hF.out]; exact fI_low k hlt
          have HFL : Hid (F.name.length ≤ 1048576) := by show _ ≤ _; rw [hF.out]; exact HL.out
          have hmk : C.most ≤ 5 := (chkB_num HCC.out).2.2.2.1
          have hw : IntKind.i64.wrap ((k : Int) + 1) = (k : Int) + 1 := by rw [IntKind.wrap_i64]; omega
          have HK := hideR hlt
          go_wp2_with fail
          refine (iCheckFailV _ F wr KF.out.v HFL.out).mono ?_
          rintro e w8 ⟨tv, rfl, o8, b8⟩
          obtain ⟨⟨F2, fb⟩, hF2⟩ : ∃ R, R = failPD F := ⟨_, rfl⟩
          rw [← hF2] at o8 ⊢
          have HF2 : Hid (F2 = fI C (k + 1)) := by
            show _ = _
            rw [← fI_next HCC.out k HK.out, ← hF.out, ← hF2]
          simp only at o8 ⊢
          obtain ⟨ga, gc, htv⟩ := o8.shape
          obtain ⟨gn, hgn⟩ : ∃ gn, gn = F2.name.length := ⟨_, rfl⟩
          rw [← hgn] at htv
          subst htv
          have HY := hideR (KF.out.lay (ext_below b8) o8 hB.out.size)
          have KB8 := hideR ((KF.out.ext (ext_below b8)).box)
          have KC8 := hideR ((KC.out.ext (ext_below b8)).off HY.out.2 (by have := HCF.out; omega) KB8.out)
          have KP8 := hideR ((KP.out.ext (ext_below b8)).off HY.out.2 (by have := HPF.out; omega) KB8.out)
          have B8 := hideR ((hB.out.trans (b8.mono hB.out.size)).grown HY.out.2 (Nat.le_trans hB.out.size b8.size) (fun k hk => by cases hk; exact HWF.out))
          have HY1 := hideR HY.out.1
          obtain ⟨y0, y1, y2, y3, y4, y5⟩ := cells6 KB8.out
          have ff0 := (at_block KB8.out 0 _ rfl).2
          have ff1 := (at_block KB8.out 1 _ rfl).2
          have ff2 := (at_block KB8.out 2 _ rfl).2
          have ff3 := (at_block KB8.out 3 _ rfl).2
          have ff4 := (at_block KB8.out 4 _ rfl).2
          have ff5 := (at_block KB8.out 5 _ rfl).2
          clear c2 f0 f1 f2 f3 f4 f5 hst KF KC KP hB KB8 HY o8 b8 hF2 hgn hlt
          go_wp2
          go_roundw
          case rel => exact ⟨k + 1, F2, ga, gn, gc, by have := HK.out; omega, by go_num, HF2, HY1, KC8, KP8, B8⟩
          case measure => have := HK.out; simp [intOf]; omega
        · have hkm : (k : Int) = C.most := by omega
          have hst2 : F.st = 2 := by rw [hF.out]; exact fI_top HCC.out k hkm
          have hst : (F.st == 2) = true := by rw [hst2]; rfl
          obtain ⟨q0, q1, q2, q3, q4, q5⟩ := cells6 KP.out.box
          have hlt' : decide ((k : Int) < C.most) = false := decide_eq_false hlt
          have HWST : Hid (worstF 0 [P, F] = 2) := worst_two (by rw [HP.out]; exact fI_ok HCC.out 0 (by omega)) (by rw [hF.out]; exact fI_ok HCC.out k (by omega)) (by rw [HP.out]; rfl) hst2
          have HWW : Hid (∀ U, U = wr.alloc (.cells #[.slice pa pn pc, .int .i64 P.ttl, .int .i64 P.most, .int .i64 P.st, .int .i64 P.age, .int .i64 P.fails, .slice fa fn fc, .int .i64 F.ttl, .int .i64 F.most, .int .i64 F.st, .int .i64 F.age, .int .i64 F.fails] 24) → Calls Try.prog 11 #[.slice (some ⟨wr.heap.size, 0, none⟩) 2 2] U fun e w' => e = .returned (.int .i64 2) ∧ Below w.heap.size w w') := fun U hU => by
            have V := two_checks KP.out KF.out
            rw [← hU] at V
            have BU : Below w.heap.size w U := by rw [hU]; exact hB.out.alloc hB.out.size _
            exact (iWorstV _ [P, F] U V (by show 2 ≤ 1048576; omega)).mono fun e w' ⟨h1, h2⟩ => ⟨by rw [h1, HWST.out], BU.trans (h2.mono BU.size)⟩
          clear hst2 hkm hlt HWST hF KF KC KP HP HPL hk
          go_wp2_with fail
          refine (HWW.out _ rfl).mono ?_
          rintro e w9 ⟨rfl, B9⟩
          go_wp2_with fail
          refine (iWorstV _ [] w9 (no_checks w9) (by show 0 ≤ 1048576; omega)).mono ?_
          rintro e w10 ⟨rfl, b10⟩
          have B10 := B9.trans (b10.mono B9.size)
          have hwn : worstF 0 [] = 0 := rfl
          rw [hwn]
          go_wp2_with fail
          go_ret
          exact ⟨rfl, B10⟩
end Go.Proofs.Ytihlinhfnlfdmaa
