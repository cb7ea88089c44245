
/- CheckTick of the program. -/
import Derived.Test.YtihlinhfnlfdmaaCk6
import Derived.Test.YtihlinhfnlfdmaaCk7o
import Derived.BigQuiet
import Derived.WalkMore
namespace Go.Proofs.Ytihlinhfnlfdmaa
open Go.RowKit

set_option maxRecDepth 20000

set_option maxHeartbeats 4000000 in
theorem iCheckTickV (v : Value) (C : DChk) (n : Int) (w : World) (h : VChk w v C) (hl : C.name.length ≤ 1048576) (hn0 : -9223372036854775808 ≤ n) (hn1 : n ≤ 9223372036854775807) :
    Calls Try.prog 5 #[v, .int .i64 n] w fun e w' => ∃ tv, e = .returned (.tuple #[.agg #[tv, .int .i64 (tickPD C n).1.ttl, .int .i64 (tickPD C n).1.most, .int .i64 (tickPD C n).1.st, .int .i64 (tickPD C n).1.age, .int .i64 (tickPD C n).1.fails], .bool (tickPD C n).2]) ∧ OwB w' w.heap.size tv (tickPD C n).1.name ∧ Below w.heap.size w w' := by
  have hE : ∀ w : World, ∀ o, Ext w (w.alloc o) := fun w o => World.grownBy_alloc _ _ _
  have HT : Hid (VChk w v C) := h
  have HN : Hid (C.name.length ≤ 1048576) := hl
  obtain ⟨ov, rfl, ho⟩ := h
  obtain ⟨oa, cap, rfl⟩ := rv_shape ho
  obtain ⟨R, hR⟩ : ∃ R, R = tickPD C n := ⟨_, rfl⟩
  rw [← hR]
  have HR : Hid (R = tickPD C n) := hR
  obtain ⟨k, hk⟩ : ∃ k, k = C.name.length := ⟨_, rfl⟩
  have HK : Hid (k = C.name.length) := hk
  rw [← hk] at HT ⊢
  clear ho hR hk hl
  go_enter Try.func5, Try.ntmps5
  go_wp2_with fail
  generalize hW : World.alloc (World.alloc w _) _ = W
  have XW : Ext w W := by rw [← hW]; exact (hE _ _).tr (hE _ _)
  have P0 : W.heap[w.heap.size]? = some (.cells #[.slice oa k cap, .int .i64 C.ttl, .int .i64 C.most, .int .i64 C.st, .int .i64 C.age, .int .i64 C.fails] 24 (0, 0)) := by rw [← hW, Below.heap_alloc _ _ _ (by simp)]; exact heap_alloc_new w _
  have P1 : W.heap[w.heap.size + 1]? = some (.cells #[.slice none 0 0, .int .i64 0, .int .i64 0, .int .i64 0, .int .i64 0, .int .i64 0] 24 (0, 0)) := by rw [← hW]; simpa using heap_alloc_new (World.alloc w _) (.cells #[.slice none 0 0, .int .i64 0, .int .i64 0, .int .i64 0, .int .i64 0, .int .i64 0] 24 (0, 0))
  clear hW
  refine (iCheckOkV _ C W (HT.out.ext XW)).mono ?_
  rintro e w1 ⟨rfl, b1⟩
  have X1 : Ext w w1 := XW.tr (ext_below b1)
  have Q0 := ext_blk (ext_below b1) P0
  have Q1 := ext_blk (ext_below b1) P1
  clear P0 P1 b1 XW
  cases hc : chkB C
  · have HZ : Hid (R = (zeroChk, false)) := by show _ = _; rw [HR.out]; unfold tickPD; rw [hc]; rfl
    clear hc
    have QQ := Q1
    obtain ⟨r0, f0⟩ := at_block QQ 0 _ rfl
    obtain ⟨r1, f1⟩ := at_block QQ 1 _ rfl
    obtain ⟨r2, f2⟩ := at_block QQ 2 _ rfl
    obtain ⟨r3, f3⟩ := at_block QQ 3 _ rfl
    obtain ⟨r4, f4⟩ := at_block QQ 4 _ rfl
    obtain ⟨r5, f5⟩ := at_block QQ 5 _ rfl
    obtain ⟨p0, p1, p2, p3, p4, p5⟩ := cells6 Q0
    have HX := ext_bel X1
    clear QQ Q0 Q1 X1
    go_wp2
    refine bodyPost_ret (v := .tuple #[.agg #[.slice none 0 0, .int .i64 0, .int .i64 0, .int .i64 0, .int .i64 0, .int .i64 0], .bool false]) (by simp [results, Try.results5, go_sem, *]) rfl ?_
    rw [HZ.out]
    exact ⟨_, rfl, OwB.nil _ _, chk_below HX (Nat.le_succ _) _ _ _ _ _ _⟩
  by_cases n0 : n < 0
  · have HZ : Hid (R = (zeroChk, false)) := by show _ = _; rw [HR.out]; unfold tickPD; rw [hc, decide_eq_false (by omega : ¬ (0 ≤ n))]; rfl
    have d0 : decide (n < 0) = true := decide_eq_true n0
    clear hc
    have QQ := Q1
    obtain ⟨r0, f0⟩ := at_block QQ 0 _ rfl
    obtain ⟨r1, f1⟩ := at_block QQ 1 _ rfl
    obtain ⟨r2, f2⟩ := at_block QQ 2 _ rfl
    obtain ⟨r3, f3⟩ := at_block QQ 3 _ rfl
    obtain ⟨r4, f4⟩ := at_block QQ 4 _ rfl
    obtain ⟨r5, f5⟩ := at_block QQ 5 _ rfl
    obtain ⟨p0, p1, p2, p3, p4, p5⟩ := cells6 Q0
    have HX := ext_bel X1
    clear QQ Q0 Q1 X1
    go_wp2
    refine bodyPost_ret (v := .tuple #[.agg #[.slice none 0 0, .int .i64 0, .int .i64 0, .int .i64 0, .int .i64 0, .int .i64 0], .bool false]) (by simp [results, Try.results5, go_sem, *]) rfl ?_
    rw [HZ.out]
    exact ⟨_, rfl, OwB.nil _ _, chk_below HX (Nat.le_succ _) _ _ _ _ _ _⟩
  have d0 : decide (n < 0) = false := decide_eq_false n0
  have HRES0 := hideR (show R = tickD C n by rw [HR.out]; unfold tickPD; rw [hc, decide_eq_true (by omega : 0 ≤ n)]; rfl)
  have HCC := hideR hc
  clear hc
  obtain ⟨p0, p1, p2, p3, p4, p5⟩ := cells6 Q0
  have HCN := hideR (chkB_num HCC.out)
  go_wp2_with fail
  refine (copyKV _ C w1 (HT.out.ext X1) HN.out).mono ?_
  rintro e w2 ⟨tv2, rfl, o2, b2⟩
  obtain ⟨a2, c2, hv2⟩ := o2.shape
  rw [← HK.out] at hv2
  subst hv2
  have X2 : Ext w w2 := X1.tr (ext_below b2)
  have Q2 := ext_blk (ext_below b2) Q1
  have sQ := (Array.getElem?_eq_some_iff.1 Q1).1
  have s21 : w1.heap.size ≤ w2.heap.size := b2.size
  have HO2 : Hid (OwB w2 w1.heap.size (.slice a2 k c2) C.name) := o2
  have s1 := X1.size
  clear p0 p1 p2 p3 p4 p5 Q0 Q1 b2 o2
  obtain ⟨os, t, m, s, a, f⟩ := C
  simp only at HO2 HK HCN ⊢
  go_upto_region 4 with fail
  generalize hU : w2.alloc _ = U
  have XU : Ext w2 U := by rw [← hU]; exact hE _ _
  have PU : ChB w2.heap.size w1.heap.size ⟨os, t, m, s, a, f⟩ (.slice a2 k c2) U := by rw [← hU]; exact ⟨heap_alloc_new w2 _, HO2.out.ext (hE _ _)⟩
  have QU := ext_blk XU Q2
  have X3 : Ext w U := X2.tr XU
  have s12 : w.heap.size + 1 < w1.heap.size := sQ
  clear hU Q2 HO2 XU X1 X2
  generalize w2.heap.size = g at *
  clear d0
  have BU := ext_bel X3
  have sg : w.heap.size + 1 < g := by omega
  clear X3
  obtain ⟨n1, n2, n3, n4, n5, n6, n7, n8, n9, n10⟩ := HCN.out
  by_cases e0 : t = 0
  · have h0 : (t == 0) = true := by simpa using e0
    have GU := World.grownBy.refl U (some g)
    obtain ⟨p0, p1, p2, p3, p4, p5⟩ := cells6 PU.1
    have ff3 := (at_block PU.1 3 _ rfl).2
    have ff4 := (at_block PU.1 4 _ rfl).2
    have ff5 := (at_block PU.1 5 _ rfl).2
    go_upto_region 5 with fail
    clear p0 p1 p2 p3 p4 p5 ff3 ff4 ff5
    clear h0
    have GV := GU
    have PV := PU
    have QV := (GV.block _ (Array.getElem?_eq_some_iff.1 QU).1 (by simp; omega)).trans QU
    have BV := BU.grown GV BU.size (fun k hk => by cases hk; omega)
    have HRES : Hid (R = (⟨os, t, m, s, a, f⟩, false)) := by
      show _ = _
      rw [HRES0.out]
      exact if_pos e0
    clear HRES0 GV BU QU GU PU
    have HOV := hideR PV.2
    have HBV := hideR BV
    obtain ⟨p0, p1, p2, p3, p4, p5⟩ := cells6 PV.1
    have QQ := QV
    obtain ⟨r0, f0⟩ := at_block QQ 0 _ rfl
    obtain ⟨r1, f1⟩ := at_block QQ 1 _ rfl
    obtain ⟨r2, f2⟩ := at_block QQ 2 _ rfl
    obtain ⟨r3, f3⟩ := at_block QQ 3 _ rfl
    obtain ⟨r4, f4⟩ := at_block QQ 4 _ rfl
    obtain ⟨r5, f5⟩ := at_block QQ 5 _ rfl
    have NB : (Value.slice a2 k c2).ownBlock = none ∨ (Value.slice a2 k c2).ownBlock ≠ some (w.heap.size + 1) := .inr (fun e => ne_rowB PV.2 QV (by decide) e.symm)
    clear QQ QV PV BV
    go_wp2
    refine bodyPost_ret (v := .tuple #[.agg #[.slice a2 k c2, .int .i64 t, .int .i64 m, .int .i64 s, .int .i64 a, .int .i64 f], .bool false]) (by simp [results, Try.results5, go_sem, *]) rfl ?_
    rw [HRES.out]
    exact ⟨_, rfl, (chk_own HOV.out NB _ _ _ _ _ _).base s1, chk_below HBV.out (Nat.le_succ _) _ _ _ _ _ _⟩
  have h0 : (t == 0) = false := by simpa using e0
  have hw : IntKind.i64.wrap (a + min n 1000) = a + min n 1000 := by rw [IntKind.wrap_i64]; omega
  have hmin1 : ∀ W, (Builtin.min_ #[3, 3] 3 #[.int .i64 n, .int .i64 1000]).run Try.prog W = .ok (.int .i64 (min n 1000)) W := fun W => run_minC _ _ W
  obtain ⟨A, hA⟩ : ∃ A, A = min (a + min n 1000) 1000 := ⟨_, rfl⟩
  have HA := hideR hA
  have hmin2 : ∀ W, (Builtin.min_ #[3, 3] 3 #[.int .i64 (a + min n 1000), .int .i64 1000]).run Try.prog W = .ok (.int .i64 A) W := fun W => by rw [hA]; exact run_minC _ _ W
  clear hA
  have HS_PX := hideR (PU.age A)
  obtain ⟨p0, p1, p2, p3, p4, p5⟩ := cells6 PU.1
  have ff3 := (at_block PU.1 3 _ rfl).2
  have ff4 := (at_block PU.1 4 _ rfl).2
  have ff5 := (at_block PU.1 5 _ rfl).2
  clear PU
  go_upto_region 7 with fail
  generalize hV : World.setCell _ _ (Value.int .i64 A) = UX
  obtain ⟨PX, GX⟩ := HS_PX.out
  rw [hV] at PX GX
  clear hV HS_PX hmin1 hmin2 hw h0
  clear p0 p1 p2 p3 p4 p5 ff3 ff4 ff5
  have hb1 : decide (0 < t) = true := decide_eq_true (by omega)
  have HPX := hideR PX
  obtain ⟨q0, q1, q2, q3, q4, q5⟩ := cells6 PX.1
  by_cases e4 : t ≤ A
  · have hb2 : decide (t ≤ A) = true := decide_eq_true e4
    have HE4 := hideR e4
    clear e4
    go_wp2_with fail
    refine (isOverV _ ⟨os, t, m, s, A, f⟩ _ ⟨_, rfl, HPX.out.2.rv⟩).mono ?_
    rintro e V1 ⟨rfl, bV1⟩
    simp only
    rw [hb1, hb2]
    have P1 := HPX.out.ext (ext_below bV1)
    have G1 := GX.trans ((ext_below bV1).any (some g))
    clear q0 q1 q2 q3 q4 q5 PX HPX GX bV1 hb1 hb2
    go_wp2_with fail
    refine (becomeV g w1.heap.size ⟨os, t, m, s, A, f⟩ _ 2 V1 P1).mono ?_
    rintro e V ⟨rfl, PV0, G2⟩
    simp only at PV0 ⊢
    clear P1
    have GV := (G1.trans G2)
    have PV := PV0
    have QV := (GV.block _ (Array.getElem?_eq_some_iff.1 QU).1 (by simp; omega)).trans QU
    have BV := BU.grown GV BU.size (fun k hk => by cases hk; omega)
    have HRES : Hid (R = (⟨os, t, m, 2, A, f⟩, (s != 2))) := by
      show _ = _
      rw [HRES0.out]
      exact (if_neg e0).trans ((if_pos (by have := HE4.out; rw [HA.out] at this; exact this)).trans (by rw [HA.out]; rfl))
    clear HRES0 GV BU QU G1 G2 PV0
    have HOV := hideR PV.2
    have HBV := hideR BV
    obtain ⟨p0, p1, p2, p3, p4, p5⟩ := cells6 PV.1
    have QQ := QV
    obtain ⟨r0, f0⟩ := at_block QQ 0 _ rfl
    obtain ⟨r1, f1⟩ := at_block QQ 1 _ rfl
    obtain ⟨r2, f2⟩ := at_block QQ 2 _ rfl
    obtain ⟨r3, f3⟩ := at_block QQ 3 _ rfl
    obtain ⟨r4, f4⟩ := at_block QQ 4 _ rfl
    obtain ⟨r5, f5⟩ := at_block QQ 5 _ rfl
    have NB : (Value.slice a2 k c2).ownBlock = none ∨ (Value.slice a2 k c2).ownBlock ≠ some (w.heap.size + 1) := .inr (fun e => ne_rowB PV.2 QV (by decide) e.symm)
    clear QQ QV PV BV
    go_wp2
    refine bodyPost_ret (v := .tuple #[.agg #[.slice a2 k c2, .int .i64 t, .int .i64 m, .int .i64 2, .int .i64 A, .int .i64 f], .bool (s != 2)]) (by simp [results, Try.results5, go_sem, *]) rfl ?_
    rw [HRES.out]
    exact ⟨_, rfl, (chk_own HOV.out NB _ _ _ _ _ _).base s1, chk_below HBV.out (Nat.le_succ _) _ _ _ _ _ _⟩
  · have hb2 : decide (t ≤ A) = false := decide_eq_false e4
    have HE4 := hideR e4
    clear e4
    go_wp2_with fail
    refine (isOverV _ ⟨os, t, m, s, A, f⟩ _ ⟨_, rfl, HPX.out.2.rv⟩).mono ?_
    rintro e V1 ⟨rfl, bV1⟩
    simp only
    rw [hb1, hb2]
    have P1 := HPX.out.ext (ext_below bV1)
    have G1 := GX.trans ((ext_below bV1).any (some g))
    clear q0 q1 q2 q3 q4 q5 PX HPX GX bV1 hb1 hb2
    have GV := G1
    have PV := P1
    have QV := (GV.block _ (Array.getElem?_eq_some_iff.1 QU).1 (by simp; omega)).trans QU
    have BV := BU.grown GV BU.size (fun k hk => by cases hk; omega)
    have HRES : Hid (R = (⟨os, t, m, s, A, f⟩, false)) := by
      show _ = _
      rw [HRES0.out]
      exact (if_neg e0).trans ((if_neg (by have h9 := HE4.out; rw [HA.out] at h9; show ¬ (t ≤ min (a + min n 1000) 1000); omega)).trans (by rw [HA.out]; rfl))
    clear HRES0 GV BU QU G1 P1
    have HOV := hideR PV.2
    have HBV := hideR BV
    obtain ⟨p0, p1, p2, p3, p4, p5⟩ := cells6 PV.1
    have QQ := QV
    obtain ⟨r0, f0⟩ := at_block QQ 0 _ rfl
    obtain ⟨r1, f1⟩ := at_block QQ 1 _ rfl
    obtain ⟨r2, f2⟩ := at_block QQ 2 _ rfl
    obtain ⟨r3, f3⟩ := at_block QQ 3 _ rfl
    obtain ⟨r4, f4⟩ := at_block QQ 4 _ rfl
    obtain ⟨r5, f5⟩ := at_block QQ 5 _ rfl
    have NB : (Value.slice a2 k c2).ownBlock = none ∨ (Value.slice a2 k c2).ownBlock ≠ some (w.heap.size + 1) := .inr (fun e => ne_rowB PV.2 QV (by decide) e.symm)
    clear QQ QV PV BV
    go_wp2
    refine bodyPost_ret (v := .tuple #[.agg #[.slice a2 k c2, .int .i64 t, .int .i64 m, .int .i64 s, .int .i64 A, .int .i64 f], .bool false]) (by simp [results, Try.results5, go_sem, *]) rfl ?_
    rw [HRES.out]
    exact ⟨_, rfl, (chk_own HOV.out NB _ _ _ _ _ _).base s1, chk_below HBV.out (Nat.le_succ _) _ _ _ _ _ _⟩

end Go.Proofs.Ytihlinhfnlfdmaa
