
/- CheckFail of the program. -/
import Derived.Test.YtihlinhfnlfdmaaCk6
import Derived.Test.YtihlinhfnlfdmaaCk7o
import Derived.BigQuiet
import Derived.WalkMore
namespace Go.Proofs.Ytihlinhfnlfdmaa
open Go.RowKit

set_option maxRecDepth 20000

set_option maxHeartbeats 4000000 in
theorem iCheckFailV (v : Value) (C : DChk) (w : World) (h : VChk w v C) (hl : C.name.length ≤ 1048576) :
    Calls Try.prog 10 #[v] w fun e w' => ∃ tv, e = .returned (.tuple #[.agg #[tv, .int .i64 (failPD C).1.ttl, .int .i64 (failPD C).1.most, .int .i64 (failPD C).1.st, .int .i64 (failPD C).1.age, .int .i64 (failPD C).1.fails], .bool (failPD C).2]) ∧ OwB w' w.heap.size tv (failPD C).1.name ∧ Below w.heap.size w w' := by
  have hE : ∀ w : World, ∀ o, Ext w (w.alloc o) := fun w o => World.grownBy_alloc _ _ _
  have HT : Hid (VChk w v C) := h
  have HN : Hid (C.name.length ≤ 1048576) := hl
  obtain ⟨ov, rfl, ho⟩ := h
  obtain ⟨oa, cap, rfl⟩ := rv_shape ho
  obtain ⟨R, hR⟩ : ∃ R, R = failPD C := ⟨_, rfl⟩
  rw [← hR]
  have HR : Hid (R = failPD C) := hR
  obtain ⟨k, hk⟩ : ∃ k, k = C.name.length := ⟨_, rfl⟩
  have HK : Hid (k = C.name.length) := hk
  rw [← hk] at HT ⊢
  clear ho hR hk hl
  go_enter Try.func10, Try.ntmps10
  go_wp2_with fail
  generalize hW : World.alloc (World.alloc w _) _ = W
  have XW : Ext w W := by rw [← hW]; exact (hE _ _).tr (hE _ _)
  have P0 : W.heap[w.heap.size]? = some (.cells #[.slice oa k cap, .int .i64 C.ttl, .int .i64 C.most, .int .i64 C.st, .int .i64 C.age, .int .i64 C.fails] 24 (0, 0)) := by rw [← hW, Below.heap_alloc _ _ _ (by simp)]; exact heap_alloc_new w _
  have P1 : W.heap[w.heap.size + 1]? = some (.cells #[.slice none 0 0, .int .i64 0, .int .i64 0, .int .i64 0, .int .i64 0, .int .i64 0] 24 (0, 0)) := by rw [← hW]; simpa using heap_alloc_new (World.alloc w _) (.cells #[.slice none 0 0, .int .i64 0, .int .i64 0, .int .i64 0, .int .i64 0, .int .i64 0] 24 (0, 0))
  clear hW
  refine (iCheckOkV _ C W (HT.out.ext XW)).mono ?_
  rintro e w1 ⟨rfl, b1⟩
  have X1 : Ext w w1 := XW.tr (ext_below b1)
  have Q0 := ext_blk (ext_below b1) P0
  have Q1 := ext_blk (ext_below b1) P1
  clear P0 P1 b1 XW
  cases hc : chkB C
  · have HZ : Hid (R = (zeroChk, false)) := by show _ = _; rw [HR.out]; unfold failPD; rw [hc]; rfl
    clear hc
    have QQ := Q1
    obtain ⟨r0, f0⟩ := at_block QQ 0 _ rfl
    obtain ⟨r1, f1⟩ := at_block QQ 1 _ rfl
    obtain ⟨r2, f2⟩ := at_block QQ 2 _ rfl
    obtain ⟨r3, f3⟩ := at_block QQ 3 _ rfl
    obtain ⟨r4, f4⟩ := at_block QQ 4 _ rfl
    obtain ⟨r5, f5⟩ := at_block QQ 5 _ rfl
    obtain ⟨p0, p1, p2, p3, p4, p5⟩ := cells6 Q0
    have HX := ext_bel X1
    clear QQ Q0 Q1 X1
    go_wp2
    refine bodyPost_ret (v := .tuple #[.agg #[.slice none 0 0, .int .i64 0, .int .i64 0, .int .i64 0, .int .i64 0, .int .i64 0], .bool false]) (by simp [results, Try.results10, go_sem, *]) rfl ?_
    rw [HZ.out]
    exact ⟨_, rfl, OwB.nil _ _, chk_below HX (Nat.le_succ _) _ _ _ _ _ _⟩
  have HRES0 := hideR (show R = failD C by rw [HR.out]; unfold failPD; rw [hc]; rfl)
  have HCC := hideR hc
  clear hc
  obtain ⟨p0, p1, p2, p3, p4, p5⟩ := cells6 Q0
  have HCN := hideR (chkB_num HCC.out)
  go_wp2_with fail
  refine (copyKV _ C w1 (HT.out.ext X1) HN.out).mono ?_
  rintro e w2 ⟨tv2, rfl, o2, b2⟩
  obtain ⟨a2, c2, hv2⟩ := o2.shape
  rw [← HK.out] at hv2
  subst hv2
  have X2 : Ext w w2 := X1.tr (ext_below b2)
  have Q2 := ext_blk (ext_below b2) Q1
  have sQ := (Array.getElem?_eq_some_iff.1 Q1).1
  have s21 : w1.heap.size ≤ w2.heap.size := b2.size
  have HO2 : Hid (OwB w2 w1.heap.size (.slice a2 k c2) C.name) := o2
  have s1 := X1.size
  clear p0 p1 p2 p3 p4 p5 Q0 Q1 b2 o2
  obtain ⟨os, t, m, s, a, f⟩ := C
  simp only at HO2 HK HCN ⊢
  go_upto_region 4 with fail
  generalize hU : w2.alloc _ = U
  have XU : Ext w2 U := by rw [← hU]; exact hE _ _
  have PU : ChB w2.heap.size w1.heap.size ⟨os, t, m, s, a, f⟩ (.slice a2 k c2) U := by rw [← hU]; exact ⟨heap_alloc_new w2 _, HO2.out.ext (hE _ _)⟩
  have QU := ext_blk XU Q2
  have X3 : Ext w U := X2.tr XU
  have s12 : w.heap.size + 1 < w1.heap.size := sQ
  clear hU Q2 HO2 XU X1 X2
  generalize w2.heap.size = g at *
  have BU := ext_bel X3
  have sg : w.heap.size + 1 < g := by omega
  clear X3
  obtain ⟨n1, n2, n3, n4, n5, n6, n7, n8, n9, n10⟩ := HCN.out
  have hw : IntKind.i64.wrap (f + 1) = f + 1 := by rw [IntKind.wrap_i64]; omega
  obtain ⟨F, hF⟩ : ∃ F, F = min (f + 1) m := ⟨_, rfl⟩
  have HF := hideR hF
  have hmin : ∀ W, (Builtin.min_ #[3, 3] 3 #[.int .i64 (f + 1), .int .i64 m]).run Try.prog W = .ok (.int .i64 F) W := fun W => by rw [hF]; exact run_minC _ _ W
  clear hF
  have HS_PX := hideR (PU.fails F)
  obtain ⟨p0, p1, p2, p3, p4, p5⟩ := cells6 PU.1
  have ff3 := (at_block PU.1 3 _ rfl).2
  have ff4 := (at_block PU.1 4 _ rfl).2
  have ff5 := (at_block PU.1 5 _ rfl).2
  clear PU
  go_upto_region 5 with fail
  generalize hV : World.setCell _ _ (Value.int .i64 F) = UX
  obtain ⟨PX, GX⟩ := HS_PX.out
  rw [hV] at PX GX
  clear hV HS_PX hmin hw
  clear p0 p1 p2 p3 p4 p5 ff3 ff4 ff5
  by_cases e3 : F = m
  · have h3 : (F == m) = true := by simpa using e3
    have HE := hideR e3
    clear e3
    obtain ⟨p0, p1, p2, p3, p4, p5⟩ := cells6 PX.1
    have ff3 := (at_block PX.1 3 _ rfl).2
    have ff4 := (at_block PX.1 4 _ rfl).2
    have ff5 := (at_block PX.1 5 _ rfl).2
    go_upto_region 8 with fail
    clear p0 p1 p2 p3 p4 p5 ff3 ff4 ff5
    clear h3
    go_wp2_with fail
    refine (becomeV g w1.heap.size ⟨os, t, m, s, a, F⟩ _ 2 UX PX).mono ?_
    rintro e V ⟨rfl, PV0, G2⟩
    simp only at PV0 ⊢
    clear PX
    have GV := (GX.trans G2)
    have PV := PV0
    have QV := (GV.block _ (Array.getElem?_eq_some_iff.1 QU).1 (by simp; omega)).trans QU
    have BV := BU.grown GV BU.size (fun k hk => by cases hk; omega)
    have HRES : Hid (R = (⟨os, t, m, 2, a, F⟩, (s != 2))) := by
      show _ = _
      rw [HRES0.out]
      simp only [failD, failS]; rw [if_pos (.inl (by have := HE.out; have := HF.out; omega)), HF.out]
    clear HRES0 GV BU QU GX G2 PV0
    have HOV := hideR PV.2
    have HBV := hideR BV
    obtain ⟨p0, p1, p2, p3, p4, p5⟩ := cells6 PV.1
    have QQ := QV
    obtain ⟨r0, f0⟩ := at_block QQ 0 _ rfl
    obtain ⟨r1, f1⟩ := at_block QQ 1 _ rfl
    obtain ⟨r2, f2⟩ := at_block QQ 2 _ rfl
    obtain ⟨r3, f3⟩ := at_block QQ 3 _ rfl
    obtain ⟨r4, f4⟩ := at_block QQ 4 _ rfl
    obtain ⟨r5, f5⟩ := at_block QQ 5 _ rfl
    have NB : (Value.slice a2 k c2).ownBlock = none ∨ (Value.slice a2 k c2).ownBlock ≠ some (w.heap.size + 1) := .inr (fun e => ne_rowB PV.2 QV (by decide) e.symm)
    clear QQ QV PV BV
    go_wp2
    refine bodyPost_ret (v := .tuple #[.agg #[.slice a2 k c2, .int .i64 t, .int .i64 m, .int .i64 2, .int .i64 a, .int .i64 F], .bool (s != 2)]) (by simp [results, Try.results10, go_sem, *]) rfl ?_
    rw [HRES.out]
    exact ⟨_, rfl, (chk_own HOV.out NB _ _ _ _ _ _).base s1, chk_below HBV.out (Nat.le_succ _) _ _ _ _ _ _⟩
  · have h3 : (F == m) = false := by simpa using e3
    have HE := hideR e3
    clear e3
    by_cases e2 : s = 2
    · have h2 : (s == 2) = true := by simpa using e2
      have HE2 := hideR e2
      clear e2
      obtain ⟨p0, p1, p2, p3, p4, p5⟩ := cells6 PX.1
      have ff3 := (at_block PX.1 3 _ rfl).2
      have ff4 := (at_block PX.1 4 _ rfl).2
      have ff5 := (at_block PX.1 5 _ rfl).2
      go_upto_region 8 with fail
      clear p0 p1 p2 p3 p4 p5 ff3 ff4 ff5
      clear h3 h2
      go_wp2_with fail
      refine (becomeV g w1.heap.size ⟨os, t, m, s, a, F⟩ _ 2 UX PX).mono ?_
      rintro e V ⟨rfl, PV0, G2⟩
      simp only at PV0 ⊢
      clear PX
      have GV := (GX.trans G2)
      have PV := PV0
      have QV := (GV.block _ (Array.getElem?_eq_some_iff.1 QU).1 (by simp; omega)).trans QU
      have BV := BU.grown GV BU.size (fun k hk => by cases hk; omega)
      have HRES : Hid (R = (⟨os, t, m, 2, a, F⟩, (s != 2))) := by
        show _ = _
        rw [HRES0.out]
        simp only [failD, failS]; rw [if_pos (.inr HE2.out), HF.out]
      clear HRES0 GV BU QU GX G2 PV0
      have HOV := hideR PV.2
      have HBV := hideR BV
      obtain ⟨p0, p1, p2, p3, p4, p5⟩ := cells6 PV.1
      have QQ := QV
      obtain ⟨r0, f0⟩ := at_block QQ 0 _ rfl
      obtain ⟨r1, f1⟩ := at_block QQ 1 _ rfl
      obtain ⟨r2, f2⟩ := at_block QQ 2 _ rfl
      obtain ⟨r3, f3⟩ := at_block QQ 3 _ rfl
      obtain ⟨r4, f4⟩ := at_block QQ 4 _ rfl
      obtain ⟨r5, f5⟩ := at_block QQ 5 _ rfl
      have NB : (Value.slice a2 k c2).ownBlock = none ∨ (Value.slice a2 k c2).ownBlock ≠ some (w.heap.size + 1) := .inr (fun e => ne_rowB PV.2 QV (by decide) e.symm)
      clear QQ QV PV BV
      go_wp2
      refine bodyPost_ret (v := .tuple #[.agg #[.slice a2 k c2, .int .i64 t, .int .i64 m, .int .i64 2, .int .i64 a, .int .i64 F], .bool (s != 2)]) (by simp [results, Try.results10, go_sem, *]) rfl ?_
      rw [HRES.out]
      exact ⟨_, rfl, (chk_own HOV.out NB _ _ _ _ _ _).base s1, chk_below HBV.out (Nat.le_succ _) _ _ _ _ _ _⟩
    · have h2 : (s == 2) = false := by simpa using e2
      have HE2 := hideR e2
      clear e2
      obtain ⟨p0, p1, p2, p3, p4, p5⟩ := cells6 PX.1
      have ff3 := (at_block PX.1 3 _ rfl).2
      have ff4 := (at_block PX.1 4 _ rfl).2
      have ff5 := (at_block PX.1 5 _ rfl).2
      go_upto_region 8 with fail
      clear p0 p1 p2 p3 p4 p5 ff3 ff4 ff5
      clear h3 h2
      go_wp2_with fail
      refine (becomeV g w1.heap.size ⟨os, t, m, s, a, F⟩ _ 1 UX PX).mono ?_
      rintro e V ⟨rfl, PV0, G2⟩
      simp only at PV0 ⊢
      clear PX
      have GV := (GX.trans G2)
      have PV := PV0
      have QV := (GV.block _ (Array.getElem?_eq_some_iff.1 QU).1 (by simp; omega)).trans QU
      have BV := BU.grown GV BU.size (fun k hk => by cases hk; omega)
      have HRES : Hid (R = (⟨os, t, m, 1, a, F⟩, (s != 1))) := by
        show _ = _
        rw [HRES0.out]
        simp only [failD, failS]; rw [if_neg (by have := HE.out; have := HE2.out; have := HF.out; omega), HF.out]
      clear HRES0 GV BU QU GX G2 PV0
      have HOV := hideR PV.2
      have HBV := hideR BV
      obtain ⟨p0, p1, p2, p3, p4, p5⟩ := cells6 PV.1
      have QQ := QV
      obtain ⟨r0, f0⟩ := at_block QQ 0 _ rfl
      obtain ⟨r1, f1⟩ := at_block QQ 1 _ rfl
      obtain ⟨r2, f2⟩ := at_block QQ 2 _ rfl
      obtain ⟨r3, f3⟩ := at_block QQ 3 _ rfl
      obtain ⟨r4, f4⟩ := at_block QQ 4 _ rfl
      obtain ⟨r5, f5⟩ := at_block QQ 5 _ rfl
      have NB : (Value.slice a2 k c2).ownBlock = none ∨ (Value.slice a2 k c2).ownBlock ≠ some (w.heap.size + 1) := .inr (fun e => ne_rowB PV.2 QV (by decide) e.symm)
      clear QQ QV PV BV
      go_wp2
      refine bodyPost_ret (v := .tuple #[.agg #[.slice a2 k c2, .int .i64 t, .int .i64 m, .int .i64 1, .int .i64 a, .int .i64 F], .bool (s != 1)]) (by simp [results, Try.results10, go_sem, *]) rfl ?_
      rw [HRES.out]
      exact ⟨_, rfl, (chk_own HOV.out NB _ _ _ _ _ _).base s1, chk_below HBV.out (Nat.le_succ _) _ _ _ _ _ _⟩

end Go.Proofs.Ytihlinhfnlfdmaa
