
/- CheckFail of the specification. -/
import Derived.Test.YtihlinhfnlfdmaaCk1z
import Derived.Test.YtihlinhfnlfdmaaCk4
import Derived.Test.YtihlinhfnlfdmaaCk7o
import Derived.BigQuiet
import Derived.WalkMore
namespace Go.Proofs.Ytihlinhfnlfdmaa
open Go.RowKit

set_option maxRecDepth 20000

set_option maxHeartbeats 4000000 in
theorem sCheckFailV (v : Value) (C : DChk) (w : World) (h : VChk w v C) (hl : C.name.length ≤ 1048576) :
    Calls Try.prog 29 #[v] w fun e w' => ∃ tv, e = .returned (.tuple #[.agg #[tv, .int .i64 (failPD C).1.ttl, .int .i64 (failPD C).1.most, .int .i64 (failPD C).1.st, .int .i64 (failPD C).1.age, .int .i64 (failPD C).1.fails], .bool (failPD C).2]) ∧ OwB w' w.heap.size tv (failPD C).1.name ∧ Below w.heap.size w w' := by
  have hE : ∀ w : World, ∀ o, Ext w (w.alloc o) := fun w o => World.grownBy_alloc _ _ _
  have HT : Hid (VChk w v C) := h
  have HN : Hid (C.name.length ≤ 1048576) := hl
  obtain ⟨ov, rfl, ho⟩ := h
  obtain ⟨oa, cap, rfl⟩ := rv_shape ho
  obtain ⟨R, hR⟩ : ∃ R, R = failPD C := ⟨_, rfl⟩
  rw [← hR]
  have HR : Hid (R = failPD C) := hR
  obtain ⟨k, hk⟩ : ∃ k, k = C.name.length := ⟨_, rfl⟩
  have HK : Hid (k = C.name.length) := hk
  rw [← hk] at HT ⊢
  clear ho hR hk hl
  go_enter Try.func29, Try.ntmps29
  go_wp2_with fail
  generalize hW : World.alloc (World.alloc w _) _ = W
  have XW : Ext w W := by rw [← hW]; exact (hE _ _).tr (hE _ _)
  have P0 : W.heap[w.heap.size]? = some (.cells #[.slice oa k cap, .int .i64 C.ttl, .int .i64 C.most, .int .i64 C.st, .int .i64 C.age, .int .i64 C.fails] 24 (0, 0)) := by rw [← hW, Below.heap_alloc _ _ _ (by simp)]; exact heap_alloc_new w _
  have P1 : W.heap[w.heap.size + 1]? = some (.cells #[.slice none 0 0, .int .i64 0, .int .i64 0, .int .i64 0, .int .i64 0, .int .i64 0] 24 (0, 0)) := by rw [← hW]; simpa using heap_alloc_new (World.alloc w _) (.cells #[.slice none 0 0, .int .i64 0, .int .i64 0, .int .i64 0, .int .i64 0, .int .i64 0] 24 (0, 0))
  clear hW
  refine (sCheckOkV _ C W (HT.out.ext XW)).mono ?_
  rintro e w1 ⟨rfl, b1⟩
  have X1 : Ext w w1 := XW.tr (ext_below b1)
  have Q0 := ext_blk (ext_below b1) P0
  have Q1 := ext_blk (ext_below b1) P1
  clear P0 P1 b1 XW
  cases hc : chkB C
  · have HZ : Hid (R = (zeroChk, false)) := by show _ = _; rw [HR.out]; unfold failPD; rw [hc]; rfl
    clear hc
    have QQ := Q1
    obtain ⟨r0, f0⟩ := at_block QQ 0 _ rfl
    obtain ⟨r1, f1⟩ := at_block QQ 1 _ rfl
    obtain ⟨r2, f2⟩ := at_block QQ 2 _ rfl
    obtain ⟨r3, f3⟩ := at_block QQ 3 _ rfl
    obtain ⟨r4, f4⟩ := at_block QQ 4 _ rfl
    obtain ⟨r5, f5⟩ := at_block QQ 5 _ rfl
    obtain ⟨p0, p1, p2, p3, p4, p5⟩ := cells6 Q0
    have HX := ext_bel X1
    clear QQ Q0 Q1 X1
    go_wp2
    refine bodyPost_ret (v := .tuple #[.agg #[.slice none 0 0, .int .i64 0, .int .i64 0, .int .i64 0, .int .i64 0, .int .i64 0], .bool false]) (by simp [results, Try.results29, go_sem, *]) rfl ?_
    rw [HZ.out]
    exact ⟨_, rfl, OwB.nil _ _, chk_below HX (Nat.le_succ _) _ _ _ _ _ _⟩
  have HRES0 := hideR (show R = failD C by rw [HR.out]; unfold failPD; rw [hc]; rfl)
  have HCC := hideR hc
  clear hc
  obtain ⟨p0, p1, p2, p3, p4, p5⟩ := cells6 Q0
  have HCN := hideR (chkB_num HCC.out)
  go_wp2_with fail
  refine (sOwnKV _ C w1 (HT.out.ext X1) HN.out).mono ?_
  rintro e w2 ⟨tv2, rfl, o2, b2⟩
  obtain ⟨a2, c2, hv2⟩ := o2.shape
  rw [← HK.out] at hv2
  subst hv2
  have X2 : Ext w w2 := X1.tr (ext_below b2)
  have QA := ext_blk (ext_below b2) Q0
  have QB := ext_blk (ext_below b2) Q1
  have sQ := (Array.getElem?_eq_some_iff.1 Q1).1
  have s1 := X1.size
  clear p0 p1 p2 p3 p4 p5 Q0 Q1 b2
  obtain ⟨os, t, m, s, a, f⟩ := C
  simp only at o2 HK HCN QA ⊢
  have nb : (Value.slice a2 k c2).ownBlock = none ∨ (Value.slice a2 k c2).ownBlock ≠ some w.heap.size := .inr (fun e => ne_rowB o2 QA (by decide) e.symm)
  have HU6 : Hid (∀ U, U = ((((((w2.setCell ⟨w.heap.size, 0, none⟩ (.slice a2 k c2)).setCell ⟨w.heap.size, 1, none⟩ (.int .i64 t)).setCell ⟨w.heap.size, 2, none⟩ (.int .i64 m)).setCell ⟨w.heap.size, 3, none⟩ (.int .i64 s)).setCell ⟨w.heap.size, 4, none⟩ (.int .i64 a)).setCell ⟨w.heap.size, 5, none⟩ (.int .i64 f)) → ChB w.heap.size w1.heap.size ⟨os, t, m, s, a, f⟩ (.slice a2 k c2) U ∧ Below w.heap.size w U ∧ U.heap[w.heap.size + 1]? = some (.cells #[.slice none 0 0, .int .i64 0, .int .i64 0, .int .i64 0, .int .i64 0, .int .i64 0] 24 (0, 0))) := fun U hU => by
    subst hU
    exact ⟨⟨chk_set QA _ _ _ _ _ _, chk_own o2 nb _ _ _ _ _ _⟩, chk_below (ext_bel X2) (Nat.le_refl _) _ _ _ _ _ _, chk_other (Nat.succ_ne_self _) QB _ _ _ _ _ _⟩
  obtain ⟨p0, p1, p2, p3, p4, p5⟩ := cells6 QA
  have ff0 := (at_block QA 0 _ rfl).2
  have ff1 := (at_block QA 1 _ rfl).2
  have ff2 := (at_block QA 2 _ rfl).2
  have ff3 := (at_block QA 3 _ rfl).2
  have ff4 := (at_block QA 4 _ rfl).2
  have ff5 := (at_block QA 5 _ rfl).2
  clear QA QB o2 nb X2 X1
  go_upto_region 5 with fail
  generalize hU : World.setCell _ _ (Value.int .i64 f) = U
  obtain ⟨PU, BU, QU⟩ := HU6.out U hU.symm
  clear hU HU6 p0 p1 p2 p3 p4 p5 ff0 ff1 ff2 ff3 ff4 ff5
  obtain ⟨n1, n2, n3, n4, n5, n6, n7, n8, n9, n10⟩ := HCN.out
  have hw : IntKind.i64.wrap (f + 1) = f + 1 := by rw [IntKind.wrap_i64]; omega
  by_cases e1 : f < m
  · have h1 : decide (f < m) = true := decide_eq_true e1
    have HS_PX := hideR (PU.fails (f + 1))
    obtain ⟨p0, p1, p2, p3, p4, p5⟩ := cells6 PU.1
    have ff3 := (at_block PU.1 3 _ rfl).2
    have ff4 := (at_block PU.1 4 _ rfl).2
    have ff5 := (at_block PU.1 5 _ rfl).2
    clear PU
    go_upto_region 7 with fail
    generalize hV : World.setCell _ _ (Value.int .i64 (f + 1)) = UX
    obtain ⟨PX, GX⟩ := HS_PX.out
    rw [hV] at PX GX
    clear hV HS_PX h1
    clear p0 p1 p2 p3 p4 p5 ff3 ff4 ff5
    by_cases e2 : s = 2
    · have h2 : (s != 2) = false := by simpa using e2
      obtain ⟨p0, p1, p2, p3, p4, p5⟩ := cells6 PX.1
      have ff3 := (at_block PX.1 3 _ rfl).2
      have ff4 := (at_block PX.1 4 _ rfl).2
      have ff5 := (at_block PX.1 5 _ rfl).2
      go_upto_region 9 with fail
      clear p0 p1 p2 p3 p4 p5 ff3 ff4 ff5
      clear h2
      by_cases e3 : m ≤ (f + 1)
      · have hge : decide ((f + 1) ≥ m) = true := decide_eq_true e3
        have HS_PZ := hideR (PX.st 2)
        obtain ⟨p0, p1, p2, p3, p4, p5⟩ := cells6 PX.1
        have ff3 := (at_block PX.1 3 _ rfl).2
        have ff4 := (at_block PX.1 4 _ rfl).2
        have ff5 := (at_block PX.1 5 _ rfl).2
        clear PX
        go_upto_region 11 with fail
        generalize hV : World.setCell _ _ (Value.int .i64 2) = UZ
        obtain ⟨PZ, GZ⟩ := HS_PZ.out
        rw [hV] at PZ GZ
        clear hV HS_PZ
        clear p0 p1 p2 p3 p4 p5 ff3 ff4 ff5
        have GV := (GX.trans GZ)
        have PV := PZ
        have QV := (GV.block _ (Array.getElem?_eq_some_iff.1 QU).1 (by simp)).trans QU
        have BV := BU.grown GV BU.size (fun k hk => by cases hk; exact Nat.le_refl _)
        have HRES : Hid (R = (⟨os, t, m, 2, a, (f + 1)⟩, (s != 2))) := by
          show _ = _
          rw [HRES0.out]
          simp only [failD, failS]; rw [if_pos (.inl (by omega)), Int.min_eq_left (by omega)]
        clear HRES0 GV BU QU GX GZ PZ hge hw n1 n2 n3 n4 n5 n6 n7 n8 n9 n10
        have HOV := hideR PV.2
        have HBV := hideR BV
        obtain ⟨p0, p1, p2, p3, p4, p5⟩ := cells6 PV.1
        have QQ := QV
        obtain ⟨r0, f0⟩ := at_block QQ 0 _ rfl
        obtain ⟨r1, f1⟩ := at_block QQ 1 _ rfl
        obtain ⟨r2, f2⟩ := at_block QQ 2 _ rfl
        obtain ⟨r3, f3⟩ := at_block QQ 3 _ rfl
        obtain ⟨r4, f4⟩ := at_block QQ 4 _ rfl
        obtain ⟨r5, f5⟩ := at_block QQ 5 _ rfl
        have NB : (Value.slice a2 k c2).ownBlock = none ∨ (Value.slice a2 k c2).ownBlock ≠ some (w.heap.size + 1) := .inr (fun e => ne_rowB PV.2 QV (by decide) e.symm)
        clear QQ QV PV BV
        go_wp2_with fail
        go_region
        all_goals
          go_wp2
          refine bodyPost_ret (v := .tuple #[.agg #[.slice a2 k c2, .int .i64 t, .int .i64 m, .int .i64 2, .int .i64 a, .int .i64 (f + 1)], .bool (s != 2)]) (by simp [results, Try.results29, go_sem, *]) rfl ?_
          rw [HRES.out]
          exact ⟨_, rfl, ((chk_own HOV.out NB _ _ _ _ _ _).ext (ext_drewN _ 1)).base s1, below_drewN (chk_below HBV.out (Nat.le_succ _) _ _ _ _ _ _) 1⟩
      · have hge : decide ((f + 1) ≥ m) = false := decide_eq_false e3
        obtain ⟨p0, p1, p2, p3, p4, p5⟩ := cells6 PX.1
        have ff3 := (at_block PX.1 3 _ rfl).2
        have ff4 := (at_block PX.1 4 _ rfl).2
        have ff5 := (at_block PX.1 5 _ rfl).2
        go_upto_region 11 with fail
        clear p0 p1 p2 p3 p4 p5 ff3 ff4 ff5
        have GV := GX
        have PV := PX
        have QV := (GV.block _ (Array.getElem?_eq_some_iff.1 QU).1 (by simp)).trans QU
        have BV := BU.grown GV BU.size (fun k hk => by cases hk; exact Nat.le_refl _)
        have HRES : Hid (R = (⟨os, t, m, s, a, (f + 1)⟩, false)) := by
          show _ = _
          rw [HRES0.out]
          simp only [failD, failS]; rw [if_pos (.inr e2), Int.min_eq_left (by omega), e2]; rfl
        clear HRES0 GV BU QU GX PX hge hw n1 n2 n3 n4 n5 n6 n7 n8 n9 n10
        have HOV := hideR PV.2
        have HBV := hideR BV
        obtain ⟨p0, p1, p2, p3, p4, p5⟩ := cells6 PV.1
        have QQ := QV
        obtain ⟨r0, f0⟩ := at_block QQ 0 _ rfl
        obtain ⟨r1, f1⟩ := at_block QQ 1 _ rfl
        obtain ⟨r2, f2⟩ := at_block QQ 2 _ rfl
        obtain ⟨r3, f3⟩ := at_block QQ 3 _ rfl
        obtain ⟨r4, f4⟩ := at_block QQ 4 _ rfl
        obtain ⟨r5, f5⟩ := at_block QQ 5 _ rfl
        have NB : (Value.slice a2 k c2).ownBlock = none ∨ (Value.slice a2 k c2).ownBlock ≠ some (w.heap.size + 1) := .inr (fun e => ne_rowB PV.2 QV (by decide) e.symm)
        clear QQ QV PV BV
        go_wp2_with fail
        go_region
        all_goals
          go_wp2
          refine bodyPost_ret (v := .tuple #[.agg #[.slice a2 k c2, .int .i64 t, .int .i64 m, .int .i64 s, .int .i64 a, .int .i64 (f + 1)], .bool false]) (by simp [results, Try.results29, go_sem, *]) rfl ?_
          rw [HRES.out]
          exact ⟨_, rfl, ((chk_own HOV.out NB _ _ _ _ _ _).ext (ext_drewN _ 1)).base s1, below_drewN (chk_below HBV.out (Nat.le_succ _) _ _ _ _ _ _) 1⟩
    · have h2 : (s != 2) = true := by simpa using e2
      have HS_PY := hideR (PX.st 1)
      obtain ⟨p0, p1, p2, p3, p4, p5⟩ := cells6 PX.1
      have ff3 := (at_block PX.1 3 _ rfl).2
      have ff4 := (at_block PX.1 4 _ rfl).2
      have ff5 := (at_block PX.1 5 _ rfl).2
      clear PX
      go_upto_region 9 with fail
      generalize hV : World.setCell _ _ (Value.int .i64 1) = UY
      obtain ⟨PY, GY⟩ := HS_PY.out
      rw [hV] at PY GY
      clear hV HS_PY h2
      clear p0 p1 p2 p3 p4 p5 ff3 ff4 ff5
      by_cases e3 : m ≤ (f + 1)
      · have hge : decide ((f + 1) ≥ m) = true := decide_eq_true e3
        have HS_PZ := hideR (PY.st 2)
        obtain ⟨p0, p1, p2, p3, p4, p5⟩ := cells6 PY.1
        have ff3 := (at_block PY.1 3 _ rfl).2
        have ff4 := (at_block PY.1 4 _ rfl).2
        have ff5 := (at_block PY.1 5 _ rfl).2
        clear PY
        go_upto_region 11 with fail
        generalize hV : World.setCell _ _ (Value.int .i64 2) = UZ
        obtain ⟨PZ, GZ⟩ := HS_PZ.out
        rw [hV] at PZ GZ
        clear hV HS_PZ
        clear p0 p1 p2 p3 p4 p5 ff3 ff4 ff5
        have GV := ((GX.trans GY).trans GZ)
        have PV := PZ
        have QV := (GV.block _ (Array.getElem?_eq_some_iff.1 QU).1 (by simp)).trans QU
        have BV := BU.grown GV BU.size (fun k hk => by cases hk; exact Nat.le_refl _)
        have HRES : Hid (R = (⟨os, t, m, 2, a, (f + 1)⟩, (s != 2))) := by
          show _ = _
          rw [HRES0.out]
          simp only [failD, failS]; rw [if_pos (.inl (by omega)), Int.min_eq_left (by omega)]
        clear HRES0 GV BU QU GX GY GZ PZ hge hw n1 n2 n3 n4 n5 n6 n7 n8 n9 n10
        have HOV := hideR PV.2
        have HBV := hideR BV
        obtain ⟨p0, p1, p2, p3, p4, p5⟩ := cells6 PV.1
        have QQ := QV
        obtain ⟨r0, f0⟩ := at_block QQ 0 _ rfl
        obtain ⟨r1, f1⟩ := at_block QQ 1 _ rfl
        obtain ⟨r2, f2⟩ := at_block QQ 2 _ rfl
        obtain ⟨r3, f3⟩ := at_block QQ 3 _ rfl
        obtain ⟨r4, f4⟩ := at_block QQ 4 _ rfl
        obtain ⟨r5, f5⟩ := at_block QQ 5 _ rfl
        have NB : (Value.slice a2 k c2).ownBlock = none ∨ (Value.slice a2 k c2).ownBlock ≠ some (w.heap.size + 1) := .inr (fun e => ne_rowB PV.2 QV (by decide) e.symm)
        clear QQ QV PV BV
        go_wp2_with fail
        go_region
        all_goals
          go_wp2
          refine bodyPost_ret (v := .tuple #[.agg #[.slice a2 k c2, .int .i64 t, .int .i64 m, .int .i64 2, .int .i64 a, .int .i64 (f + 1)], .bool (s != 2)]) (by simp [results, Try.results29, go_sem, *]) rfl ?_
          rw [HRES.out]
          exact ⟨_, rfl, ((chk_own HOV.out NB _ _ _ _ _ _).ext (ext_drewN _ 1)).base s1, below_drewN (chk_below HBV.out (Nat.le_succ _) _ _ _ _ _ _) 1⟩
      · have hge : decide ((f + 1) ≥ m) = false := decide_eq_false e3
        obtain ⟨p0, p1, p2, p3, p4, p5⟩ := cells6 PY.1
        have ff3 := (at_block PY.1 3 _ rfl).2
        have ff4 := (at_block PY.1 4 _ rfl).2
        have ff5 := (at_block PY.1 5 _ rfl).2
        go_upto_region 11 with fail
        clear p0 p1 p2 p3 p4 p5 ff3 ff4 ff5
        have GV := (GX.trans GY)
        have PV := PY
        have QV := (GV.block _ (Array.getElem?_eq_some_iff.1 QU).1 (by simp)).trans QU
        have BV := BU.grown GV BU.size (fun k hk => by cases hk; exact Nat.le_refl _)
        have HRES : Hid (R = (⟨os, t, m, 1, a, (f + 1)⟩, (s != 1))) := by
          show _ = _
          rw [HRES0.out]
          simp only [failD, failS]; rw [if_neg (by omega), Int.min_eq_left (by omega)]
        clear HRES0 GV BU QU GX GY PY hge hw n1 n2 n3 n4 n5 n6 n7 n8 n9 n10
        have HOV := hideR PV.2
        have HBV := hideR BV
        obtain ⟨p0, p1, p2, p3, p4, p5⟩ := cells6 PV.1
        have QQ := QV
        obtain ⟨r0, f0⟩ := at_block QQ 0 _ rfl
        obtain ⟨r1, f1⟩ := at_block QQ 1 _ rfl
        obtain ⟨r2, f2⟩ := at_block QQ 2 _ rfl
        obtain ⟨r3, f3⟩ := at_block QQ 3 _ rfl
        obtain ⟨r4, f4⟩ := at_block QQ 4 _ rfl
        obtain ⟨r5, f5⟩ := at_block QQ 5 _ rfl
        have NB : (Value.slice a2 k c2).ownBlock = none ∨ (Value.slice a2 k c2).ownBlock ≠ some (w.heap.size + 1) := .inr (fun e => ne_rowB PV.2 QV (by decide) e.symm)
        clear QQ QV PV BV
        go_wp2_with fail
        go_region
        all_goals
          go_wp2
          refine bodyPost_ret (v := .tuple #[.agg #[.slice a2 k c2, .int .i64 t, .int .i64 m, .int .i64 1, .int .i64 a, .int .i64 (f + 1)], .bool (s != 1)]) (by simp [results, Try.results29, go_sem, *]) rfl ?_
          rw [HRES.out]
          exact ⟨_, rfl, ((chk_own HOV.out NB _ _ _ _ _ _).ext (ext_drewN _ 1)).base s1, below_drewN (chk_below HBV.out (Nat.le_succ _) _ _ _ _ _ _) 1⟩
  · have h1 : decide (f < m) = false := decide_eq_false e1
    have GU := World.grownBy.refl U (some w.heap.size)
    obtain ⟨p0, p1, p2, p3, p4, p5⟩ := cells6 PU.1
    have ff3 := (at_block PU.1 3 _ rfl).2
    have ff4 := (at_block PU.1 4 _ rfl).2
    have ff5 := (at_block PU.1 5 _ rfl).2
    go_upto_region 7 with fail
    clear p0 p1 p2 p3 p4 p5 ff3 ff4 ff5
    clear h1
    by_cases e2 : s = 2
    · have h2 : (s != 2) = false := by simpa using e2
      obtain ⟨p0, p1, p2, p3, p4, p5⟩ := cells6 PU.1
      have ff3 := (at_block PU.1 3 _ rfl).2
      have ff4 := (at_block PU.1 4 _ rfl).2
      have ff5 := (at_block PU.1 5 _ rfl).2
      go_upto_region 9 with fail
      clear p0 p1 p2 p3 p4 p5 ff3 ff4 ff5
      clear h2
      have hge : decide (f ≥ m) = true := decide_eq_true (by omega)
      have HS_PZ := hideR (PU.st 2)
      obtain ⟨p0, p1, p2, p3, p4, p5⟩ := cells6 PU.1
      have ff3 := (at_block PU.1 3 _ rfl).2
      have ff4 := (at_block PU.1 4 _ rfl).2
      have ff5 := (at_block PU.1 5 _ rfl).2
      clear PU
      go_upto_region 11 with fail
      generalize hV : World.setCell _ _ (Value.int .i64 2) = UZ
      obtain ⟨PZ, GZ⟩ := HS_PZ.out
      rw [hV] at PZ GZ
      clear hV HS_PZ
      clear p0 p1 p2 p3 p4 p5 ff3 ff4 ff5
      have GV := (GU.trans GZ)
      have PV := PZ
      have QV := (GV.block _ (Array.getElem?_eq_some_iff.1 QU).1 (by simp)).trans QU
      have BV := BU.grown GV BU.size (fun k hk => by cases hk; exact Nat.le_refl _)
      have HRES : Hid (R = (⟨os, t, m, 2, a, f⟩, (s != 2))) := by
        show _ = _
        rw [HRES0.out]
        simp only [failD, failS]; rw [if_pos (.inl (by omega)), Int.min_eq_right (by omega), show m = f by omega]
      clear HRES0 GV BU QU GU GZ PZ hge hw n1 n2 n3 n4 n5 n6 n7 n8 n9 n10
      have HOV := hideR PV.2
      have HBV := hideR BV
      obtain ⟨p0, p1, p2, p3, p4, p5⟩ := cells6 PV.1
      have QQ := QV
      obtain ⟨r0, f0⟩ := at_block QQ 0 _ rfl
      obtain ⟨r1, f1⟩ := at_block QQ 1 _ rfl
      obtain ⟨r2, f2⟩ := at_block QQ 2 _ rfl
      obtain ⟨r3, f3⟩ := at_block QQ 3 _ rfl
      obtain ⟨r4, f4⟩ := at_block QQ 4 _ rfl
      obtain ⟨r5, f5⟩ := at_block QQ 5 _ rfl
      have NB : (Value.slice a2 k c2).ownBlock = none ∨ (Value.slice a2 k c2).ownBlock ≠ some (w.heap.size + 1) := .inr (fun e => ne_rowB PV.2 QV (by decide) e.symm)
      clear QQ QV PV BV
      go_wp2_with fail
      go_region
      all_goals
        go_wp2
        refine bodyPost_ret (v := .tuple #[.agg #[.slice a2 k c2, .int .i64 t, .int .i64 m, .int .i64 2, .int .i64 a, .int .i64 f], .bool (s != 2)]) (by simp [results, Try.results29, go_sem, *]) rfl ?_
        rw [HRES.out]
        exact ⟨_, rfl, ((chk_own HOV.out NB _ _ _ _ _ _).ext (ext_drewN _ 1)).base s1, below_drewN (chk_below HBV.out (Nat.le_succ _) _ _ _ _ _ _) 1⟩
    · have h2 : (s != 2) = true := by simpa using e2
      have HS_PY := hideR (PU.st 1)
      obtain ⟨p0, p1, p2, p3, p4, p5⟩ := cells6 PU.1
      have ff3 := (at_block PU.1 3 _ rfl).2
      have ff4 := (at_block PU.1 4 _ rfl).2
      have ff5 := (at_block PU.1 5 _ rfl).2
      clear PU
      go_upto_region 9 with fail
      generalize hV : World.setCell _ _ (Value.int .i64 1) = UY
      obtain ⟨PY, GY⟩ := HS_PY.out
      rw [hV] at PY GY
      clear hV HS_PY h2
      clear p0 p1 p2 p3 p4 p5 ff3 ff4 ff5
      have hge : decide (f ≥ m) = true := decide_eq_true (by omega)
      have HS_PZ := hideR (PY.st 2)
      obtain ⟨p0, p1, p2, p3, p4, p5⟩ := cells6 PY.1
      have ff3 := (at_block PY.1 3 _ rfl).2
      have ff4 := (at_block PY.1 4 _ rfl).2
      have ff5 := (at_block PY.1 5 _ rfl).2
      clear PY
      go_upto_region 11 with fail
      generalize hV : World.setCell _ _ (Value.int .i64 2) = UZ
      obtain ⟨PZ, GZ⟩ := HS_PZ.out
      rw [hV] at PZ GZ
      clear hV HS_PZ
      clear p0 p1 p2 p3 p4 p5 ff3 ff4 ff5
      have GV := ((GU.trans GY).trans GZ)
      have PV := PZ
      have QV := (GV.block _ (Array.getElem?_eq_some_iff.1 QU).1 (by simp)).trans QU
      have BV := BU.grown GV BU.size (fun k hk => by cases hk; exact Nat.le_refl _)
      have HRES : Hid (R = (⟨os, t, m, 2, a, f⟩, (s != 2))) := by
        show _ = _
        rw [HRES0.out]
        simp only [failD, failS]; rw [if_pos (.inl (by omega)), Int.min_eq_right (by omega), show m = f by omega]
      clear HRES0 GV BU QU GU GY GZ PZ hge hw n1 n2 n3 n4 n5 n6 n7 n8 n9 n10
      have HOV := hideR PV.2
      have HBV := hideR BV
      obtain ⟨p0, p1, p2, p3, p4, p5⟩ := cells6 PV.1
      have QQ := QV
      obtain ⟨r0, f0⟩ := at_block QQ 0 _ rfl
      obtain ⟨r1, f1⟩ := at_block QQ 1 _ rfl
      obtain ⟨r2, f2⟩ := at_block QQ 2 _ rfl
      obtain ⟨r3, f3⟩ := at_block QQ 3 _ rfl
      obtain ⟨r4, f4⟩ := at_block QQ 4 _ rfl
      obtain ⟨r5, f5⟩ := at_block QQ 5 _ rfl
      have NB : (Value.slice a2 k c2).ownBlock = none ∨ (Value.slice a2 k c2).ownBlock ≠ some (w.heap.size + 1) := .inr (fun e => ne_rowB PV.2 QV (by decide) e.symm)
      clear QQ QV PV BV
      go_wp2_with fail
      go_region
      all_goals
        go_wp2
        refine bodyPost_ret (v := .tuple #[.agg #[.slice a2 k c2, .int .i64 t, .int .i64 m, .int .i64 2, .int .i64 a, .int .i64 f], .bool (s != 2)]) (by simp [results, Try.results29, go_sem, *]) rfl ?_
        rw [HRES.out]
        exact ⟨_, rfl, ((chk_own HOV.out NB _ _ _ _ _ _).ext (ext_drewN _ 1)).base s1, below_drewN (chk_below HBV.out (Nat.le_succ _) _ _ _ _ _ _) 1⟩

end Go.Proofs.Ytihlinhfnlfdmaa
