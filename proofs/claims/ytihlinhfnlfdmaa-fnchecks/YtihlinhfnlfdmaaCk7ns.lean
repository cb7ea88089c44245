
/- CheckNew of the specification. -/
import Derived.Test.YtihlinhfnlfdmaaCk1z
import Derived.Test.YtihlinhfnlfdmaaCk4
import Derived.Test.YtihlinhfnlfdmaaCk7o
import Derived.BigQuiet
import Derived.WalkMore
namespace Go.Proofs.Ytihlinhfnlfdmaa
open Go.RowKit

set_option maxRecDepth 20000

set_option maxHeartbeats 4000000 in
theorem sCheckNewV (v : Value) (os : List Int) (t m : Int) (w : World) (h : RV w v os) (hl : os.length ≤ 1048576) :
    Calls Try.prog 26 #[v, .int .i64 t, .int .i64 m] w fun e w' => ∃ tv, e = .returned (.tuple #[.agg #[tv, .int .i64 (newPD os t m).1.ttl, .int .i64 (newPD os t m).1.most, .int .i64 (newPD os t m).1.st, .int .i64 (newPD os t m).1.age, .int .i64 (newPD os t m).1.fails], .bool (newPD os t m).2]) ∧ OwB w' w.heap.size tv (newPD os t m).1.name ∧ Below w.heap.size w w' := by
  have hE : ∀ w : World, ∀ o, Ext w (w.alloc o) := fun w o => World.grownBy_alloc _ _ _
  have HT : Hid (RV w v os) := h
  have HN : Hid (os.length ≤ 1048576) := hl
  have HRG : Hid (∀ x ∈ os, 0 ≤ x ∧ x ≤ 255) := rv_rngK h
  obtain ⟨oa, cap, rfl⟩ := rv_shape h
  obtain ⟨R, hR⟩ : ∃ R, R = newPD os t m := ⟨_, rfl⟩
  rw [← hR]
  have HR : Hid (R = newPD os t m) := hR
  obtain ⟨k, hk⟩ : ∃ k, k = os.length := ⟨_, rfl⟩
  have HK : Hid (k = os.length) := hk
  rw [← hk] at HT ⊢
  clear h hR hk hl
  go_enter Try.func26, Try.ntmps26
  go_upto_region 1 with fail
  generalize hW : World.alloc w _ = W
  have XW : Ext w W := by rw [← hW]; exact hE _ _
  have P0 : W.heap[w.heap.size]? = some (.cells #[.slice none 0 0, .int .i64 0, .int .i64 0, .int .i64 0, .int .i64 0, .int .i64 0] 24 (0, 0)) := by rw [← hW]; exact heap_alloc_new w _
  have sW : w.heap.size < W.heap.size := (Array.getElem?_eq_some_iff.1 P0).1
  clear hW
  have HP := hideR P0
  have HE : Hid (OwB (W.alloc (.cells #[] 5)) W.heap.size (.slice (some ⟨W.heap.size, 0, none⟩) 0 0) []) := ⟨ow_empty W, by simp⟩
  obtain ⟨_, _, hsl, HRD0, _, _⟩ := HT.out
  obtain ⟨rfl, hln, rfl⟩ := (by simpa using hsl : oa = _ ∧ k = _ ∧ cap = _)
  have HRD : Hid (Rd w oa k os) := by rw [hln]; exact HRD0
  clear HRD0 hsl hln P0
  have HFIN : Hid (∀ v1 w1, Ow w1 W.heap.size v1 ([] ++ os) → (W.alloc (.cells #[] 5)).grownBy w1 (Value.slice (some ⟨W.heap.size, 0, none⟩) 0 0).ownBlock → ∃ a1 c1, v1 = .slice a1 k c1 ∧ Ext W w1 ∧ OwB w1 W.heap.size v1 os) := fun v1 w1 o1a g1 => by
    rw [List.nil_append] at o1a
    have o1 : OwB w1 W.heap.size v1 os := ⟨o1a, HRG.out⟩
    obtain ⟨a1, c1, hv⟩ := o1.shape
    rw [← HK.out] at hv
    exact ⟨a1, c1, hv, ext_below (((Below.refl _ W).alloc (Nat.le_refl _) _).grown g1 (by simp) (fun k hk => by cases hk; exact Nat.le_refl _)), o1⟩
  go_upto_region 2 with (at_builtin; refine wpList_append_bytes _ rfl (.tmp 9) (.tmp 10) 22 rfl W.heap.size info5 Try.underlying22 _ [] rfl HE.out.1 oa k cap os rfl (HRD.out.grown (XW.tr (World.grownBy_alloc _ _ _))) (by have := HN.out; have := HK.out; simp; omega) (by simp) ?_; intro v1 w1 o1 g1; obtain ⟨a2, c2, hv1, X1, O1⟩ := HFIN.out v1 w1 o1 g1; subst hv1; clear o1 g1)
  generalize hU : World.alloc w1 _ = U
  have XU : Ext w1 U := by rw [← hU]; exact hE _ _
  have P1 : U.heap[w1.heap.size]? = some (.cells #[.slice a2 k c2, .int .i64 t, .int .i64 m, .int .i64 2, .int .i64 0, .int .i64 0] 24 (0, 0)) := by rw [← hU]; exact heap_alloc_new w1 _
  have O2 := O1.ext XU
  have X2 := X1.tr XU
  clear hU XU O1 X1 HFIN HE
  obtain ⟨p0, p1, p2, p3, p4, p5⟩ := cells6 P1
  go_wp2_with fail
  refine (sCheckOkV _ ⟨os, t, m, 2, 0, 0⟩ U ⟨_, rfl, O2.rv⟩).mono ?_
  rintro e w2 ⟨rfl, b1⟩
  have X1 : Ext w w2 := XW.tr (X2.tr (ext_below b1))
  have Q0 := ext_blk (X2.tr (ext_below b1)) HP.out
  have Q1 := ext_blk (ext_below b1) P1
  have O := O2.ext (ext_below b1)
  clear HP P1 b1 X2 O2 p0 p1 p2 p3 p4 p5
  obtain ⟨p0, p1, p2, p3, p4, p5⟩ := cells6 Q1
  cases hc : chkB ⟨os, t, m, 2, 0, 0⟩
  · have HZ : Hid (R = (zeroChk, false)) := by show _ = _; rw [HR.out]; unfold newPD; rw [hc]; rfl
    clear hc
    obtain ⟨r0, f0⟩ := at_block Q0 0 _ rfl
    obtain ⟨r1, f1⟩ := at_block Q0 1 _ rfl
    obtain ⟨r2, f2⟩ := at_block Q0 2 _ rfl
    obtain ⟨r3, f3⟩ := at_block Q0 3 _ rfl
    obtain ⟨r4, f4⟩ := at_block Q0 4 _ rfl
    obtain ⟨r5, f5⟩ := at_block Q0 5 _ rfl
    have HX := ext_bel X1
    clear Q0 Q1 X1
    go_wp2
    refine bodyPost_ret (v := .tuple #[.agg #[.slice none 0 0, .int .i64 0, .int .i64 0, .int .i64 0, .int .i64 0, .int .i64 0], .bool false]) (by simp [results, Try.results26, go_sem, *]) rfl ?_
    rw [HZ.out]
    exact ⟨_, rfl, OwB.nil _ _, chk_below HX (Nat.le_refl _) _ _ _ _ _ _⟩
  have HRES := hideR (show R = (⟨os, t, m, 2, 0, 0⟩, true) by rw [HR.out]; unfold newPD; rw [hc]; rfl)
  clear hc
  have s1 : w.heap.size ≤ W.heap.size := by omega
  have BZ := ext_bel X1
  have QZ := Q0
  clear Q0 Q1 X1
  have nb : (Value.slice a2 k c2).ownBlock = none ∨ (Value.slice a2 k c2).ownBlock ≠ some w.heap.size := .inr (fun e => ne_rowB O QZ (by decide) e.symm)
  have HOV := hideR O
  have HBV := hideR BZ
  obtain ⟨r0, f0⟩ := at_block QZ 0 _ rfl
  obtain ⟨r1, f1⟩ := at_block QZ 1 _ rfl
  obtain ⟨r2, f2⟩ := at_block QZ 2 _ rfl
  obtain ⟨r3, f3⟩ := at_block QZ 3 _ rfl
  obtain ⟨r4, f4⟩ := at_block QZ 4 _ rfl
  obtain ⟨r5, f5⟩ := at_block QZ 5 _ rfl
  clear QZ O BZ
  go_wp2
  refine bodyPost_ret (v := .tuple #[.agg #[.slice a2 k c2, .int .i64 t, .int .i64 m, .int .i64 2, .int .i64 0, .int .i64 0], .bool true]) (by simp [results, Try.results26, go_sem, *]) rfl ?_
  rw [HRES.out]
  exact ⟨_, rfl, (chk_own HOV.out nb _ _ _ _ _ _).base s1, chk_below HBV.out (Nat.le_refl _) _ _ _ _ _ _⟩

end Go.Proofs.Ytihlinhfnlfdmaa
