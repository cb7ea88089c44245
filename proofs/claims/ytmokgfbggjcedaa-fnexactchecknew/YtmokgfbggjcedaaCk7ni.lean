
/- CheckNew of the program. -/
import Derived.Test.YtmokgfbggjcedaaCk6
import Derived.Test.YtmokgfbggjcedaaCk7o
import Derived.BigQuiet
import Derived.WalkMore
namespace Go.Proofs.Ytmokgfbggjcedaa
open Go.RowKit

set_option maxRecDepth 20000

set_option maxHeartbeats 4000000 in
theorem iCheckNewV (v : Value) (os : List Int) (t m : Int) (w : World) (h : RV w v os) (hl : os.length ≤ 1048576) :
    Calls Try.prog 15 #[v, .int .i64 t, .int .i64 m] w fun e w' => ∃ tv, e = .returned (.tuple #[.agg #[tv, .int .i64 (newPD os t m).1.ttl, .int .i64 (newPD os t m).1.most, .int .i64 (newPD os t m).1.st, .int .i64 (newPD os t m).1.age, .int .i64 (newPD os t m).1.fails], .bool (newPD os t m).2]) ∧ OwB w' w.heap.size tv (newPD os t m).1.name ∧ Below w.heap.size w w' := by
  have hE : ∀ w : World, ∀ o, Ext w (w.alloc o) := fun w o => World.grownBy_alloc _ _ _
  have HT : Hid (RV w v os) := h
  have HN : Hid (os.length ≤ 1048576) := hl
  have HRG : Hid (∀ x ∈ os, 0 ≤ x ∧ x ≤ 255) := rv_rngK h
  obtain ⟨oa, cap, rfl⟩ := rv_shape h
  obtain ⟨R, hR⟩ : ∃ R, R = newPD os t m := ⟨_, rfl⟩
  rw [← hR]
  have HR : Hid (R = newPD os t m) := hR
  obtain ⟨k, hk⟩ : ∃ k, k = os.length := ⟨_, rfl⟩
  have HK : Hid (k = os.length) := hk
  rw [← hk] at HT ⊢
  clear h hR hk hl
  go_enter Try.func15, Try.ntmps15
  go_wp2_with fail
  generalize hW : World.alloc (World.alloc w _) _ = W
  have XW : Ext w W := by rw [← hW]; exact (hE _ _).tr (hE _ _)
  have P0 : W.heap[w.heap.size]? = some (.cells #[.slice none 0 0, .int .i64 0, .int .i64 0, .int .i64 0, .int .i64 0, .int .i64 0] 27 (0, 0)) := by rw [← hW, Below.heap_alloc _ _ _ (by simp)]; exact heap_alloc_new w _
  have P1 : W.heap[w.heap.size + 1]? = some (.cells #[.slice oa k cap, .int .i64 t, .int .i64 m, .int .i64 2, .int .i64 0, .int .i64 0] 27 (0, 0)) := by rw [← hW]; simpa using heap_alloc_new (World.alloc w _) (.cells #[.slice oa k cap, .int .i64 t, .int .i64 m, .int .i64 2, .int .i64 0, .int .i64 0] 27 (0, 0))
  clear hW
  refine (iCheckOkV _ ⟨os, t, m, 2, 0, 0⟩ W ⟨_, rfl, HT.out.ext XW⟩).mono ?_
  rintro e w1 ⟨rfl, b1⟩
  have X1 : Ext w w1 := XW.tr (ext_below b1)
  have Q0 := ext_blk (ext_below b1) P0
  have Q1 := ext_blk (ext_below b1) P1
  clear P0 P1 b1 XW
  obtain ⟨p0, p1, p2, p3, p4, p5⟩ := cells6 Q1
  cases hc : chkB ⟨os, t, m, 2, 0, 0⟩
  · have HZ : Hid (R = (zeroChk, false)) := by show _ = _; rw [HR.out]; unfold newPD; rw [hc]; rfl
    clear hc
    obtain ⟨r0, f0⟩ := at_block Q0 0 _ rfl
    obtain ⟨r1, f1⟩ := at_block Q0 1 _ rfl
    obtain ⟨r2, f2⟩ := at_block Q0 2 _ rfl
    obtain ⟨r3, f3⟩ := at_block Q0 3 _ rfl
    obtain ⟨r4, f4⟩ := at_block Q0 4 _ rfl
    obtain ⟨r5, f5⟩ := at_block Q0 5 _ rfl
    have HX := ext_bel X1
    clear Q0 Q1 X1
    go_wp2
    refine bodyPost_ret (v := .tuple #[.agg #[.slice none 0 0, .int .i64 0, .int .i64 0, .int .i64 0, .int .i64 0, .int .i64 0], .bool false]) (by simp [results, Try.results15, go_sem, *]) rfl ?_
    rw [HZ.out]
    exact ⟨_, rfl, OwB.nil _ _, chk_below HX (Nat.le_refl _) _ _ _ _ _ _⟩
  have HRES := hideR (show R = (⟨os, t, m, 2, 0, 0⟩, true) by rw [HR.out]; unfold newPD; rw [hc]; rfl)
  clear hc
  go_wp2_with fail
  refine (copyKV _ ⟨os, t, m, 2, 0, 0⟩ w1 ⟨_, rfl, HT.out.ext X1⟩ HN.out).mono ?_
  rintro e w2 ⟨tv2, rfl, O, b2⟩
  obtain ⟨a2, c2, hv2⟩ := O.shape
  simp only at hv2 O ⊢
  rw [← HK.out] at hv2
  subst hv2
  have s1 := X1.size
  have BZ := ext_bel (X1.tr (ext_below b2))
  have QZ := ext_blk (ext_below b2) Q0
  clear p0 p1 p2 p3 p4 p5 Q0 Q1 b2 X1
  have nb : (Value.slice a2 k c2).ownBlock = none ∨ (Value.slice a2 k c2).ownBlock ≠ some w.heap.size := .inr (fun e => ne_rowB O QZ (by decide) e.symm)
  have HOV := hideR O
  have HBV := hideR BZ
  obtain ⟨r0, f0⟩ := at_block QZ 0 _ rfl
  obtain ⟨r1, f1⟩ := at_block QZ 1 _ rfl
  obtain ⟨r2, f2⟩ := at_block QZ 2 _ rfl
  obtain ⟨r3, f3⟩ := at_block QZ 3 _ rfl
  obtain ⟨r4, f4⟩ := at_block QZ 4 _ rfl
  obtain ⟨r5, f5⟩ := at_block QZ 5 _ rfl
  clear QZ O BZ
  go_wp2
  refine bodyPost_ret (v := .tuple #[.agg #[.slice a2 k c2, .int .i64 t, .int .i64 m, .int .i64 2, .int .i64 0, .int .i64 0], .bool true]) (by simp [results, Try.results15, go_sem, *]) rfl ?_
  rw [HRES.out]
  exact ⟨_, rfl, (chk_own HOV.out nb _ _ _ _ _ _).base s1, chk_below HBV.out (Nat.le_refl _) _ _ _ _ _ _⟩

end Go.Proofs.Ytmokgfbggjcedaa
