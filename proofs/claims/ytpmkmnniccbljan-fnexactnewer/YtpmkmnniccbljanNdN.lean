/- Newer, the specification's and the program's. -/
import Derived.Test.YtpmkmnniccbljanNdT0
import Derived.Test.YtpmkmnniccbljanNdS
namespace Go.Proofs.Ytpmkmnniccbljan
open Go.RowKit

def newerR (M : DNode) (s x y : Int) (h : Decidable (NodeP M s) := Classical.propDecidable (NodeP M s)) : Bool := tB (NodeP M s) h && (decide (termF M.log M.log.length < y) || ((y == termF M.log M.log.length) && decide ((M.log.length : Int) ≤ x)))

set_option maxHeartbeats 4000000 in
theorem sNewerV (v : Value) (M : DNode) (s x y : Int) (w : World) (h : VNode w v M) :
    Calls Try.prog 9 #[v, .int .i64 s, .int .i64 x, .int .i64 y] w fun e w' => e = .returned (.bool (newerR M s x y)) ∧ Below w.heap.size w w' := by
  have hE : ∀ w : World, ∀ o, Ext w (w.alloc o) := fun w o => World.grownBy_alloc _ _ _
  have hB : ∀ w : World, ∀ o, Below w.heap.size w (w.alloc o) := fun w o => (Below.refl _ w).alloc (Nat.le_refl _) _
  have H0 : Hid (VNode w v M) := h
  obtain ⟨lv, bv, nv, mv, rfl, hi, hbv, hnv, hmv⟩ := h
  have HI : Hid (VItems w lv M.log) := hi
  have HB : Hid (VL fB w bv M.votes) := hbv
  have HX : Hid (VL fI w nv M.next) := hnv
  have HM : Hid (VL fI w mv M.mat) := hmv
  obtain ⟨ia, ic, rfl⟩ := items_shape hi
  obtain ⟨ba, bc, rfl⟩ := vl_shape hbv
  obtain ⟨na, nc, rfl⟩ := vl_shape hnv
  obtain ⟨ma, mc, rfl⟩ := vl_shape hmv
  clear hi hbv hnv hmv
  obtain ⟨tb, TB⟩ : ∃ t, tB (NodeP M s) = t := ⟨_, rfl⟩
  go_enter Try.func9, Try.ntmps9
  go_wp2_with fail
  refine (sNodeOkP M s _ _ (H0.out.ext (hE _ _))).mono ?_
  rintro e w3 ⟨rfl, b3⟩
  rw [TB]
  have B3 := (hB w _).trans (b3.mono (by simp))
  have R3 := below_blk b3 (by simp) (heap_alloc_new w _)
  obtain ⟨d0, _⟩ := at_block R3 0 _ rfl
  obtain ⟨d1, _⟩ := at_block R3 1 _ rfl
  obtain ⟨d2, _⟩ := at_block R3 2 _ rfl
  obtain ⟨d3, _⟩ := at_block R3 3 _ rfl
  obtain ⟨d4, _⟩ := at_block R3 4 _ rfl
  obtain ⟨d5, _⟩ := at_block R3 5 _ rfl
  obtain ⟨d6, _⟩ := at_block R3 6 _ rfl
  obtain ⟨d7, _⟩ := at_block R3 7 _ rfl
  obtain ⟨d8, _⟩ := at_block R3 8 _ rfl
  obtain ⟨d9, _⟩ := at_block R3 9 _ rfl
  obtain ⟨d10, _⟩ := at_block R3 10 _ rfl
  have HT : Hid (tB (NodeP M s) = tb) := TB
  clear TB
  cases tb
  case false =>
    go_wp2
    go_ret
    exact ⟨by unfold newerR; rw [HT.out]; rfl, B3⟩
  go_wp2_with fail
  refine (l4termAtV _ M.log.length _ _ _ _ _ _ _ _ _ _ _ M.log w3 R3 ((HI.out.ext (hE _ _)).ext (ext_below b3))).mono ?_
  rintro e w4 ⟨rfl, rfl⟩
  have HF : Hid (newerR M s x y = (decide (termF M.log M.log.length < y) || ((y == termF M.log M.log.length) && decide ((M.log.length : Int) ≤ x)))) := by show _ = _; unfold newerR; rw [HT.out]; rfl
  generalize termF M.log M.log.length = q at HF ⊢
  cases f1 : decide (q < y)
  case true =>
    go_wp2
    go_ret
    exact ⟨by rw [HF.out, f1]; rfl, B3⟩
  cases f2 : (y == q)
  case false =>
    go_wp2
    go_ret
    exact ⟨by rw [HF.out, f1, f2]; rfl, B3⟩
  go_wp2
  go_ret
  exact ⟨by rw [HF.out, f1, f2]; rfl, B3⟩

set_option maxHeartbeats 4000000 in
theorem lastTermV (g : Nat) (M : DNode) (lv bv nv mv sv : Value) (w : World) (hg : Srv w g M lv bv nv mv sv) (h : VItems w lv M.log) :
    Calls Try.prog 72 #[.pointer (some ⟨g, 0, none⟩)] w fun e w' => e = .returned (.int .i64 (termF M.log M.log.length)) ∧ w' = w := by
  have HG : Hid (Srv w g M lv bv nv mv sv) := hg
  have HH : Hid (VItems w lv M.log) := h
  unfold Srv at hg
  obtain ⟨ia, ic, rfl⟩ := items_shape h
  obtain ⟨c4, _⟩ := at_block hg 4 _ rfl
  clear hg h
  go_enter Try.func72, Try.ntmps72
  go_wp2_with fail
  refine (itermAtV g M.log.length M _ bv nv mv sv w HG.out HH.out).mono ?_
  rintro e w2 ⟨rfl, rfl⟩
  go_wp2
  go_ret
  exact ⟨rfl, rfl⟩

set_option maxHeartbeats 4000000 in
theorem isAsNewV (g : Nat) (x y : Int) (M : DNode) (lv bv nv mv sv : Value) (w : World) (hg : Srv w g M lv bv nv mv sv) (h : VItems w lv M.log) :
    Calls Try.prog 41 #[.pointer (some ⟨g, 0, none⟩), .int .i64 x, .int .i64 y] w fun e w' => e = .returned (.bool (decide (termF M.log M.log.length < y) || ((y == termF M.log M.log.length) && decide ((M.log.length : Int) ≤ x)))) ∧ Below w.heap.size w w' := by
  have HG : Hid (Srv w g M lv bv nv mv sv) := hg
  have HH : Hid (VItems w lv M.log) := h
  unfold Srv at hg
  obtain ⟨ia, ic, rfl⟩ := items_shape h
  obtain ⟨c4, _⟩ := at_block hg 4 _ rfl
  clear hg h
  have HL : Hid (Calls Try.prog 72 #[.pointer (some ⟨g, 0, none⟩)] w fun e w' => e = .returned (.int .i64 (termF M.log M.log.length)) ∧ w' = w) := lastTermV g M _ bv nv mv sv _ HG.out HH.out
  generalize termF M.log M.log.length = t at HL ⊢
  cases f1 : decide (t < y)
  case true =>
    go_enter Try.func41, Try.ntmps41
    go_wp2_with (go_at_call 72; refine HL.out.mono ?_; rintro e w2 ⟨rfl, rfl⟩)
    go_ret
    exact ⟨rfl, Below.refl _ _⟩
  cases f2 : (y == t)
  case false =>
    go_enter Try.func41, Try.ntmps41
    go_wp2_with (go_at_call 72; refine HL.out.mono ?_; rintro e w2 ⟨rfl, rfl⟩)
    go_ret
    exact ⟨rfl, Below.refl _ _⟩
  go_enter Try.func41, Try.ntmps41
  go_wp2_with (go_at_call 72; refine HL.out.mono ?_; rintro e w2 ⟨rfl, rfl⟩)
  go_ret
  exact ⟨rfl, Below.refl _ _⟩

set_option maxHeartbeats 4000000 in
theorem iNewerV (v : Value) (M : DNode) (s x y : Int) (w : World) (h : VNode w v M) :
    Calls Try.prog 11 #[v, .int .i64 s, .int .i64 x, .int .i64 y] w fun e w' => e = .returned (.bool (newerR M s x y)) ∧ Below w.heap.size w w' := by
  have hE : ∀ w : World, ∀ o, Ext w (w.alloc o) := fun w o => World.grownBy_alloc _ _ _
  have hB : ∀ w : World, ∀ o, Below w.heap.size w (w.alloc o) := fun w o => (Below.refl _ w).alloc (Nat.le_refl _) _
  have H0 : Hid (VNode w v M) := h
  obtain ⟨lv, bv, nv, mv, rfl, hi, hbv, hnv, hmv⟩ := h
  have HI : Hid (VItems w lv M.log) := hi
  have HB : Hid (VL fB w bv M.votes) := hbv
  have HX : Hid (VL fI w nv M.next) := hnv
  have HM : Hid (VL fI w mv M.mat) := hmv
  obtain ⟨ia, ic, rfl⟩ := items_shape hi
  obtain ⟨ba, bc, rfl⟩ := vl_shape hbv
  obtain ⟨na, nc, rfl⟩ := vl_shape hnv
  obtain ⟨ma, mc, rfl⟩ := vl_shape hmv
  clear hi hbv hnv hmv
  obtain ⟨tb, TB⟩ : ∃ t, tB (NodeP M s) = t := ⟨_, rfl⟩
  go_enter Try.func11, Try.ntmps11
  go_wp2_with fail
  refine (iNodeOkP _ M s _ (H0.out.ext (hE _ _))).mono ?_
  rintro e w3 ⟨rfl, b3⟩
  rw [TB]
  have B3 := (hB w _).trans (b3.mono (by simp))
  have R3 := below_blk b3 (by simp) (heap_alloc_new w _)
  obtain ⟨d0, _⟩ := at_block R3 0 _ rfl
  obtain ⟨d1, _⟩ := at_block R3 1 _ rfl
  obtain ⟨d2, _⟩ := at_block R3 2 _ rfl
  obtain ⟨d3, _⟩ := at_block R3 3 _ rfl
  obtain ⟨d4, _⟩ := at_block R3 4 _ rfl
  obtain ⟨d5, _⟩ := at_block R3 5 _ rfl
  obtain ⟨d6, _⟩ := at_block R3 6 _ rfl
  obtain ⟨d7, _⟩ := at_block R3 7 _ rfl
  obtain ⟨d8, _⟩ := at_block R3 8 _ rfl
  obtain ⟨d9, _⟩ := at_block R3 9 _ rfl
  obtain ⟨d10, _⟩ := at_block R3 10 _ rfl
  have HT : Hid (tB (NodeP M s) = tb) := TB
  clear TB
  cases tb
  case false =>
    go_wp2
    go_ret
    exact ⟨by unfold newerR; rw [HT.out]; rfl, B3⟩
  go_wp2_with fail
  refine (serverOfV M _ _ _ _ w3 ((HI.out.ext (hE _ _)).ext (ext_below b3)) ((HB.out.ext (hE _ _)).ext (ext_below b3)) ((HX.out.ext (hE _ _)).ext (ext_below b3)) ((HM.out.ext (hE _ _)).ext (ext_below b3))).mono ?_
  rintro e w4 ⟨g, rfl, hg, hsv, b4⟩
  have B4 := B3.trans (b4.mono B3.size)
  have HI4 : Hid (VItems w4 (.slice ia M.log.length ic) M.log) := (HI.out.ext (hE _ _)).ext (ext_below b3) |>.ext (ext_below b4)
  go_wp2_with fail
  refine (isAsNewV g x y M _ _ _ _ _ w4 hsv HI4.out).mono ?_
  rintro e w5 ⟨rfl, b5⟩
  have HF : Hid (newerR M s x y = (decide (termF M.log M.log.length < y) || ((y == termF M.log M.log.length) && decide ((M.log.length : Int) ≤ x)))) := by show _ = _; unfold newerR; rw [HT.out]; rfl
  rw [← HF.out]
  go_wp2
  go_ret
  exact ⟨rfl, B4.trans (b5.mono B4.size)⟩


end Go.Proofs.Ytpmkmnniccbljan
