/- TermAt, the specification's and the program's. -/
import Derived.Test.YtpmkmnniccbljamNdT0
import Derived.Test.YtpmkmnniccbljamNdS
namespace Go.Proofs.Ytpmkmnniccbljam
open Go.RowKit

def termAtR (M : DNode) (s x : Int) (h : Decidable (NodeP M s) := Classical.propDecidable (NodeP M s)) : Int := if tB (NodeP M s) h = true then termF M.log x else 0
set_option maxHeartbeats 4000000 in
theorem sTermAtV (v : Value) (M : DNode) (s x : Int) (w : World) (h : VNode w v M) :
    Calls Try.prog 15 #[v, .int .i64 s, .int .i64 x] w fun e w' => e = .returned (.int .i64 (termAtR M s x)) ∧ Below w.heap.size w w' := by
  have hE : ∀ w : World, ∀ o, Ext w (w.alloc o) := fun w o => World.grownBy_alloc _ _ _
  have hB : ∀ w : World, ∀ o, Below w.heap.size w (w.alloc o) := fun w o => (Below.refl _ w).alloc (Nat.le_refl _) _
  have H0 : Hid (VNode w v M) := h
  obtain ⟨lv, bv, nv, mv, rfl, hi, hbv, hnv, hmv⟩ := h
  have HI : Hid (VItems w lv M.log) := hi
  have HB : Hid (VL fB w bv M.votes) := hbv
  have HX : Hid (VL fI w nv M.next) := hnv
  have HM : Hid (VL fI w mv M.mat) := hmv
  obtain ⟨ia, ic, rfl⟩ := items_shape hi
  obtain ⟨ba, bc, rfl⟩ := vl_shape hbv
  obtain ⟨na, nc, rfl⟩ := vl_shape hnv
  obtain ⟨ma, mc, rfl⟩ := vl_shape hmv
  clear hi hbv hnv hmv
  obtain ⟨tb, TB⟩ : ∃ t, tB (NodeP M s) = t := ⟨_, rfl⟩
  go_enter Try.func15, Try.ntmps15
  go_wp2_with fail
  refine (sNodeOkP M s _ _ (H0.out.ext (hE _ _))).mono ?_
  rintro e w3 ⟨rfl, b3⟩
  rw [TB]
  have B3 := (hB w _).trans (b3.mono (by simp))
  have R3 := below_blk b3 (by simp) (heap_alloc_new w _)
  obtain ⟨d0, _⟩ := at_block R3 0 _ rfl
  obtain ⟨d1, _⟩ := at_block R3 1 _ rfl
  obtain ⟨d2, _⟩ := at_block R3 2 _ rfl
  obtain ⟨d3, _⟩ := at_block R3 3 _ rfl
  obtain ⟨d4, _⟩ := at_block R3 4 _ rfl
  obtain ⟨d5, _⟩ := at_block R3 5 _ rfl
  obtain ⟨d6, _⟩ := at_block R3 6 _ rfl
  obtain ⟨d7, _⟩ := at_block R3 7 _ rfl
  obtain ⟨d8, _⟩ := at_block R3 8 _ rfl
  obtain ⟨d9, _⟩ := at_block R3 9 _ rfl
  obtain ⟨d10, _⟩ := at_block R3 10 _ rfl
  have HT : Hid (tB (NodeP M s) = tb) := TB
  clear TB
  cases tb
  case false =>
    go_wp2
    go_ret
    exact ⟨by unfold termAtR; rw [HT.out]; rfl, B3⟩
  go_wp2_with fail
  refine (l4termAtV _ x _ _ _ _ _ _ _ _ _ _ _ M.log w3 R3 ((HI.out.ext (hE _ _)).ext (ext_below b3))).mono ?_
  rintro e w4 ⟨rfl, rfl⟩
  have HF : Hid (termAtR M s x = termF M.log x) := by show _ = _; unfold termAtR; rw [HT.out]; rfl
  go_wp2
  go_ret
  exact ⟨by rw [HF.out]; rfl, B3⟩

set_option maxHeartbeats 4000000 in
theorem iTermAtV (v : Value) (M : DNode) (s x : Int) (w : World) (h : VNode w v M) :
    Calls Try.prog 16 #[v, .int .i64 s, .int .i64 x] w fun e w' => e = .returned (.int .i64 (termAtR M s x)) ∧ Below w.heap.size w w' := by
  have hE : ∀ w : World, ∀ o, Ext w (w.alloc o) := fun w o => World.grownBy_alloc _ _ _
  have hB : ∀ w : World, ∀ o, Below w.heap.size w (w.alloc o) := fun w o => (Below.refl _ w).alloc (Nat.le_refl _) _
  have H0 : Hid (VNode w v M) := h
  obtain ⟨lv, bv, nv, mv, rfl, hi, hbv, hnv, hmv⟩ := h
  have HI : Hid (VItems w lv M.log) := hi
  have HB : Hid (VL fB w bv M.votes) := hbv
  have HX : Hid (VL fI w nv M.next) := hnv
  have HM : Hid (VL fI w mv M.mat) := hmv
  obtain ⟨ia, ic, rfl⟩ := items_shape hi
  obtain ⟨ba, bc, rfl⟩ := vl_shape hbv
  obtain ⟨na, nc, rfl⟩ := vl_shape hnv
  obtain ⟨ma, mc, rfl⟩ := vl_shape hmv
  clear hi hbv hnv hmv
  obtain ⟨tb, TB⟩ : ∃ t, tB (NodeP M s) = t := ⟨_, rfl⟩
  go_enter Try.func16, Try.ntmps16
  go_wp2_with fail
  refine (iNodeOkP _ M s _ (H0.out.ext (hE _ _))).mono ?_
  rintro e w3 ⟨rfl, b3⟩
  rw [TB]
  have B3 := (hB w _).trans (b3.mono (by simp))
  have R3 := below_blk b3 (by simp) (heap_alloc_new w _)
  obtain ⟨d0, _⟩ := at_block R3 0 _ rfl
  obtain ⟨d1, _⟩ := at_block R3 1 _ rfl
  obtain ⟨d2, _⟩ := at_block R3 2 _ rfl
  obtain ⟨d3, _⟩ := at_block R3 3 _ rfl
  obtain ⟨d4, _⟩ := at_block R3 4 _ rfl
  obtain ⟨d5, _⟩ := at_block R3 5 _ rfl
  obtain ⟨d6, _⟩ := at_block R3 6 _ rfl
  obtain ⟨d7, _⟩ := at_block R3 7 _ rfl
  obtain ⟨d8, _⟩ := at_block R3 8 _ rfl
  obtain ⟨d9, _⟩ := at_block R3 9 _ rfl
  obtain ⟨d10, _⟩ := at_block R3 10 _ rfl
  have HT : Hid (tB (NodeP M s) = tb) := TB
  clear TB
  cases tb
  case false =>
    go_wp2
    go_ret
    exact ⟨by unfold termAtR; rw [HT.out]; rfl, B3⟩
  go_wp2_with fail
  refine (serverOfV M _ _ _ _ w3 ((HI.out.ext (hE _ _)).ext (ext_below b3)) ((HB.out.ext (hE _ _)).ext (ext_below b3)) ((HX.out.ext (hE _ _)).ext (ext_below b3)) ((HM.out.ext (hE _ _)).ext (ext_below b3))).mono ?_
  rintro e w4 ⟨g, rfl, hg, hsv, b4⟩
  have B4 := B3.trans (b4.mono B3.size)
  have HI4 : Hid (VItems w4 (.slice ia M.log.length ic) M.log) := (HI.out.ext (hE _ _)).ext (ext_below b3) |>.ext (ext_below b4)
  go_wp2_with fail
  refine (itermAtV g x M _ _ _ _ _ w4 hsv HI4.out).mono ?_
  rintro e w5 ⟨rfl, rfl⟩
  have HF : Hid (termAtR M s x = termF M.log x) := by show _ = _; unfold termAtR; rw [HT.out]; rfl
  go_wp2
  go_ret
  exact ⟨by rw [HF.out]; rfl, B4⟩


end Go.Proofs.Ytpmkmnniccbljam
