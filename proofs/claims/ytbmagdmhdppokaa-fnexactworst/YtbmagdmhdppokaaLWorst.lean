
/- The exact statement of Worst: the walk of the law itself. -/
import Derived.Test.YtbmagdmhdppokaaWs13
import Derived.Test.YtbmagdmhdppokaaOpenKS
namespace Go.Proofs.Ytbmagdmhdppokaa
open Go.RowKit

theorem zK_le (ss : List DChk) (h : ss.length + sK ss ≤ 1048576) : ss.length ≤ 1048576 ∧ ∀ (i : Nat) (s : DChk), ss[i]? = some s → s.name.length ≤ 1048576 := ⟨by omega, fun i s hs => by
  have h1 := sum_mem zK ss i s hs
  have h2 : (ss.map zK).sum = sK ss := rfl
  have h3 : zK s = s.name.length := rfl
  omega⟩

set_option maxRecDepth 20000 in
set_option maxHeartbeats 4000000 in
theorem law_Worst (v : Value) (ss : List DChk) (w : World) (h : VChks w v ss) :
    Calls Try.prog 3 #[v] w fun e w' => e = .returned (.bool true) ∧ Below w.heap.size w w' := by
  have h0 := hideR h
  have HRG := hideR (show ∀ (i : Nat) (s : DChk), ss[i]? = some s → ∀ x ∈ s.name, 0 ≤ x ∧ x ≤ 255 from fun i s hs => by
    obtain ⟨C, _, hC⟩ := h
    exact rv_rngK (hC i s hs).1)
  clear h
  obtain ⟨R, hR⟩ : ∃ R, R = worstF 0 ss := ⟨_, rfl⟩
  have HR := hideR hR
  clear hR
  obtain ⟨nn, hnn⟩ : ∃ nn, nn = ss.length + sK ss := ⟨_, rfl⟩
  have HNN := hideR hnn
  clear hnn
  go_enter Try.func3, Try.ntmps3
  go_wp2_with fail
  refine (szS_K _ ss 1048576 w h0.out (by omega) (by omega)).mono ?_
  rintro e w1 ⟨r, rfl, hrr, B1⟩
  rw [← HNN.out] at hrr
  rcases hrr with ⟨h1, rfl⟩ | ⟨h1, h2⟩
  · go_wp2_with fail
    go_ret
    exact ⟨rfl, B1⟩
  have HL := hideR (zK_le ss (by have := HNN.out; omega))
  have hr0 : 0 ≤ r := by omega
  clear h1 h2
  have HTO : Hid (∀ V, Below w.heap.size w V → Calls Try.prog 7 #[v] V fun e w' => ∃ u, e = .returned u ∧ Hid (VChks w' u ss) ∧ Below V.heap.size V w') := fun V e => (toS_K _ ss V (h0.out.ext (ext_below e)) HL.out.1 HL.out.2).mono (fun e w' ⟨F, h1, h2, h3, h4⟩ => ⟨_, h1, ⟨F, blk_SL h2 (by have := HL.out.1; unfold maxLen; omega), fun i d hd => by
    obtain ⟨e0, e1, e2, e3, e4, e5⟩ := h3 i d hd
    exact ⟨Ow.rv e0 (HRG.out i d hd), e1, e2, e3, e4, e5⟩⟩, h4⟩)
  go_wp2_with fail
  refine (HTO.out w1 B1).mono ?_
  rintro e w2 ⟨u2, rfl, V2, b2⟩
  have B2 := B1.trans (b2.mono B1.size)
  go_wp2_with fail
  refine (sWorstV _ ss w2 V2.out HL.out.1).mono ?_
  rintro e w3 ⟨rfl, b3⟩
  rw [← HR.out]
  have B3 := B2.trans (b3.mono B2.size)
  clear b2 b3 V2
  go_wp2_with fail
  refine (HTO.out w3 B3).mono ?_
  rintro e w4 ⟨u4, rfl, V4, b4⟩
  have B4 := B3.trans (b4.mono B3.size)
  go_wp2_with fail
  refine (iWorstV _ ss w4 V4.out HL.out.1).mono ?_
  rintro e w5 ⟨rfl, b5⟩
  rw [← HR.out]
  have B5 := B4.trans (b5.mono B4.size)
  have V5 := hideR (V4.out.ext (ext_below b5))
  clear b4 b5 V4
  go_wp2_with fail
  refine (HTO.out w5 B5).mono ?_
  rintro e w6 ⟨u6, rfl, V6, b6⟩
  have B6 := B5.trans (b6.mono B5.size)
  go_wp2_with fail
  refine (eqS_K _ _ ss w6 (V5.out.ext (ext_below b6)) V6.out HL.out.1 HL.out.2).mono ?_
  rintro e w7 ⟨rfl, b7⟩
  have B7 := B6.trans (b7.mono B6.size)
  go_wp2_with fail
  go_ret
  exact ⟨rfl, B7⟩

end Go.Proofs.Ytbmagdmhdppokaa
