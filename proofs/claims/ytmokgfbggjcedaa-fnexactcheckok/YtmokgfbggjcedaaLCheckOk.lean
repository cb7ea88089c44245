
/- The exact statement of CheckOk: the walk of the law itself. -/
import Derived.Test.YtmokgfbggjcedaaCk5
import Derived.Test.YtmokgfbggjcedaaCk1z
import Derived.Test.YtmokgfbggjcedaaCk6
import Derived.Deep.RegionHeld3
namespace Go.Proofs.Ytmokgfbggjcedaa
open Go.RowKit

set_option maxRecDepth 20000 in
set_option maxHeartbeats 4000000 in
theorem law_CheckOk (v : Value) (D : DChk) (w : World) (h : VChk w v D) :
    Calls Try.prog 3 #[v] w fun e w' => e = .returned (.bool true) ∧ Below w.heap.size w w' := by
  have hE : ∀ w : World, ∀ o, Ext w (w.alloc o) := fun w o => World.grownBy_alloc _ _ _
  have hB : ∀ w : World, ∀ o, Below w.heap.size w (w.alloc o) := fun w o => (Below.refl _ w).alloc (Nat.le_refl _) _
  have h0 : Hid (VChk w v D) := h
  obtain ⟨tv, rfl, ht⟩ := h
  obtain ⟨ta, tc, rfl⟩ := rv_shape ht
  obtain ⟨n, hn⟩ : ∃ n, n = D.name.length := ⟨_, rfl⟩
  have HN : Hid (n = D.name.length) := hn
  rw [← hn] at h0 ⊢
  clear hn ht
  go_enter Try.func3, Try.ntmps3
  go_wp2_with fail
  refine (szChk _ D 1048576 _ (h0.out.ext (hE _ _)) (by omega) (by omega)).mono ?_
  rintro e w1 ⟨r, rfl, hrr, b1⟩
  rw [← HN.out] at hrr
  have B1 := (hB w _).trans (b1.mono (by simp))
  have P1 : w1.heap[w.heap.size]? = some (.cells #[.slice ta n tc, .int .i64 D.ttl, .int .i64 D.most, .int .i64 D.st, .int .i64 D.age, .int .i64 D.fails] 24 (0, 0)) := below_blk b1 (by simp) (heap_alloc_new w _)
  rcases hrr with ⟨h1, rfl⟩ | ⟨h1, h2⟩
  · go_wp2_with fail
    go_ret
    exact ⟨rfl, B1⟩
  have HLE : Hid (D.name.length ≤ 1048576) := by have := HN.out; show _ ≤ _; omega
  have hl : n ≤ 1048576 := by omega
  have hr0 : 0 ≤ r := by omega
  clear h1 h2 b1
  obtain ⟨p0, p1, p2, p3, p4, p5⟩ := cells6 P1
  have HTA : Hid (∀ V, Below w.heap.size w V → Calls Try.prog 10 #[.agg #[.slice ta n tc, .int .i64 D.ttl, .int .i64 D.most, .int .i64 D.st, .int .i64 D.age, .int .i64 D.fails]] V fun e w' => ∃ xa xc, e = .returned (.agg #[.slice xa n xc, .int .i64 D.ttl, .int .i64 D.most, .int .i64 D.st, .int .i64 D.age, .int .i64 D.fails]) ∧ Hid (OwB w' V.heap.size (.slice xa n xc) D.name) ∧ Below V.heap.size V w') := fun V e => (toChkO _ D V (h0.out.ext (ext_below e)) HLE.out).mono (fun e w' ⟨xa, xc, h1, h2, h3⟩ => by rw [← HN.out] at h1 h2; exact ⟨xa, xc, h1, h2, h3⟩)
  obtain ⟨R, hR⟩ : ∃ R, R = chkB D := ⟨_, rfl⟩
  have HR : Hid (R = chkB D) := hR
  clear hR
  go_wp2_with fail
  refine (HTA.out w1 B1).mono ?_
  rintro e w2 ⟨xa2, xc2, rfl, o2, b2⟩
  have X2 : Ext w1 w2 := ext_below b2
  clear b2
  go_wp2_with fail
  refine (sCheckOkV _ D w2 ⟨_, rfl, o2.out.rv⟩).mono ?_
  rintro e w3 ⟨rfl, b3⟩
  rw [← HR.out]
  have X3 : Ext w1 w3 := X2.tr (ext_below b3)
  have B3 := B1.trans ((ext_bel X3).mono B1.size)
  clear b3 X2 o2 p0 p1 p2 p3 p4 p5
  obtain ⟨p0, p1, p2, p3, p4, p5⟩ := cells6 (ext_blk X3 P1)
  go_wp2_with fail
  refine (HTA.out w3 B3).mono ?_
  rintro e w4 ⟨xa4, xc4, rfl, o4, b4⟩
  have X4 : Ext w1 w4 := X3.tr (ext_below b4)
  have HM4 : Hid (∀ W, W = w4.alloc (.cells #[.slice xa4 n xc4, .int .i64 D.ttl, .int .i64 D.most, .int .i64 D.st, .int .i64 D.age, .int .i64 D.fails] 27 (0, 0)) → Ext w1 W ∧ W.heap[w4.heap.size]? = some (.cells #[.slice xa4 n xc4, .int .i64 D.ttl, .int .i64 D.most, .int .i64 D.st, .int .i64 D.age, .int .i64 D.fails] 27 (0, 0)) ∧ OwB W w3.heap.size (.slice xa4 n xc4) D.name) := fun W hW => by
    subst hW
    exact ⟨X4.tr (hE _ _), heap_alloc_new _ _, o4.out.ext (hE _ _)⟩
  clear b4 p0 p1 p2 p3 p4 p5
  go_upto_region 7 with fail
  generalize hU : w4.alloc _ = U4
  obtain ⟨X1U, XU, OX⟩ := HM4.out U4 hU.symm
  clear hU HM4 X4 o4
  generalize w4.heap.size = bx at *
  obtain ⟨q0, q1, q2, q3, q4, q5⟩ := cells6 XU
  go_wp2_with fail
  refine (iCheckOkV _ D U4 ⟨_, rfl, OX.rv⟩).mono ?_
  rintro e W1 ⟨rfl, b5⟩
  rw [← HR.out]
  have X1W : Ext w1 W1 := X1U.tr (ext_below b5)
  have HLOW : Hid (Below w.heap.size w W1) := B1.trans ((ext_bel X1W).mono B1.size)
  have HX1 : Hid (OwB W1 w3.heap.size (.slice xa4 n xc4) D.name) := OX.ext (ext_below b5)
  obtain ⟨x0, x1, x2, x3, x4, x5⟩ := cells6 (ext_blk (ext_below b5) XU)
  obtain ⟨a0, a1, a2, a3, a4, a5⟩ := cells6 (ext_blk X1W P1)
  have HS1 : Hid ((W1.cell? ⟨bx, 0, none⟩ = some (.slice xa4 n xc4) ∧ W1.cell? ⟨bx, 1, none⟩ = some (.int .i64 D.ttl) ∧ W1.cell? ⟨bx, 2, none⟩ = some (.int .i64 D.most) ∧ W1.cell? ⟨bx, 3, none⟩ = some (.int .i64 D.st) ∧ W1.cell? ⟨bx, 4, none⟩ = some (.int .i64 D.age) ∧ W1.cell? ⟨bx, 5, none⟩ = some (.int .i64 D.fails)) ∧ (W1.cell? ⟨w.heap.size, 0, none⟩ = some (.slice ta n tc) ∧ W1.cell? ⟨w.heap.size, 1, none⟩ = some (.int .i64 D.ttl) ∧ W1.cell? ⟨w.heap.size, 2, none⟩ = some (.int .i64 D.most) ∧ W1.cell? ⟨w.heap.size, 3, none⟩ = some (.int .i64 D.st) ∧ W1.cell? ⟨w.heap.size, 4, none⟩ = some (.int .i64 D.age) ∧ W1.cell? ⟨w.heap.size, 5, none⟩ = some (.int .i64 D.fails))) := ⟨⟨x0, x1, x2, x3, x4, x5⟩, ⟨a0, a1, a2, a3, a4, a5⟩⟩
  clear b5 XU OX X1U q0 q1 q2 q3 q4 q5
  go_upto_region 10 with fail
  go_region_held3 (fun w' => (w'.cell? ⟨bx, 0, none⟩ = some (.slice xa4 n xc4) ∧ w'.cell? ⟨bx, 1, none⟩ = some (.int .i64 D.ttl) ∧ w'.cell? ⟨bx, 2, none⟩ = some (.int .i64 D.most) ∧ w'.cell? ⟨bx, 3, none⟩ = some (.int .i64 D.st) ∧ w'.cell? ⟨bx, 4, none⟩ = some (.int .i64 D.age) ∧ w'.cell? ⟨bx, 5, none⟩ = some (.int .i64 D.fails)) ∧ (w'.cell? ⟨w.heap.size, 0, none⟩ = some (.slice ta n tc) ∧ w'.cell? ⟨w.heap.size, 1, none⟩ = some (.int .i64 D.ttl) ∧ w'.cell? ⟨w.heap.size, 2, none⟩ = some (.int .i64 D.most) ∧ w'.cell? ⟨w.heap.size, 3, none⟩ = some (.int .i64 D.st) ∧ w'.cell? ⟨w.heap.size, 4, none⟩ = some (.int .i64 D.age) ∧ w'.cell? ⟨w.heap.size, 5, none⟩ = some (.int .i64 D.fails))) (first | (simp [*]; done) | go_keep)
    (first
      | (go_at_call 12; refine (eqChk _ _ D _ ?_ ?_ HLE.out).mono ?_; exact (⟨_, rfl, (HX1.out.rv.ext (ext_drewN W1 1)).ext (ext_below b6)⟩ : VChk _ _ D); exact V6; rintro e w7 ⟨rfl, b7⟩; obtain ⟨c0, c1, c2, c3, c4, c5⟩ := cells6_kept HS1.out.1 (((ext_drewN W1 1).tr (ext_below b6)).tr (ext_below b7)); obtain ⟨d0, d1, d2, d3, d4, d5⟩ := cells6_kept HS1.out.2 (((ext_drewN W1 1).tr (ext_below b6)).tr (ext_below b7)))
      | (go_at_call 10; refine (toChkO _ D _ ?_ HLE.out).mono ?_; exact (h0.out.ext (ext_below HLOW.out)).ext (ext_drewN W1 1); rintro e w6 ⟨xa6, xc6, rfl, o6, b6⟩; rw [← HN.out]; have V6 : VChk w6 (.agg #[.slice xa6 n xc6, .int .i64 D.ttl, .int .i64 D.most, .int .i64 D.st, .int .i64 D.age, .int .i64 D.fails]) D := (⟨_, rfl, by rw [HN.out]; exact o6.rv⟩); obtain ⟨c0, c1, c2, c3, c4, c5⟩ := cells6_kept HS1.out.1 ((ext_drewN W1 1).tr (ext_below b6)); obtain ⟨d0, d1, d2, d3, d4, d5⟩ := cells6_kept HS1.out.2 ((ext_drewN W1 1).tr (ext_below b6))))
  have bA : Below W1.heap.size W1 w7 := ((below_drewN (Below.refl _ W1) 1).trans (b6.mono (Nat.le_refl _))).trans (b7.mono b6.size)
  go_wp2
  go_ret
  exact ⟨rfl, HLOW.out.trans (bA.mono HLOW.out.size)⟩

end Go.Proofs.Ytmokgfbggjcedaa
