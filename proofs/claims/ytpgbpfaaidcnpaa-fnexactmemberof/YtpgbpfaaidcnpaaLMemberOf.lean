/- The exact statement of MemberOf: the walk of the law itself. -/
import Derived.Test.YtpgbpfaaidcnpaaTbL
import Derived.Test.YtpgbpfaaidcnpaaMs5m
import Derived.Test.YtpgbpfaaidcnpaaMiOf
import Derived.Deep.RegionHeld3
namespace Go.Proofs.Ytpgbpfaaidcnpaa
open Go.RowKit

theorem three_cells {w : World} {g : Nat} {v0 v1 v2 : Value} {t : TypeId} (h : w.heap[g]? = some (.cells #[v0, v1, v2] t (0, 0))) : w.cell? ⟨g, 0, none⟩ = some v0 ∧ w.cell? ⟨g, 1, none⟩ = some v1 ∧ w.cell? ⟨g, 2, none⟩ = some v2 := ⟨(at_block h 0 _ rfl).1, (at_block h 1 _ rfl).1, (at_block h 2 _ rfl).1⟩

set_option maxRecDepth 20000 in
set_option maxHeartbeats 4000000 in
theorem law_MemberOf (v : Value) (D : DTab) (id : Int) (w : World) (h : VTab w v D) (_i1 : -9223372036854775808 ≤ id) (_i2 : id ≤ 9223372036854775807) :
    Calls Try.prog 3 #[v, .int .i64 id] w fun e w' => e = .returned (.bool true) ∧ Below w.heap.size w w' := by
  have hE : ∀ w : World, ∀ o, Ext w (w.alloc o) := fun w o => World.grownBy_alloc _ _ _
  have hB : ∀ w : World, ∀ o, Below w.heap.size w (w.alloc o) := fun w o => (Below.refl _ w).alloc (Nat.le_refl _) _
  have h0 : Hid (VTab w v D) := h
  obtain ⟨⟨R, rb⟩, hR⟩ : ∃ R, R = ofD D id := ⟨_, rfl⟩
  have HR : Hid ((R, rb) = ofD D id) := hR
  clear hR
  obtain ⟨tv, rfl, ht⟩ := h
  obtain ⟨ta, tc, rfl⟩ := ht.shape
  obtain ⟨n, hn⟩ : ∃ n, n = D.mems.length := ⟨_, rfl⟩
  have HN : Hid (n = D.mems.length) := hn
  rw [← hn] at h0 ⊢
  clear hn ht
  go_enter Try.func3, Try.ntmps3
  go_wp2_with fail
  refine (szTab _ D 1048576 _ (h0.out.ext (hE _ _)) (by omega) (by omega)).mono ?_
  rintro e w1 ⟨r, rfl, hrr, b1⟩
  rw [← HN.out] at hrr
  have B1 := (hB w _).trans (b1.mono (by simp))
  have P1 := below_blk b1 (by simp) (heap_alloc_new w _)
  rcases hrr with ⟨h1, rfl⟩ | ⟨h1, h2⟩
  · go_wp2_with fail
    go_ret
    exact ⟨rfl, B1⟩
  have HL : Hid (D.mems.length ≤ 1048576) := by have := HN.out; show _ ≤ _; omega
  have hl : n ≤ 1048576 := by omega
  have hr0 : 0 ≤ r := by omega
  clear h1 h2 b1
  obtain ⟨p0, p1⟩ := two_cells P1
  go_wp2_with fail
  refine (toTab _ D w1 (h0.out.ext (ext_below B1)) HL.out).mono ?_
  rintro e w2 ⟨g2, rfl, o2, b2⟩
  rw [← HN.out] at o2 ⊢
  have X2 := (ext_below b2)
  have V2 : VTab w2 (.agg #[.int .i64 D.self, .slice (some ⟨g2, 0, none⟩) n n]) D := ⟨_, rfl, o2.v⟩
  clear o2 p0 p1
  go_wp2_with fail
  refine (sMemberOfV _ D id w2 V2 HL.out).mono ?_
  rintro e w3 ⟨rfl, b3⟩
  rw [← HR.out]
  have X3 : Ext w1 w3 := X2.tr (ext_below b3)
  have P3 := ext_blk X3 P1
  have B3 := B1.trans ((ext_bel X3).mono B1.size)
  obtain ⟨q0, q1⟩ := two_cells (ext_blk (hE w3 (.cells #[.int .i64 R.id, .int .i64 R.st, .int .i64 R.life] 27 (0, 0))) P3)
  clear V2 b2 b3 X2
  go_wp2_with fail
  generalize hU : w3.alloc _ = U3
  have SU : U3.heap[w3.heap.size]? = some (.cells #[.int .i64 R.id, .int .i64 R.st, .int .i64 R.life] 27 (0, 0)) := by rw [← hU]; exact heap_alloc_new w3 _
  have XU : Ext w3 U3 := by rw [← hU]; exact hE _ _
  clear hU q0 q1
  have BU := B3.trans ((ext_bel XU).mono B3.size)
  refine (toTab _ D U3 (h0.out.ext (ext_below BU)) HL.out).mono ?_
  rintro e w4 ⟨g4, rfl, o4, b4⟩
  rw [← HN.out] at o4 ⊢
  have X4 : Ext U3 w4 := ext_below b4
  have HV4 : Hid (VTab w4 (.agg #[.int .i64 D.self, .slice (some ⟨g4, 0, none⟩) n n]) D) := ⟨_, rfl, o4.v⟩
  clear o4 b4
  go_wp2_with fail
  generalize hU : w4.alloc _ = U4
  have TU : U4.heap[w4.heap.size]? = some (.cells #[.int .i64 D.self, .slice (some ⟨g4, 0, none⟩) n n] 32 (0, 0)) := by rw [← hU]; exact heap_alloc_new w4 _
  have XV : Ext w4 U4 := by rw [← hU]; exact hE _ _
  clear hU
  refine (iMemberOfV _ D id U4 (HV4.out.ext XV) HL.out).mono ?_
  rintro e w5 ⟨rfl, b5⟩
  rw [← HR.out]
  have X5 : Ext U4 w5 := ext_below b5
  have XG := hE w5 (.cells #[.int .i64 R.id, .int .i64 R.st, .int .i64 R.life] 27 (0, 0))
  have HF : Hid (∀ W, W = w5.alloc (.cells #[.int .i64 R.id, .int .i64 R.st, .int .i64 R.life] 27 (0, 0)) → Below w.heap.size w W ∧ W.heap[w.heap.size]? = some (.cells #[.int .i64 D.self, .slice ta n tc] 24 (0, 0)) ∧ W.heap[w3.heap.size]? = some (.cells #[.int .i64 R.id, .int .i64 R.st, .int .i64 R.life] 27 (0, 0)) ∧ W.heap[w4.heap.size]? = some (.cells #[.int .i64 D.self, .slice (some ⟨g4, 0, none⟩) n n] 32 (0, 0)) ∧ W.heap[w5.heap.size]? = some (.cells #[.int .i64 R.id, .int .i64 R.st, .int .i64 R.life] 27 (0, 0)) ∧ VTab W (.agg #[.int .i64 D.self, .slice (some ⟨g4, 0, none⟩) n n]) D) := fun W hW => by
    subst hW
    have XX := (((X4.tr XV).tr X5).tr XG)
    exact ⟨BU.trans ((ext_bel XX).mono BU.size), ext_blk (XU.tr XX) P3, ext_blk XX SU, ext_blk (X5.tr XG) TU, heap_alloc_new w5 _, ((HV4.out.ext XV).ext X5).ext XG⟩
  clear b5 X5 XG XV TU HV4 X4 SU XU BU P3 B3 X3 P1 B1
  go_upto_region 8 with fail
  generalize hU : w5.alloc _ = W0
  obtain ⟨BW, PA, PS, PX, PG, VX⟩ := HF.out W0 hU.symm
  clear hU HF
  generalize w3.heap.size = bs at *
  generalize w4.heap.size = bx at *
  generalize w5.heap.size = bg at *
  obtain ⟨s0, s1, s2⟩ := three_cells PS
  obtain ⟨y0, y1, y2⟩ := three_cells PG
  go_wp2_with fail
  refine (eqEl_Mem R W0).mono ?_
  rintro e W1 ⟨rfl, c1⟩
  have B1 := BW.trans (c1.mono BW.size)
  have PA1 := below_blk c1 (Array.getElem?_eq_some_iff.1 PA).1 PA
  have PX1 := below_blk c1 (Array.getElem?_eq_some_iff.1 PX).1 PX
  have HVX : Hid (VTab W1 (.agg #[.int .i64 D.self, .slice (some ⟨g4, 0, none⟩) n n]) D) := VX.ext (ext_below c1)
  clear s0 s1 s2 y0 y1 y2 PA PX PS PG VX c1 BW
  obtain ⟨x0, x1⟩ := two_cells PX1
  obtain ⟨a0, a1⟩ := two_cells PA1
  have HS1 : Hid ((W1.cell? ⟨bx, 0, none⟩ = some (.int .i64 D.self) ∧ W1.cell? ⟨bx, 1, none⟩ = some (.slice (some ⟨g4, 0, none⟩) n n)) ∧ (W1.cell? ⟨w.heap.size, 0, none⟩ = some (.int .i64 D.self) ∧ W1.cell? ⟨w.heap.size, 1, none⟩ = some (.slice ta n tc))) := ⟨⟨x0, x1⟩, ⟨a0, a1⟩⟩
  have HB1 : Hid (Below w.heap.size w W1) := B1
  go_upto_region 10 with fail
  go_region_held3 (fun w' => w'.cell? ⟨bx, 0, none⟩ = some (.int .i64 D.self) ∧ w'.cell? ⟨bx, 1, none⟩ = some (.slice (some ⟨g4, 0, none⟩) n n) ∧ w'.cell? ⟨w.heap.size, 0, none⟩ = some (.int .i64 D.self) ∧ w'.cell? ⟨w.heap.size, 1, none⟩ = some (.slice ta n tc)) (simp [*])
    (first | (go_at_call 8; refine (toTab _ D _ ?_ HL.out).mono ?_; exact (h0.out.ext (ext_below HB1.out)).ext (ext_drewN W1 1); rintro e u6 ⟨g6, rfl, o6, b6⟩; rw [← HN.out]; have V6 : VTab u6 (.agg #[.int .i64 D.self, .slice (some ⟨g6, 0, none⟩) n n]) D := (⟨_, rfl, by rw [HN.out]; exact o6.v⟩); obtain ⟨⟨c0, c1⟩, ⟨d0, d1⟩⟩ := keptT (w := W1.drew) HS1.out b6) | (go_at_call 11; refine (eqTab _ _ D _ ?_ ?_ HL.out).mono ?_; exact (HVX.out.ext (ext_drewN W1 1)).ext (ext_below b6); exact V6; rintro e u7 ⟨rfl, b7⟩; obtain ⟨⟨c0', c1'⟩, ⟨d0', d1'⟩⟩ := keptT ⟨⟨c0, c1⟩, ⟨d0, d1⟩⟩ b7))
  have bA : Below W1.heap.size W1 u7 := ((below_drewN (Below.refl _ W1) 1).trans (b6.mono (Nat.le_refl _))).trans (b7.mono b6.size)
  go_wp2
  go_ret
  exact ⟨rfl, HB1.out.trans (bA.mono HB1.out.size)⟩

end Go.Proofs.Ytpgbpfaaidcnpaa
