/- The exact statement of Branch: the walk of the law itself. -/
import Derived.Test.YtplgnohncdfgcakBrB
import Derived.Test.YtplgnohncdfgcakVwA
import Derived.Test.YtplgnohncdfgcakMkB
import Derived.Deep.RegionHeld3
namespace Go.Proofs.Ytplgnohncdfgcak
open Go.RowKit

theorem kept6 {w w' : World} {g : Nat} {a0 a1 a2 a3 a4 a5 : Value} (h : w.cell? ⟨g, 0, none⟩ = some a0 ∧ w.cell? ⟨g, 1, none⟩ = some a1 ∧ w.cell? ⟨g, 2, none⟩ = some a2 ∧ w.cell? ⟨g, 3, none⟩ = some a3 ∧ w.cell? ⟨g, 4, none⟩ = some a4 ∧ w.cell? ⟨g, 5, none⟩ = some a5) (hb : Below w.heap.size w w') :
    w'.cell? ⟨g, 0, none⟩ = some a0 ∧ w'.cell? ⟨g, 1, none⟩ = some a1 ∧ w'.cell? ⟨g, 2, none⟩ = some a2 ∧ w'.cell? ⟨g, 3, none⟩ = some a3 ∧ w'.cell? ⟨g, 4, none⟩ = some a4 ∧ w'.cell? ⟨g, 5, none⟩ = some a5 := by
  have hg : g < w.heap.size := World.block_lt_of_cell? w _ h.1
  obtain ⟨h0, h1, h2, h3, h4, h5⟩ := h
  exact ⟨(hb.cell (p := ⟨g, 0, none⟩) hg).trans h0, (hb.cell (p := ⟨g, 1, none⟩) hg).trans h1, (hb.cell (p := ⟨g, 2, none⟩) hg).trans h2, (hb.cell (p := ⟨g, 3, none⟩) hg).trans h3, (hb.cell (p := ⟨g, 4, none⟩) hg).trans h4, (hb.cell (p := ⟨g, 5, none⟩) hg).trans h5⟩
theorem kept12 {w w' : World} {g g' : Nat} {a0 a1 a2 a3 a4 a5 b0 b1 b2 b3 b4 b5 : Value} (h : (w.cell? ⟨g, 0, none⟩ = some a0 ∧ w.cell? ⟨g, 1, none⟩ = some a1 ∧ w.cell? ⟨g, 2, none⟩ = some a2 ∧ w.cell? ⟨g, 3, none⟩ = some a3 ∧ w.cell? ⟨g, 4, none⟩ = some a4 ∧ w.cell? ⟨g, 5, none⟩ = some a5) ∧ (w.cell? ⟨g', 0, none⟩ = some b0 ∧ w.cell? ⟨g', 1, none⟩ = some b1 ∧ w.cell? ⟨g', 2, none⟩ = some b2 ∧ w.cell? ⟨g', 3, none⟩ = some b3 ∧ w.cell? ⟨g', 4, none⟩ = some b4 ∧ w.cell? ⟨g', 5, none⟩ = some b5)) (hb : Below w.heap.size w w') :
    (w'.cell? ⟨g, 0, none⟩ = some a0 ∧ w'.cell? ⟨g, 1, none⟩ = some a1 ∧ w'.cell? ⟨g, 2, none⟩ = some a2 ∧ w'.cell? ⟨g, 3, none⟩ = some a3 ∧ w'.cell? ⟨g, 4, none⟩ = some a4 ∧ w'.cell? ⟨g, 5, none⟩ = some a5) ∧ (w'.cell? ⟨g', 0, none⟩ = some b0 ∧ w'.cell? ⟨g', 1, none⟩ = some b1 ∧ w'.cell? ⟨g', 2, none⟩ = some b2 ∧ w'.cell? ⟨g', 3, none⟩ = some b3 ∧ w'.cell? ⟨g', 4, none⟩ = some b4 ∧ w'.cell? ⟨g', 5, none⟩ = some b5) :=
  ⟨kept6 h.1 hb, kept6 h.2 hb⟩


/-- The four boxes of the law: the argument, what the specification told, the copy, what the program told. -/
structure BX (gA gW gX gG : Nat) (Qa Xa Va : Array Value) (u : World) : Prop where
  a : u.heap[gA]? = some (.cells Qa 27 (0, 0))
  o : u.heap[gW]? = some (.cells Va 31 (0, 0))
  x : u.heap[gX]? = some (.cells Xa 38 (0, 0))
  g : u.heap[gG]? = some (.cells Va 31 (0, 0))
theorem WB.mid {lo hi lo' hi' : Nat} {w w' : World} {v : Value} (h : WB lo hi w v) (m : Mid lo' hi' w w') (hd : hi' ≤ lo) : WB lo hi w' v := by
  rcases h with h | ⟨g, n, cap, cur, rfl, h1, h2, h3, h4, h5, h6⟩
  · exact .inl h
  · exact .inr ⟨g, n, cap, cur, rfl, h1, h2, h3, h4, (m.out g (Array.getElem?_eq_some_iff.1 h5).1 (.inr (by omega))).trans h5, h6⟩
theorem BX.below {gA gW gX gG : Nat} {Qa Xa Va : Array Value} {u u' : World} (h : BX gA gW gX gG Qa Xa Va u) (b : Below u.heap.size u u') : BX gA gW gX gG Qa Xa Va u' :=
  ⟨below_blk b (Array.getElem?_eq_some_iff.1 h.a).1 h.a, below_blk b (Array.getElem?_eq_some_iff.1 h.o).1 h.o, below_blk b (Array.getElem?_eq_some_iff.1 h.x).1 h.x, below_blk b (Array.getElem?_eq_some_iff.1 h.g).1 h.g⟩
theorem BX.alloc {gA gW gX gG : Nat} {Qa Xa Va : Array Value} {u : World} (h : BX gA gW gX gG Qa Xa Va u) (ob : Obj) : BX gA gW gX gG Qa Xa Va (u.alloc ob) :=
  h.below ((Below.refl _ u).alloc (Nat.le_refl _) _)
theorem BX.mid {gA gW gX gG lo hi : Nat} {Qa Xa Va : Array Value} {u u' : World} (h : BX gA gW gX gG Qa Xa Va u) (m : Mid lo hi u u') (h1 : gA < lo ∨ hi ≤ gA) (h2 : gW < lo ∨ hi ≤ gW) (h3 : gX < lo ∨ hi ≤ gX) (h4 : gG < lo ∨ hi ≤ gG) : BX gA gW gX gG Qa Xa Va u' :=
  ⟨(m.out _ (Array.getElem?_eq_some_iff.1 h.a).1 h1).trans h.a, (m.out _ (Array.getElem?_eq_some_iff.1 h.o).1 h2).trans h.o, (m.out _ (Array.getElem?_eq_some_iff.1 h.x).1 h3).trans h.x, (m.out _ (Array.getElem?_eq_some_iff.1 h.g).1 h4).trans h.g⟩

set_option maxHeartbeats 8000000 in
theorem law_Branch_of (hI : SaysOk 39) (v u : Value) (S : DState) (p : List Int) (w : World) (h : VState w v S) (hr : rngSt S) (hu : RV w u p) :
    Calls Try.prog 7 #[v, u] w fun e w' => e = .returned (.bool true) ∧ Below w.heap.size w w' := by
  have hE : ∀ w : World, ∀ o, Ext w (w.alloc o) := fun w o => World.grownBy_alloc _ _ _
  have hB : ∀ w : World, ∀ o, Below w.heap.size w (w.alloc o) := fun w o => (Below.refl _ w).alloc (Nat.le_refl _) _
  have h0 : Hid (VState w v S) := h
  have HI : Hid (SaysOk 39) := hI
  have HR : Hid (rngSt S) := hr
  have HU : Hid (RV w u p) := hu
  clear hI hr
  obtain ⟨rv, tv, sv, lv, rfl, _, _, _, _⟩ := h
  obtain ⟨pa, pc, rfl, prd, _, _⟩ := hu
  have HRP : Hid (∀ x ∈ p, 0 ≤ x ∧ x ≤ 255) := prd.rng
  clear prd
  go_enter Try.func7, Try.ntmps7
  by_cases hpl : (1048576 : Int) < (p.length : Int)
  · go_wp2
    go_ret
    exact ⟨rfl, hB _ _⟩
  have dpl : decide ((1048576 : Int) < (p.length : Int)) = false := decide_eq_false hpl
  have hpn : p.length ≤ 1048576 := by omega
  clear hpl
  go_wp2_with fail
  refine (szSt _ S 1048576 _ (h0.out.ext (hE _ _)) (by omega) (by omega)).mono ?_
  rintro e w1 ⟨r, rfl, hrr, b1⟩
  have B1 := (hB w _).trans (b1.mono (by simp))
  have P1 := below_blk b1 (by simp) (heap_alloc_new w _)
  rcases hrr with ⟨h1, rfl⟩ | ⟨h1, h2⟩
  · go_wp2
    go_ret
    exact ⟨rfl, B1⟩
  · have HL : Hid (LenSt S 1048576) := lenSt_of (by omega)
    have hr0 : 0 ≤ r := by omega
    have hs1 := (Array.getElem?_eq_some_iff.1 P1).1
    clear h1 h2 b1
    obtain ⟨p0, _⟩ := at_block P1 0 _ rfl
    obtain ⟨p1, _⟩ := at_block P1 1 _ rfl
    obtain ⟨p2, _⟩ := at_block P1 2 _ rfl
    obtain ⟨p3, _⟩ := at_block P1 3 _ rfl
    obtain ⟨p4, _⟩ := at_block P1 4 _ rfl
    obtain ⟨p5, _⟩ := at_block P1 5 _ rfl
    go_wp2_with fail
    refine (toSt _ S w1 (h0.out.ext (ext_below B1)) HL.out).mono ?_
    rintro e w2 ⟨gr2, gt2, gs2, gl2, rfl, o2, b2⟩
    have B2 := B1.trans (b2.mono B1.size)
    have HV2 : Hid (VState w2 (stV gr2 gt2 gs2 gl2 S) S) := o2.v HL.out HR.out
    have P2 := below_blk b2 hs1 P1
    have s2 := b2.size
    clear p0 p1 p2 p3 p4 p5 o2 b2 P1
    go_wp2_with fail
    refine (toV _ p w2 (HU.out.ext (ext_below B2)) hpn).mono ?_
    rintro e w3 ⟨v3, rfl, o3, b3⟩
    have B3 := B2.trans (b3.mono B2.size)
    have HV3 : Hid (VState w3 (stV gr2 gt2 gs2 gl2 S) S) := HV2.out.ext (ext_below b3)
    have HW3 : Hid (RV w3 v3 p) := o3.rv HRP.out
    have P3 := below_blk b3 (by omega) P2
    have s3 := b3.size
    clear o3 b3 P2 HV2
    go_wp2_with fail
    refine (sBranchV HI.out _ _ S p w3 HV3.out HW3.out (by omega)).mono ?_
    rintro e w4 ⟨rfl, b4⟩
    have B4 := B3.trans (b4.mono B3.size)
    have P4 := below_blk b4 (by omega) P3
    have s4 := b4.size
    clear b4 P3 HV3 HW3
    obtain ⟨bi, bh, hbr⟩ : ∃ bi bh, brV S p = (bi, bh) := ⟨_, _, rfl⟩
    have HBR : Hid (brV S p = (bi, bh)) := hbr
    rw [hbr]
    clear hbr
    unfold viewV
    have q0 : ∀ ob, (w4.alloc ob).cell? ⟨w.heap.size, 0, none⟩ = some (.int .i64 S.index) := fun ob => World.grownBy.cell (hE w4 ob) (at_block P4 0 _ rfl).1 (by simp)
    have q1 : ∀ ob, (w4.alloc ob).cell? ⟨w.heap.size, 1, none⟩ = some (rv) := fun ob => World.grownBy.cell (hE w4 ob) (at_block P4 1 _ rfl).1 (by simp)
    have q2 : ∀ ob, (w4.alloc ob).cell? ⟨w.heap.size, 2, none⟩ = some (tv) := fun ob => World.grownBy.cell (hE w4 ob) (at_block P4 2 _ rfl).1 (by simp)
    have q3 : ∀ ob, (w4.alloc ob).cell? ⟨w.heap.size, 3, none⟩ = some (.int .i64 S.lost) := fun ob => World.grownBy.cell (hE w4 ob) (at_block P4 3 _ rfl).1 (by simp)
    have q4 : ∀ ob, (w4.alloc ob).cell? ⟨w.heap.size, 4, none⟩ = some (sv) := fun ob => World.grownBy.cell (hE w4 ob) (at_block P4 4 _ rfl).1 (by simp)
    have q5 : ∀ ob, (w4.alloc ob).cell? ⟨w.heap.size, 5, none⟩ = some (lv) := fun ob => World.grownBy.cell (hE w4 ob) (at_block P4 5 _ rfl).1 (by simp)
    go_wp2_with fail
    refine (toSt _ S _ (h0.out.ext ((ext_below B4).tr (hE _ _))) HL.out).mono ?_
    rintro e w5 ⟨gr, gt, gs, gl, rfl, o5, b5⟩
    have B5 : Below w.heap.size w w5 := (B4.alloc B4.size _).trans (b5.mono (by have := B4.size; simp; omega))
    have P5 := below_blk b5 (by simp; omega) ((Below.heap_alloc w4 _ w.heap.size (by omega)).trans P4)
    have G5 := below_blk b5 (by simp) (heap_alloc_new w4 _)
    have s5 : w4.heap.size + 1 ≤ w5.heap.size := by have := b5.size; simpa using this
    have HSH : Hid (Shp (w4.heap.size + 1) w5.heap.size w5 gr gt gs gl S.rows.length S.tombs.length S.sess.length S.lasts.length) := by
      have := shp_of o5 HL.out
      rw [show (w4.alloc (.cells #[.int .i64 bi, .bool bh, .slice none 0 0] 31 (0, 0))).heap.size = w4.heap.size + 1 by simp] at this
      exact this
    have HV5 : Hid (VState w5 (stV gr gt gs gl S) S) := o5.v HL.out HR.out
    clear q0 q1 q2 q3 q4 q5 o5 b5 P4
    unfold stV at HV5 ⊢
    go_wp2_with fail
    refine (toV _ p _ (HU.out.ext ((ext_below B5).tr (hE _ _))) hpn).mono ?_
    rintro e w6 ⟨v6, rfl, o6, b6⟩
    have B6 : Below w.heap.size w w6 := (B5.alloc B5.size _).trans (b6.mono (by have := B5.size; simp; omega))
    have P6 := below_blk b6 (by simp; omega) ((Below.heap_alloc w5 _ w.heap.size (by omega)).trans P5)
    have G6 := below_blk b6 (by simp; omega) ((Below.heap_alloc w5 _ w4.heap.size (by omega)).trans G5)
    have X6 := below_blk b6 (by simp) (heap_alloc_new w5 _)
    have s6 : w5.heap.size + 1 ≤ w6.heap.size := by have := b6.size; simpa using this
    have HV6 : Hid (VState w6 (.agg #[.int .i64 S.index, .slice (some ⟨gr, 0, none⟩) S.rows.length S.rows.length, .slice (some ⟨gt, 0, none⟩) S.tombs.length S.tombs.length, .int .i64 S.lost, .slice (some ⟨gs, 0, none⟩) S.sess.length S.sess.length, .slice (some ⟨gl, 0, none⟩) S.lasts.length S.lasts.length]) S) := (HV5.out.ext (hE w5 _)).ext (ext_below b6)
    have HSH6 : Hid (Shp (w4.heap.size + 1) w5.heap.size w6 gr gt gs gl S.rows.length S.tombs.length S.sess.length S.lasts.length) := (HSH.out.ext (hE w5 _)).ext (ext_below b6)
    have HW6 : Hid (WB (w5.heap.size + 1) w6.heap.size w6 v6) := WB.of o6 (by simp) hpn
    have HR6 : Hid (RV w6 v6 p) := o6.rv HRP.out
    clear o6 b6 P5 G5 HV5 HSH
    obtain ⟨x6a, x6c, rfl, _, _, _⟩ := HR6.out
    obtain ⟨t0, _⟩ := at_block X6 0 _ rfl
    obtain ⟨t1, _⟩ := at_block X6 1 _ rfl
    obtain ⟨t2, _⟩ := at_block X6 2 _ rfl
    obtain ⟨t3, _⟩ := at_block X6 3 _ rfl
    obtain ⟨t4, _⟩ := at_block X6 4 _ rfl
    obtain ⟨t5, _⟩ := at_block X6 5 _ rfl
    go_wp2_with fail
    refine (iBranchV _ _ S p w6 HV6.out HR6.out (by omega)).mono ?_
    rintro e w7 ⟨rfl, b7⟩
    rw [HBR.out]
    unfold viewV
    have B7 := B6.trans (b7.mono B6.size)
    have P7 := below_blk b7 (by omega) P6
    have G7 := below_blk b7 (by omega) G6
    have X7 := below_blk b7 (by omega) X6
    have s7 := b7.size
    have HV7 : Hid (VState w7 (.agg #[.int .i64 S.index, .slice (some ⟨gr, 0, none⟩) S.rows.length S.rows.length, .slice (some ⟨gt, 0, none⟩) S.tombs.length S.tombs.length, .int .i64 S.lost, .slice (some ⟨gs, 0, none⟩) S.sess.length S.sess.length, .slice (some ⟨gl, 0, none⟩) S.lasts.length S.lasts.length]) S) := HV6.out.ext (ext_below b7)
    have HSH7 : Hid (Shp (w4.heap.size + 1) w5.heap.size w7 gr gt gs gl S.rows.length S.tombs.length S.sess.length S.lasts.length) := HSH6.out.ext (ext_below b7)
    have HW7 : Hid (WB (w5.heap.size + 1) w6.heap.size w7 (.slice x6a p.length x6c)) := HW6.out.grown (ext_below b7)
    have HR7 : Hid (RV w7 (.slice x6a p.length x6c) p) := HR6.out.ext (ext_below b7)
    clear b7 P6 G6 X6 HV6 HSH6 HW6 HR6 t0 t1 t2 t3 t4 t5
    have n0 : ∀ ob, (w7.alloc ob).cell? ⟨w4.heap.size, 0, none⟩ = some (.int .i64 bi) := fun ob => World.grownBy.cell (hE w7 ob) (at_block G7 0 _ rfl).1 (by simp)
    have n1 : ∀ ob, (w7.alloc ob).cell? ⟨w4.heap.size, 1, none⟩ = some (.bool bh) := fun ob => World.grownBy.cell (hE w7 ob) (at_block G7 1 _ rfl).1 (by simp)
    have n2 : ∀ ob, (w7.alloc ob).cell? ⟨w4.heap.size, 2, none⟩ = some (.slice none 0 0) := fun ob => World.grownBy.cell (hE w7 ob) (at_block G7 2 _ rfl).1 (by simp)
    go_wp2_with fail
    refine (eqVw0 bi bh _).mono ?_
    rintro e w8 ⟨rfl, b8⟩
    have K8 : Hid (BX w.heap.size w4.heap.size w5.heap.size w7.heap.size #[.int .i64 S.index, rv, tv, .int .i64 S.lost, sv, lv] #[.int .i64 S.index, .slice (some ⟨gr, 0, none⟩) S.rows.length S.rows.length, .slice (some ⟨gt, 0, none⟩) S.tombs.length S.tombs.length, .int .i64 S.lost, .slice (some ⟨gs, 0, none⟩) S.sess.length S.sess.length, .slice (some ⟨gl, 0, none⟩) S.lasts.length S.lasts.length] #[.int .i64 bi, .bool bh, .slice none 0 0] w8) :=
      BX.below ⟨(Below.heap_alloc w7 _ _ (by omega)).trans P7, (Below.heap_alloc w7 _ _ (by omega)).trans G7, (Below.heap_alloc w7 _ _ (by omega)).trans X7, heap_alloc_new w7 _⟩ b8
    have B8 : Below w.heap.size w w8 := (B7.alloc B7.size _).trans (b8.mono (by have := B7.size; simp; omega))
    have HV8 : Hid (VState w8 (.agg #[.int .i64 S.index, .slice (some ⟨gr, 0, none⟩) S.rows.length S.rows.length, .slice (some ⟨gt, 0, none⟩) S.tombs.length S.tombs.length, .int .i64 S.lost, .slice (some ⟨gs, 0, none⟩) S.sess.length S.sess.length, .slice (some ⟨gl, 0, none⟩) S.lasts.length S.lasts.length]) S) := (HV7.out.ext (hE w7 _)).ext (ext_below b8)
    have HSH8 : Hid (Shp (w4.heap.size + 1) w5.heap.size w8 gr gt gs gl S.rows.length S.tombs.length S.sess.length S.lasts.length) := (HSH7.out.ext (hE w7 _)).ext (ext_below b8)
    have HW8 : Hid (WB (w5.heap.size + 1) w6.heap.size w8 (.slice x6a p.length x6c)) := (HW7.out.grown (hE w7 _)).grown (ext_below b8)
    have HR8 : Hid (RV w8 (.slice x6a p.length x6c) p) := (HR7.out.ext (hE w7 _)).ext (ext_below b8)
    have s8 : w7.heap.size + 1 ≤ w8.heap.size := by have := b8.size; simpa using this
    clear b8 P7 G7 X7 HV7 HSH7 HW7 HR7 n0 n1 n2
    obtain ⟨q0, _⟩ := at_block K8.out.a 0 _ rfl
    obtain ⟨q1, _⟩ := at_block K8.out.a 1 _ rfl
    obtain ⟨q2, _⟩ := at_block K8.out.a 2 _ rfl
    obtain ⟨q3, _⟩ := at_block K8.out.a 3 _ rfl
    obtain ⟨q4, _⟩ := at_block K8.out.a 4 _ rfl
    obtain ⟨q5, _⟩ := at_block K8.out.a 5 _ rfl
    obtain ⟨t0, _⟩ := at_block K8.out.x 0 _ rfl
    obtain ⟨t1, _⟩ := at_block K8.out.x 1 _ rfl
    obtain ⟨t2, _⟩ := at_block K8.out.x 2 _ rfl
    obtain ⟨t3, _⟩ := at_block K8.out.x 3 _ rfl
    obtain ⟨t4, _⟩ := at_block K8.out.x 4 _ rfl
    obtain ⟨t5, _⟩ := at_block K8.out.x 5 _ rfl
    have S5 : (w8.cell? ⟨w5.heap.size, 0, none⟩ = some (.int .i64 S.index) ∧ w8.cell? ⟨w5.heap.size, 1, none⟩ = some (.slice (some ⟨gr, 0, none⟩) S.rows.length S.rows.length) ∧ w8.cell? ⟨w5.heap.size, 2, none⟩ = some (.slice (some ⟨gt, 0, none⟩) S.tombs.length S.tombs.length) ∧ w8.cell? ⟨w5.heap.size, 3, none⟩ = some (.int .i64 S.lost) ∧ w8.cell? ⟨w5.heap.size, 4, none⟩ = some (.slice (some ⟨gs, 0, none⟩) S.sess.length S.sess.length) ∧ w8.cell? ⟨w5.heap.size, 5, none⟩ = some (.slice (some ⟨gl, 0, none⟩) S.lasts.length S.lasts.length)) ∧ (w8.cell? ⟨w.heap.size, 0, none⟩ = some (.int .i64 S.index) ∧ w8.cell? ⟨w.heap.size, 1, none⟩ = some rv ∧ w8.cell? ⟨w.heap.size, 2, none⟩ = some tv ∧ w8.cell? ⟨w.heap.size, 3, none⟩ = some (.int .i64 S.lost) ∧ w8.cell? ⟨w.heap.size, 4, none⟩ = some sv ∧ w8.cell? ⟨w.heap.size, 5, none⟩ = some lv) := ⟨⟨t0, t1, t2, t3, t4, t5⟩, ⟨q0, q1, q2, q3, q4, q5⟩⟩
    have HS5 : Hid _ := S5
    have X5 : Ext w8 w8.drew := ext_drewN w8 1
    go_wp2_with fail
    go_region_held3 (fun w' => w'.cell? ⟨w5.heap.size, 0, none⟩ = some (.int .i64 S.index) ∧ w'.cell? ⟨w5.heap.size, 1, none⟩ = some (.slice (some ⟨gr, 0, none⟩) S.rows.length S.rows.length) ∧ w'.cell? ⟨w5.heap.size, 2, none⟩ = some (.slice (some ⟨gt, 0, none⟩) S.tombs.length S.tombs.length) ∧ w'.cell? ⟨w5.heap.size, 3, none⟩ = some (.int .i64 S.lost) ∧ w'.cell? ⟨w5.heap.size, 4, none⟩ = some (.slice (some ⟨gs, 0, none⟩) S.sess.length S.sess.length) ∧ w'.cell? ⟨w5.heap.size, 5, none⟩ = some (.slice (some ⟨gl, 0, none⟩) S.lasts.length S.lasts.length) ∧ w'.cell? ⟨w.heap.size, 0, none⟩ = some (.int .i64 S.index) ∧ w'.cell? ⟨w.heap.size, 1, none⟩ = some rv ∧ w'.cell? ⟨w.heap.size, 2, none⟩ = some tv ∧ w'.cell? ⟨w.heap.size, 3, none⟩ = some (.int .i64 S.lost) ∧ w'.cell? ⟨w.heap.size, 4, none⟩ = some sv ∧ w'.cell? ⟨w.heap.size, 5, none⟩ = some lv) (simp [*])
      (first | (go_at_call 11; refine (toSt _ S _ ?_ HL.out).mono ?_; exact (h0.out.ext (ext_below B8)).ext X5; rintro e w9 ⟨gr6, gt6, gs6, gl6, rfl, o9, b9⟩; obtain ⟨⟨a0, a1, a2, a3, a4, a5⟩, ⟨c0, c1, c2, c3, c4, c5⟩⟩ := kept12 (w := w8.drew) HS5.out b9) | (go_at_call 15; refine (eqSt _ _ S _ ?_ ?_ HL.out).mono ?_; exact (HV8.out.ext X5).ext (ext_below b9); exact o9.v HL.out HR.out; rintro e w10 ⟨rfl, b10⟩; obtain ⟨⟨a0', a1', a2', a3', a4', a5'⟩, ⟨c0', c1', c2', c3', c4', c5'⟩⟩ := kept12 ⟨⟨a0, a1, a2, a3, a4, a5⟩, ⟨c0, c1, c2, c3, c4, c5⟩⟩ b10))
    have b810 : Below w8.heap.size w8 w10 := (below_drewN (Below.refl _ w8) 1).trans ((b9.mono (by simp)).trans (b10.mono (by have := b9.size; simpa using this)))
    have K10 : Hid (BX w.heap.size w4.heap.size w5.heap.size w7.heap.size #[.int .i64 S.index, rv, tv, .int .i64 S.lost, sv, lv] #[.int .i64 S.index, .slice (some ⟨gr, 0, none⟩) S.rows.length S.rows.length, .slice (some ⟨gt, 0, none⟩) S.tombs.length S.tombs.length, .int .i64 S.lost, .slice (some ⟨gs, 0, none⟩) S.sess.length S.sess.length, .slice (some ⟨gl, 0, none⟩) S.lasts.length S.lasts.length] #[.int .i64 bi, .bool bh, .slice none 0 0] w10) := K8.out.below b810
    have B10 := B8.trans (b810.mono B8.size)
    have HSH10 : Hid (Shp (w4.heap.size + 1) w5.heap.size w10 gr gt gs gl S.rows.length S.tombs.length S.sess.length S.lasts.length) := HSH8.out.ext (ext_below b810)
    have HW10 : Hid (WB (w5.heap.size + 1) w6.heap.size w10 (.slice x6a p.length x6c)) := HW8.out.grown (ext_below b810)
    have HR10 : Hid (RV w10 (.slice x6a p.length x6c) p) := HR8.out.ext (ext_below b810)
    have s10 : w8.heap.size ≤ w10.heap.size := b810.size
    clear b810 K8 HSH8 HW8 HR8 HV8 o9 b9 b10 S5 HS5 X5 q0 q1 q2 q3 q4 q5 t0 t1 t2 t3 t4 t5
    clear a0 a1 a2 a3 a4 a5 c0 c1 c2 c3 c4 c5
    go_wp2_with fail
    refine (toV _ p w10 (HU.out.ext (ext_below B10)) hpn).mono ?_
    rintro e w11 ⟨v11, rfl, o11, b11⟩
    go_wp2_with fail
    refine (eqV_yes _ _ p w11 (HR10.out.ext (ext_below b11)) (o11.rv HRP.out) (by omega)).mono ?_
    rintro e w12 ⟨rfl, q12, rfl⟩
    have b12 : Below w10.heap.size w10 (w11.drewN q12) := below_drewN b11 q12
    have K12 : Hid (BX w.heap.size w4.heap.size w5.heap.size w7.heap.size #[.int .i64 S.index, rv, tv, .int .i64 S.lost, sv, lv] #[.int .i64 S.index, .slice (some ⟨gr, 0, none⟩) S.rows.length S.rows.length, .slice (some ⟨gt, 0, none⟩) S.tombs.length S.tombs.length, .int .i64 S.lost, .slice (some ⟨gs, 0, none⟩) S.sess.length S.sess.length, .slice (some ⟨gl, 0, none⟩) S.lasts.length S.lasts.length] #[.int .i64 bi, .bool bh, .slice none 0 0] (w11.drewN q12)) := K10.out.below b12
    have B12 := B10.trans (b12.mono B10.size)
    have HSH12 : Hid (Shp (w4.heap.size + 1) w5.heap.size (w11.drewN q12) gr gt gs gl S.rows.length S.tombs.length S.sess.length S.lasts.length) := HSH10.out.ext (ext_below b12)
    have HW12 : Hid (WB (w5.heap.size + 1) w6.heap.size (w11.drewN q12) (.slice x6a p.length x6c)) := HW10.out.grown (ext_below b12)
    have s12 : w10.heap.size ≤ (w11.drewN q12).heap.size := b12.size
    clear o11 b11 b12 K10 HSH10 HW10 HR10
    generalize w11.drewN q12 = w13 at K12 B12 HSH12 HW12 s12 ⊢
    obtain ⟨t0, _⟩ := at_block K12.out.x 0 _ rfl
    obtain ⟨t1, _⟩ := at_block K12.out.x 1 _ rfl
    obtain ⟨t2, _⟩ := at_block K12.out.x 2 _ rfl
    obtain ⟨t3, _⟩ := at_block K12.out.x 3 _ rfl
    obtain ⟨t4, _⟩ := at_block K12.out.x 4 _ rfl
    obtain ⟨t5, _⟩ := at_block K12.out.x 5 _ rfl
    go_wp2_with fail
    refine (markStM (w4.heap.size + 1) w5.heap.size gr gt gs gl _ _ _ _ _ _ 1 w13 HSH12.out (by omega) (by omega) (by omega)).mono ?_
    rintro e w14 ⟨k14, hk0, hk1, rfl, m14⟩
    have K14 : Hid (BX w.heap.size w4.heap.size w5.heap.size w7.heap.size #[.int .i64 S.index, rv, tv, .int .i64 S.lost, sv, lv] #[.int .i64 S.index, .slice (some ⟨gr, 0, none⟩) S.rows.length S.rows.length, .slice (some ⟨gt, 0, none⟩) S.tombs.length S.tombs.length, .int .i64 S.lost, .slice (some ⟨gs, 0, none⟩) S.sess.length S.sess.length, .slice (some ⟨gl, 0, none⟩) S.lasts.length S.lasts.length] #[.int .i64 bi, .bool bh, .slice none 0 0] w14) := K12.out.mid m14 (by omega) (by omega) (by omega) (by omega)
    have B14 : Below w.heap.size w w14 := m14.below B12 B12.size (by omega)
    have HW14 : Hid (WB (w5.heap.size + 1) w6.heap.size w14 (.slice x6a p.length x6c)) := HW12.out.mid m14 (by omega)
    have s14 := m14.size
    clear K12 HSH12 HW12 m14 t0 t1 t2 t3 t4 t5
    go_wp2_with fail
    refine (markW (w5.heap.size + 1) w6.heap.size none _ k14 w14 HW14.out hk0 (by omega)).mono ?_
    rintro e w15 ⟨n15, hn15, rfl, m15⟩
    have K15 : Hid (BX w.heap.size w4.heap.size w5.heap.size w7.heap.size #[.int .i64 S.index, rv, tv, .int .i64 S.lost, sv, lv] #[.int .i64 S.index, .slice (some ⟨gr, 0, none⟩) S.rows.length S.rows.length, .slice (some ⟨gt, 0, none⟩) S.tombs.length S.tombs.length, .int .i64 S.lost, .slice (some ⟨gs, 0, none⟩) S.sess.length S.sess.length, .slice (some ⟨gl, 0, none⟩) S.lasts.length S.lasts.length] #[.int .i64 bi, .bool bh, .slice none 0 0] w15) := K14.out.mid m15.mid (by omega) (by omega) (by omega) (by omega)
    have B15 : Below w.heap.size w w15 := m15.mid.below B14 B14.size (by omega)
    have s15 := m15.size
    clear K14 HW14 m15
    obtain ⟨kk, hkk⟩ : ∃ kk : Int, kk = k14 + n15 := ⟨_, rfl⟩
    have HKK : Hid (kk = k14 + n15) := hkk
    have dkk : decide (kk < 0) = false := decide_eq_false (by omega)
    rw [← hkk]
    clear hkk hk0 hk1 hn15
    obtain ⟨n0, _⟩ := at_block K15.out.o 0 _ rfl
    obtain ⟨n1, _⟩ := at_block K15.out.o 1 _ rfl
    obtain ⟨n2, _⟩ := at_block K15.out.o 2 _ rfl
    obtain ⟨m0, _⟩ := at_block K15.out.g 0 _ rfl
    obtain ⟨m1, _⟩ := at_block K15.out.g 1 _ rfl
    obtain ⟨m2, _⟩ := at_block K15.out.g 2 _ rfl
    go_wp2_with fail
    refine (eqVw0 bi bh w15).mono ?_
    rintro e w16 ⟨rfl, b16⟩
    have K16 : Hid (BX w.heap.size w4.heap.size w5.heap.size w7.heap.size #[.int .i64 S.index, rv, tv, .int .i64 S.lost, sv, lv] #[.int .i64 S.index, .slice (some ⟨gr, 0, none⟩) S.rows.length S.rows.length, .slice (some ⟨gt, 0, none⟩) S.tombs.length S.tombs.length, .int .i64 S.lost, .slice (some ⟨gs, 0, none⟩) S.sess.length S.sess.length, .slice (some ⟨gl, 0, none⟩) S.lasts.length S.lasts.length] #[.int .i64 bi, .bool bh, .slice none 0 0] w16) := K15.out.below b16
    have B16 := B15.trans (b16.mono B15.size)
    have s16 := b16.size
    clear b16 K15 n0 n1 n2 m0 m1 m2
    obtain ⟨m0, _⟩ := at_block K16.out.g 0 _ rfl
    obtain ⟨m1, _⟩ := at_block K16.out.g 1 _ rfl
    obtain ⟨m2, _⟩ := at_block K16.out.g 2 _ rfl
    go_wp2_with fail
    refine (markVw0 bi 1 bh w16).mono ?_
    rintro e w17 ⟨rfl, b17⟩
    have K17 : Hid (BX w.heap.size w4.heap.size w5.heap.size w7.heap.size #[.int .i64 S.index, rv, tv, .int .i64 S.lost, sv, lv] #[.int .i64 S.index, .slice (some ⟨gr, 0, none⟩) S.rows.length S.rows.length, .slice (some ⟨gt, 0, none⟩) S.tombs.length S.tombs.length, .int .i64 S.lost, .slice (some ⟨gs, 0, none⟩) S.sess.length S.sess.length, .slice (some ⟨gl, 0, none⟩) S.lasts.length S.lasts.length] #[.int .i64 bi, .bool bh, .slice none 0 0] w17) := K16.out.below b17
    have B17 := B16.trans (b17.mono B16.size)
    have s17 := b17.size
    clear b17 K16 m0 m1 m2
    obtain ⟨m0, _⟩ := at_block K17.out.g 0 _ rfl
    obtain ⟨m1, _⟩ := at_block K17.out.g 1 _ rfl
    obtain ⟨m2, _⟩ := at_block K17.out.g 2 _ rfl
    go_wp2_with fail
    refine (heldVw0 bi 1 bh w17 (by omega) (by omega)).mono ?_
    rintro e w18 ⟨rfl, b18⟩
    have K18 : Hid (BX w.heap.size w4.heap.size w5.heap.size w7.heap.size #[.int .i64 S.index, rv, tv, .int .i64 S.lost, sv, lv] #[.int .i64 S.index, .slice (some ⟨gr, 0, none⟩) S.rows.length S.rows.length, .slice (some ⟨gt, 0, none⟩) S.tombs.length S.tombs.length, .int .i64 S.lost, .slice (some ⟨gs, 0, none⟩) S.sess.length S.sess.length, .slice (some ⟨gl, 0, none⟩) S.lasts.length S.lasts.length] #[.int .i64 bi, .bool bh, .slice none 0 0] w18) := K17.out.below b18
    have B18 := B17.trans (b18.mono B17.size)
    have s18 := b18.size
    clear b18 K17 m0 m1 m2
    obtain ⟨q0, _⟩ := at_block K18.out.a 0 _ rfl
    obtain ⟨q1, _⟩ := at_block K18.out.a 1 _ rfl
    obtain ⟨q2, _⟩ := at_block K18.out.a 2 _ rfl
    obtain ⟨q3, _⟩ := at_block K18.out.a 3 _ rfl
    obtain ⟨q4, _⟩ := at_block K18.out.a 4 _ rfl
    obtain ⟨q5, _⟩ := at_block K18.out.a 5 _ rfl
    go_wp2_with fail
    refine (toSt _ S w18 (h0.out.ext (ext_below B18)) HL.out).mono ?_
    rintro e w19 ⟨gr9, gt9, gs9, gl9, rfl, o19, b19⟩
    have K19 : Hid (BX w.heap.size w4.heap.size w5.heap.size w7.heap.size #[.int .i64 S.index, rv, tv, .int .i64 S.lost, sv, lv] #[.int .i64 S.index, .slice (some ⟨gr, 0, none⟩) S.rows.length S.rows.length, .slice (some ⟨gt, 0, none⟩) S.tombs.length S.tombs.length, .int .i64 S.lost, .slice (some ⟨gs, 0, none⟩) S.sess.length S.sess.length, .slice (some ⟨gl, 0, none⟩) S.lasts.length S.lasts.length] #[.int .i64 bi, .bool bh, .slice none 0 0] w19) := K18.out.below b19
    have B19 := B18.trans (b19.mono B18.size)
    have s19 := b19.size
    have HV19 : Hid (VState w19 (stV gr9 gt9 gs9 gl9 S) S) := o19.v HL.out HR.out
    clear b19 K18 o19 q0 q1 q2 q3 q4 q5
    go_wp2_with fail
    refine (toV _ p w19 (HU.out.ext (ext_below B19)) hpn).mono ?_
    rintro e w20 ⟨v20, rfl, o20, b20⟩
    have K20 : Hid (BX w.heap.size w4.heap.size w5.heap.size w7.heap.size #[.int .i64 S.index, rv, tv, .int .i64 S.lost, sv, lv] #[.int .i64 S.index, .slice (some ⟨gr, 0, none⟩) S.rows.length S.rows.length, .slice (some ⟨gt, 0, none⟩) S.tombs.length S.tombs.length, .int .i64 S.lost, .slice (some ⟨gs, 0, none⟩) S.sess.length S.sess.length, .slice (some ⟨gl, 0, none⟩) S.lasts.length S.lasts.length] #[.int .i64 bi, .bool bh, .slice none 0 0] w20) := K19.out.below b20
    have B20 := B19.trans (b20.mono B19.size)
    have s20 := b20.size
    have HV20 : Hid (VState w20 (stV gr9 gt9 gs9 gl9 S) S) := HV19.out.ext (ext_below b20)
    have HR20 : Hid (RV w20 v20 p) := o20.rv HRP.out
    clear b20 K19 o20 HV19
    go_wp2_with fail
    refine (iBranchV _ _ S p w20 HV20.out HR20.out (by omega)).mono ?_
    rintro e w21 ⟨rfl, b21⟩
    rw [HBR.out]
    unfold viewV
    have K21 : Hid (BX w.heap.size w4.heap.size w5.heap.size w7.heap.size #[.int .i64 S.index, rv, tv, .int .i64 S.lost, sv, lv] #[.int .i64 S.index, .slice (some ⟨gr, 0, none⟩) S.rows.length S.rows.length, .slice (some ⟨gt, 0, none⟩) S.tombs.length S.tombs.length, .int .i64 S.lost, .slice (some ⟨gs, 0, none⟩) S.sess.length S.sess.length, .slice (some ⟨gl, 0, none⟩) S.lasts.length S.lasts.length] #[.int .i64 bi, .bool bh, .slice none 0 0] w21) := K20.out.below b21
    have B21 := B20.trans (b21.mono B20.size)
    have s21 := b21.size
    clear b21 K20 HV20 HR20
    have n0 : ∀ ob, (w21.alloc ob).cell? ⟨w4.heap.size, 0, none⟩ = some (.int .i64 bi) := fun ob => (at_block (K21.out.alloc ob).o 0 _ rfl).1
    have n1 : ∀ ob, (w21.alloc ob).cell? ⟨w4.heap.size, 1, none⟩ = some (.bool bh) := fun ob => (at_block (K21.out.alloc ob).o 1 _ rfl).1
    have n2 : ∀ ob, (w21.alloc ob).cell? ⟨w4.heap.size, 2, none⟩ = some (.slice none 0 0) := fun ob => (at_block (K21.out.alloc ob).o 2 _ rfl).1
    go_wp2_with fail
    refine (eqVw0 bi bh _).mono ?_
    rintro e w22 ⟨rfl, b22⟩
    have K22 : Hid (BX w.heap.size w4.heap.size w5.heap.size w7.heap.size #[.int .i64 S.index, rv, tv, .int .i64 S.lost, sv, lv] #[.int .i64 S.index, .slice (some ⟨gr, 0, none⟩) S.rows.length S.rows.length, .slice (some ⟨gt, 0, none⟩) S.tombs.length S.tombs.length, .int .i64 S.lost, .slice (some ⟨gs, 0, none⟩) S.sess.length S.sess.length, .slice (some ⟨gl, 0, none⟩) S.lasts.length S.lasts.length] #[.int .i64 bi, .bool bh, .slice none 0 0] w22) := (K21.out.alloc _).below b22
    have B22 := (B21.alloc B21.size _).trans (b22.mono (by have := B21.size; simp; omega))
    clear b22 K21 n0 n1 n2
    obtain ⟨m0, _⟩ := at_block K22.out.g 0 _ rfl
    obtain ⟨m1, _⟩ := at_block K22.out.g 1 _ rfl
    obtain ⟨m2, _⟩ := at_block K22.out.g 2 _ rfl
    go_wp2_with fail
    refine (heldVw0 bi 1 bh w22 (by omega) (by omega)).mono ?_
    rintro e w23 ⟨rfl, b23⟩
    have B23 := B22.trans (b23.mono B22.size)
    go_wp2
    go_ret
    exact ⟨rfl, B23⟩

end Go.Proofs.Ytplgnohncdfgcak
