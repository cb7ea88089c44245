/- The exact statement of Turned: the walk of the law itself. -/
import Derived.Test.YtplgnohncdfgcalTrC
import Derived.Test.YtplgnohncdfgcalMkB
import Derived.Deep.RegionHeld3
namespace Go.Proofs.Ytplgnohncdfgcal
open Go.RowKit

theorem kept6 {w w' : World} {g : Nat} {a0 a1 a2 a3 a4 a5 : Value} (h : w.cell? ⟨g, 0, none⟩ = some a0 ∧ w.cell? ⟨g, 1, none⟩ = some a1 ∧ w.cell? ⟨g, 2, none⟩ = some a2 ∧ w.cell? ⟨g, 3, none⟩ = some a3 ∧ w.cell? ⟨g, 4, none⟩ = some a4 ∧ w.cell? ⟨g, 5, none⟩ = some a5) (hb : Below w.heap.size w w') :
    w'.cell? ⟨g, 0, none⟩ = some a0 ∧ w'.cell? ⟨g, 1, none⟩ = some a1 ∧ w'.cell? ⟨g, 2, none⟩ = some a2 ∧ w'.cell? ⟨g, 3, none⟩ = some a3 ∧ w'.cell? ⟨g, 4, none⟩ = some a4 ∧ w'.cell? ⟨g, 5, none⟩ = some a5 := by
  have hg : g < w.heap.size := World.block_lt_of_cell? w _ h.1
  obtain ⟨h0, h1, h2, h3, h4, h5⟩ := h
  exact ⟨(hb.cell (p := ⟨g, 0, none⟩) hg).trans h0, (hb.cell (p := ⟨g, 1, none⟩) hg).trans h1, (hb.cell (p := ⟨g, 2, none⟩) hg).trans h2, (hb.cell (p := ⟨g, 3, none⟩) hg).trans h3, (hb.cell (p := ⟨g, 4, none⟩) hg).trans h4, (hb.cell (p := ⟨g, 5, none⟩) hg).trans h5⟩
theorem kept12 {w w' : World} {g g' : Nat} {a0 a1 a2 a3 a4 a5 b0 b1 b2 b3 b4 b5 : Value} (h : (w.cell? ⟨g, 0, none⟩ = some a0 ∧ w.cell? ⟨g, 1, none⟩ = some a1 ∧ w.cell? ⟨g, 2, none⟩ = some a2 ∧ w.cell? ⟨g, 3, none⟩ = some a3 ∧ w.cell? ⟨g, 4, none⟩ = some a4 ∧ w.cell? ⟨g, 5, none⟩ = some a5) ∧ (w.cell? ⟨g', 0, none⟩ = some b0 ∧ w.cell? ⟨g', 1, none⟩ = some b1 ∧ w.cell? ⟨g', 2, none⟩ = some b2 ∧ w.cell? ⟨g', 3, none⟩ = some b3 ∧ w.cell? ⟨g', 4, none⟩ = some b4 ∧ w.cell? ⟨g', 5, none⟩ = some b5)) (hb : Below w.heap.size w w') :
    (w'.cell? ⟨g, 0, none⟩ = some a0 ∧ w'.cell? ⟨g, 1, none⟩ = some a1 ∧ w'.cell? ⟨g, 2, none⟩ = some a2 ∧ w'.cell? ⟨g, 3, none⟩ = some a3 ∧ w'.cell? ⟨g, 4, none⟩ = some a4 ∧ w'.cell? ⟨g, 5, none⟩ = some a5) ∧ (w'.cell? ⟨g', 0, none⟩ = some b0 ∧ w'.cell? ⟨g', 1, none⟩ = some b1 ∧ w'.cell? ⟨g', 2, none⟩ = some b2 ∧ w'.cell? ⟨g', 3, none⟩ = some b3 ∧ w'.cell? ⟨g', 4, none⟩ = some b4 ∧ w'.cell? ⟨g', 5, none⟩ = some b5) :=
  ⟨kept6 h.1 hb, kept6 h.2 hb⟩


/-- The two boxes of the law: the argument, the copy. -/
structure BY (gA gX : Nat) (Qa Xa : Array Value) (u : World) : Prop where
  a : u.heap[gA]? = some (.cells Qa 27 (0, 0))
  x : u.heap[gX]? = some (.cells Xa 37 (0, 0))
theorem BY.below {gA gX : Nat} {Qa Xa : Array Value} {u u' : World} (h : BY gA gX Qa Xa u) (b : Below u.heap.size u u') : BY gA gX Qa Xa u' :=
  ⟨below_blk b (Array.getElem?_eq_some_iff.1 h.a).1 h.a, below_blk b (Array.getElem?_eq_some_iff.1 h.x).1 h.x⟩
theorem BY.mid {gA gX lo hi : Nat} {Qa Xa : Array Value} {u u' : World} (h : BY gA gX Qa Xa u) (m : Mid lo hi u u') (h1 : gA < lo ∨ hi ≤ gA) (h3 : gX < lo ∨ hi ≤ gX) : BY gA gX Qa Xa u' :=
  ⟨(m.out _ (Array.getElem?_eq_some_iff.1 h.a).1 h1).trans h.a, (m.out _ (Array.getElem?_eq_some_iff.1 h.x).1 h3).trans h.x⟩
theorem SSO.rv {lo hi : Nat} {w : World} {v : Value} {l : List (List Int)} {F : Nat → Value} (h : SSO lo hi w v l.length F (at_ l)) (k : KB l) : ∀ i, i < l.length → RV w (F i) (at_ l i) := fun i hi => (h.tx i hi).rv (k.rng i hi)
theorem KB.ah {l : List (List Int)} (k : KB l) : ahead (at_ l) l.length ≤ 1048576 := by
  have := ahead_all (L := at_ l) (n := l.length) (B := 20) k.len
  have := k.n
  omega
/-- Two lists of the same texts. -/
theorem eqSSO {lo hi lo' hi' : Nat} {w : World} {v u : Value} {l : List (List Int)} {F G : Nat → Value} (h : SSO lo hi w v l.length F (at_ l)) (h' : SSO lo' hi' w u l.length G (at_ l)) (k : KB l) :
    Calls Try.prog 12 #[v, u] w fun e w' => e = .returned (.bool true) ∧ ∃ q, w' = w.drewN q :=
  eqSSV v u l.length F G (at_ l) w h.r h'.r (h.rv k) (h'.rv k) (fun i hi => by have := k.len i hi; omega)

set_option maxHeartbeats 8000000 in
set_option maxRecDepth 100000 in
theorem law_Turned_of (hI : SaysOk 42) (v : Value) (S : DState) (id : Int) (w : World) (h : VState w v S) (hr : rngSt S) :
    Calls Try.prog 3 #[v, .int .i64 id] w fun e w' => e = .returned (.bool true) ∧ Below w.heap.size w w' := by
  have hE : ∀ w : World, ∀ o, Ext w (w.alloc o) := fun w o => World.grownBy_alloc _ _ _
  have hB : ∀ w : World, ∀ o, Below w.heap.size w (w.alloc o) := fun w o => (Below.refl _ w).alloc (Nat.le_refl _) _
  have h0 : Hid (VState w v S) := h
  have HI : Hid (SaysOk 42) := hI
  have HR : Hid (rngSt S) := hr
  have HKB0 := trV_kb S id hr
  clear hI hr
  obtain ⟨hl, tb, hhl⟩ : ∃ hl tb, trV S id = (hl, tb) := ⟨_, _, rfl⟩
  have HHL : Hid (trV S id = (hl, tb)) := hhl
  have HKB : Hid (KB hl) := by rw [hhl] at HKB0; exact HKB0
  clear HKB0 hhl
  obtain ⟨rv, tv, sv, lv, rfl, _, _, _, _⟩ := h
  go_enter Try.func3, Try.ntmps3
  go_wp2_with fail
  refine (szSt _ S 1048576 _ (h0.out.ext (hE _ _)) (by omega) (by omega)).mono ?_
  rintro e w1 ⟨r, rfl, hrr, b1⟩
  have B1 := (hB w _).trans (b1.mono (by simp))
  have P1 := below_blk b1 (by simp) (heap_alloc_new w _)
  rcases hrr with ⟨h1, rfl⟩ | ⟨h1, h2⟩
  · go_wp2
    go_ret
    exact ⟨rfl, B1⟩
  · have HL : Hid (LenSt S 1048576) := lenSt_of (by omega)
    have hr0 : 0 ≤ r := by omega
    have hs1 := (Array.getElem?_eq_some_iff.1 P1).1
    clear h1 h2 b1
    obtain ⟨p0, _⟩ := at_block P1 0 _ rfl
    obtain ⟨p1, _⟩ := at_block P1 1 _ rfl
    obtain ⟨p2, _⟩ := at_block P1 2 _ rfl
    obtain ⟨p3, _⟩ := at_block P1 3 _ rfl
    obtain ⟨p4, _⟩ := at_block P1 4 _ rfl
    obtain ⟨p5, _⟩ := at_block P1 5 _ rfl
    go_wp2_with fail
    refine (toSt _ S w1 (h0.out.ext (ext_below B1)) HL.out).mono ?_
    rintro e w2 ⟨gr2, gt2, gs2, gl2, rfl, o2, b2⟩
    have B2 := B1.trans (b2.mono B1.size)
    have HV2 : Hid (VState w2 (stV gr2 gt2 gs2 gl2 S) S) := o2.v HL.out HR.out
    have P2 := below_blk b2 hs1 P1
    have s2 := b2.size
    clear p0 p1 p2 p3 p4 p5 o2 b2 P1
    go_wp2_with fail
    refine (sTurnedV HI.out _ S id w2 HV2.out).mono ?_
    rintro e w3 ⟨vw, FW, rfl, ow3, b3⟩
    rw [HHL.out] at ow3 ⊢
    have HW3 : Hid (SSO w2.heap.size w3.heap.size w3 vw hl.length FW (at_ hl)) := ow3.o
    have B3 := B2.trans (b3.mono B2.size)
    have P3 := below_blk b3 (by omega) P2
    have s3 := b3.size
    clear b3 P2 HV2 ow3
    obtain ⟨q0, _⟩ := at_block P3 0 _ rfl
    obtain ⟨q1, _⟩ := at_block P3 1 _ rfl
    obtain ⟨q2, _⟩ := at_block P3 2 _ rfl
    obtain ⟨q3, _⟩ := at_block P3 3 _ rfl
    obtain ⟨q4, _⟩ := at_block P3 4 _ rfl
    obtain ⟨q5, _⟩ := at_block P3 5 _ rfl
    go_wp2_with fail
    refine (toSt _ S w3 (h0.out.ext (ext_below B3)) HL.out).mono ?_
    rintro e w4 ⟨gr, gt, gs, gl, rfl, o4, b4⟩
    have B4 := B3.trans (b4.mono B3.size)
    have P4 := below_blk b4 (by omega) P3
    have s4 := b4.size
    have HS4 : Hid (Shp w3.heap.size w4.heap.size w4 gr gt gs gl S.rows.length S.tombs.length S.sess.length S.lasts.length) := shp_of o4 HL.out
    have HV4 : Hid (VState w4 (stV gr gt gs gl S) S) := o4.v HL.out HR.out
    have HW4 : Hid (SSO w2.heap.size w3.heap.size w4 vw hl.length FW (at_ hl)) := HW3.out.ext (ext_below b4)
    clear q0 q1 q2 q3 q4 q5 o4 b4 P3 HW3
    unfold stV at HV4 ⊢
    go_wp2_with fail
    refine (iTurnedV _ S id _ (HV4.out.ext (hE _ _))).mono ?_
    rintro e w5 ⟨vg, FG, rfl, ow5, b5⟩
    rw [HHL.out] at ow5 ⊢
    have HG5 : Hid (SSO (w4.heap.size + 1) w5.heap.size w5 vg hl.length FG (at_ hl)) := by
      have := ow5.o
      rw [show (w4.alloc (.cells #[.int .i64 S.index, .slice (some ⟨gr, 0, none⟩) S.rows.length S.rows.length, .slice (some ⟨gt, 0, none⟩) S.tombs.length S.tombs.length, .int .i64 S.lost, .slice (some ⟨gs, 0, none⟩) S.sess.length S.sess.length, .slice (some ⟨gl, 0, none⟩) S.lasts.length S.lasts.length] 37 (0, 0))).heap.size = w4.heap.size + 1 by simp] at this
      exact this
    have K5 : Hid (BY w.heap.size w4.heap.size #[.int .i64 S.index, rv, tv, .int .i64 S.lost, sv, lv] #[.int .i64 S.index, .slice (some ⟨gr, 0, none⟩) S.rows.length S.rows.length, .slice (some ⟨gt, 0, none⟩) S.tombs.length S.tombs.length, .int .i64 S.lost, .slice (some ⟨gs, 0, none⟩) S.sess.length S.sess.length, .slice (some ⟨gl, 0, none⟩) S.lasts.length S.lasts.length] w5) := BY.below ⟨(Below.heap_alloc w4 _ _ (by omega)).trans P4, heap_alloc_new w4 _⟩ b5
    have B5 : Below w.heap.size w w5 := (B4.alloc B4.size _).trans (b5.mono (by have := B4.size; simp; omega))
    have HV5 : Hid (VState w5 (.agg #[.int .i64 S.index, .slice (some ⟨gr, 0, none⟩) S.rows.length S.rows.length, .slice (some ⟨gt, 0, none⟩) S.tombs.length S.tombs.length, .int .i64 S.lost, .slice (some ⟨gs, 0, none⟩) S.sess.length S.sess.length, .slice (some ⟨gl, 0, none⟩) S.lasts.length S.lasts.length]) S) := (HV4.out.ext (hE w4 _)).ext (ext_below b5)
    have HS5 : Hid (Shp w3.heap.size w4.heap.size w5 gr gt gs gl S.rows.length S.tombs.length S.sess.length S.lasts.length) := (HS4.out.ext (hE w4 _)).ext (ext_below b5)
    have HW5 : Hid (SSO w2.heap.size w3.heap.size w5 vw hl.length FW (at_ hl)) := (HW4.out.ext (hE w4 _)).ext (ext_below b5)
    have s5 : w4.heap.size + 1 ≤ w5.heap.size := by have := b5.size; simpa using this
    clear b5 ow5 P4 HV4 HS4 HW4
    go_wp2_with fail
    refine (eqSSO HG5.out HW5.out HKB.out).mono ?_
    rintro e w6 ⟨rfl, q6, rfl⟩
    have b6 : Below w5.heap.size w5 (w5.drewN q6) := below_drewN (Below.refl _ _) q6
    generalize w5.drewN q6 = w6 at b6 ⊢
    have K6 : Hid (BY w.heap.size w4.heap.size #[.int .i64 S.index, rv, tv, .int .i64 S.lost, sv, lv] #[.int .i64 S.index, .slice (some ⟨gr, 0, none⟩) S.rows.length S.rows.length, .slice (some ⟨gt, 0, none⟩) S.tombs.length S.tombs.length, .int .i64 S.lost, .slice (some ⟨gs, 0, none⟩) S.sess.length S.sess.length, .slice (some ⟨gl, 0, none⟩) S.lasts.length S.lasts.length] w6) := K5.out.below b6
    have B6 := B5.trans (b6.mono B5.size)
    have s6 := b6.size
    have HW6 : Hid (SSO w2.heap.size w3.heap.size w6 vw hl.length FW (at_ hl)) := HW5.out.ext (ext_below b6)
    have HG6 : Hid (SSO (w4.heap.size + 1) w5.heap.size w6 vg hl.length FG (at_ hl)) := HG5.out.ext (ext_below b6)
    have HS6 : Hid (Shp w3.heap.size w4.heap.size w6 gr gt gs gl S.rows.length S.tombs.length S.sess.length S.lasts.length) := HS5.out.ext (ext_below b6)
    have HV6 : Hid (VState w6 (.agg #[.int .i64 S.index, .slice (some ⟨gr, 0, none⟩) S.rows.length S.rows.length, .slice (some ⟨gt, 0, none⟩) S.tombs.length S.tombs.length, .int .i64 S.lost, .slice (some ⟨gs, 0, none⟩) S.sess.length S.sess.length, .slice (some ⟨gl, 0, none⟩) S.lasts.length S.lasts.length]) S) := HV5.out.ext (ext_below b6)
    clear b6 K5 HW5 HG5 HS5 HV5
    obtain ⟨q0, _⟩ := at_block K6.out.a 0 _ rfl
    obtain ⟨q1, _⟩ := at_block K6.out.a 1 _ rfl
    obtain ⟨q2, _⟩ := at_block K6.out.a 2 _ rfl
    obtain ⟨q3, _⟩ := at_block K6.out.a 3 _ rfl
    obtain ⟨q4, _⟩ := at_block K6.out.a 4 _ rfl
    obtain ⟨q5, _⟩ := at_block K6.out.a 5 _ rfl
    obtain ⟨t0, _⟩ := at_block K6.out.x 0 _ rfl
    obtain ⟨t1, _⟩ := at_block K6.out.x 1 _ rfl
    obtain ⟨t2, _⟩ := at_block K6.out.x 2 _ rfl
    obtain ⟨t3, _⟩ := at_block K6.out.x 3 _ rfl
    obtain ⟨t4, _⟩ := at_block K6.out.x 4 _ rfl
    obtain ⟨t5, _⟩ := at_block K6.out.x 5 _ rfl
    have S5 : (w6.cell? ⟨w4.heap.size, 0, none⟩ = some (.int .i64 S.index) ∧ w6.cell? ⟨w4.heap.size, 1, none⟩ = some (.slice (some ⟨gr, 0, none⟩) S.rows.length S.rows.length) ∧ w6.cell? ⟨w4.heap.size, 2, none⟩ = some (.slice (some ⟨gt, 0, none⟩) S.tombs.length S.tombs.length) ∧ w6.cell? ⟨w4.heap.size, 3, none⟩ = some (.int .i64 S.lost) ∧ w6.cell? ⟨w4.heap.size, 4, none⟩ = some (.slice (some ⟨gs, 0, none⟩) S.sess.length S.sess.length) ∧ w6.cell? ⟨w4.heap.size, 5, none⟩ = some (.slice (some ⟨gl, 0, none⟩) S.lasts.length S.lasts.length)) ∧ (w6.cell? ⟨w.heap.size, 0, none⟩ = some (.int .i64 S.index) ∧ w6.cell? ⟨w.heap.size, 1, none⟩ = some rv ∧ w6.cell? ⟨w.heap.size, 2, none⟩ = some tv ∧ w6.cell? ⟨w.heap.size, 3, none⟩ = some (.int .i64 S.lost) ∧ w6.cell? ⟨w.heap.size, 4, none⟩ = some sv ∧ w6.cell? ⟨w.heap.size, 5, none⟩ = some lv) := ⟨⟨t0, t1, t2, t3, t4, t5⟩, ⟨q0, q1, q2, q3, q4, q5⟩⟩
    have HSS5 : Hid _ := S5
    have X5 : Ext w6 w6.drew := ext_drewN w6 1
    go_wp2_with fail
    go_region_held3 (fun w' => w'.cell? ⟨w4.heap.size, 0, none⟩ = some (.int .i64 S.index) ∧ w'.cell? ⟨w4.heap.size, 1, none⟩ = some (.slice (some ⟨gr, 0, none⟩) S.rows.length S.rows.length) ∧ w'.cell? ⟨w4.heap.size, 2, none⟩ = some (.slice (some ⟨gt, 0, none⟩) S.tombs.length S.tombs.length) ∧ w'.cell? ⟨w4.heap.size, 3, none⟩ = some (.int .i64 S.lost) ∧ w'.cell? ⟨w4.heap.size, 4, none⟩ = some (.slice (some ⟨gs, 0, none⟩) S.sess.length S.sess.length) ∧ w'.cell? ⟨w4.heap.size, 5, none⟩ = some (.slice (some ⟨gl, 0, none⟩) S.lasts.length S.lasts.length) ∧ w'.cell? ⟨w.heap.size, 0, none⟩ = some (.int .i64 S.index) ∧ w'.cell? ⟨w.heap.size, 1, none⟩ = some rv ∧ w'.cell? ⟨w.heap.size, 2, none⟩ = some tv ∧ w'.cell? ⟨w.heap.size, 3, none⟩ = some (.int .i64 S.lost) ∧ w'.cell? ⟨w.heap.size, 4, none⟩ = some sv ∧ w'.cell? ⟨w.heap.size, 5, none⟩ = some lv) (simp [*])
      (first | (go_at_call 10; refine (toSt _ S _ ?_ HL.out).mono ?_; exact (h0.out.ext (ext_below B6)).ext X5; rintro e w7 ⟨gr6, gt6, gs6, gl6, rfl, o7, b7⟩; obtain ⟨⟨a0, a1, a2, a3, a4, a5⟩, ⟨c0, c1, c2, c3, c4, c5⟩⟩ := kept12 (w := w6.drew) HSS5.out b7) | (go_at_call 13; refine (eqSt _ _ S _ ?_ ?_ HL.out).mono ?_; exact (HV6.out.ext X5).ext (ext_below b7); exact o7.v HL.out HR.out; rintro e w8 ⟨rfl, b8⟩; obtain ⟨⟨a0', a1', a2', a3', a4', a5'⟩, ⟨c0', c1', c2', c3', c4', c5'⟩⟩ := kept12 ⟨⟨a0, a1, a2, a3, a4, a5⟩, ⟨c0, c1, c2, c3, c4, c5⟩⟩ b8))
    have b68 : Below w6.heap.size w6 w8 := (below_drewN (Below.refl _ w6) 1).trans ((b7.mono (by simp)).trans (b8.mono (by have := b7.size; simpa using this)))
    have K8 : Hid (BY w.heap.size w4.heap.size #[.int .i64 S.index, rv, tv, .int .i64 S.lost, sv, lv] #[.int .i64 S.index, .slice (some ⟨gr, 0, none⟩) S.rows.length S.rows.length, .slice (some ⟨gt, 0, none⟩) S.tombs.length S.tombs.length, .int .i64 S.lost, .slice (some ⟨gs, 0, none⟩) S.sess.length S.sess.length, .slice (some ⟨gl, 0, none⟩) S.lasts.length S.lasts.length] w8) := K6.out.below b68
    have B8 := B6.trans (b68.mono B6.size)
    have s8 := b68.size
    have HW8 : Hid (SSO w2.heap.size w3.heap.size w8 vw hl.length FW (at_ hl)) := HW6.out.ext (ext_below b68)
    have HG8 : Hid (SSO (w4.heap.size + 1) w5.heap.size w8 vg hl.length FG (at_ hl)) := HG6.out.ext (ext_below b68)
    have HS8 : Hid (Shp w3.heap.size w4.heap.size w8 gr gt gs gl S.rows.length S.tombs.length S.sess.length S.lasts.length) := HS6.out.ext (ext_below b68)
    clear b68 K6 HW6 HG6 HS6 HV6 o7 b7 b8 S5 HSS5 X5 q0 q1 q2 q3 q4 q5 t0 t1 t2 t3 t4 t5
    clear a0 a1 a2 a3 a4 a5 c0 c1 c2 c3 c4 c5
    obtain ⟨t0, _⟩ := at_block K8.out.x 0 _ rfl
    obtain ⟨t1, _⟩ := at_block K8.out.x 1 _ rfl
    obtain ⟨t2, _⟩ := at_block K8.out.x 2 _ rfl
    obtain ⟨t3, _⟩ := at_block K8.out.x 3 _ rfl
    obtain ⟨t4, _⟩ := at_block K8.out.x 4 _ rfl
    obtain ⟨t5, _⟩ := at_block K8.out.x 5 _ rfl
    go_wp2_with fail
    refine (markStM w3.heap.size w4.heap.size gr gt gs gl _ _ _ _ _ _ 1 w8 HS8.out (by omega) (by omega) (by omega)).mono ?_
    rintro e w9 ⟨k9, hk0, hk1, rfl, m9⟩
    have K9 : Hid (BY w.heap.size w4.heap.size #[.int .i64 S.index, rv, tv, .int .i64 S.lost, sv, lv] #[.int .i64 S.index, .slice (some ⟨gr, 0, none⟩) S.rows.length S.rows.length, .slice (some ⟨gt, 0, none⟩) S.tombs.length S.tombs.length, .int .i64 S.lost, .slice (some ⟨gs, 0, none⟩) S.sess.length S.sess.length, .slice (some ⟨gl, 0, none⟩) S.lasts.length S.lasts.length] w9) := K8.out.mid m9 (by omega) (by omega)
    have B9 : Below w.heap.size w w9 := m9.below B8 B8.size (by omega)
    have HW9 : Hid (SSO w2.heap.size w3.heap.size w9 vw hl.length FW (at_ hl)) := HW8.out.mid m9 (by omega)
    have HG9 : Hid (SSO (w4.heap.size + 1) w5.heap.size w9 vg hl.length FG (at_ hl)) := HG8.out.mid m9 (by omega)
    have s9 := m9.size
    have dk9 : decide (k9 < 0) = false := decide_eq_false (by omega)
    clear K8 HW8 HG8 HS8 m9 t0 t1 t2 t3 t4 t5
    go_wp2_with fail
    refine (eqSSO HG9.out HW9.out HKB.out).mono ?_
    rintro e w10 ⟨rfl, q10, rfl⟩
    have b10 : Below w9.heap.size w9 (w9.drewN q10) := below_drewN (Below.refl _ _) q10
    generalize w9.drewN q10 = w10 at b10 ⊢
    have K10 : Hid (BY w.heap.size w4.heap.size #[.int .i64 S.index, rv, tv, .int .i64 S.lost, sv, lv] #[.int .i64 S.index, .slice (some ⟨gr, 0, none⟩) S.rows.length S.rows.length, .slice (some ⟨gt, 0, none⟩) S.tombs.length S.tombs.length, .int .i64 S.lost, .slice (some ⟨gs, 0, none⟩) S.sess.length S.sess.length, .slice (some ⟨gl, 0, none⟩) S.lasts.length S.lasts.length] w10) := K9.out.below b10
    have B10 := B9.trans (b10.mono B9.size)
    have s10 := b10.size
    have HW10 : Hid (SSO w2.heap.size w3.heap.size w10 vw hl.length FW (at_ hl)) := HW9.out.ext (ext_below b10)
    have HG10 : Hid (SSO (w4.heap.size + 1) w5.heap.size w10 vg hl.length FG (at_ hl)) := HG9.out.ext (ext_below b10)
    clear b10 K9 HW9 HG9 hk0 hk1
    go_wp2_with fail
    refine (markSSV (w4.heap.size + 1) w5.heap.size vg hl.length FG (at_ hl) 1 w10 HG10.out HKB.out.ah (by omega) (by omega)).mono ?_
    rintro e w11 ⟨rfl, og11, m11⟩
    have K11 : Hid (BY w.heap.size w4.heap.size #[.int .i64 S.index, rv, tv, .int .i64 S.lost, sv, lv] #[.int .i64 S.index, .slice (some ⟨gr, 0, none⟩) S.rows.length S.rows.length, .slice (some ⟨gt, 0, none⟩) S.tombs.length S.tombs.length, .int .i64 S.lost, .slice (some ⟨gs, 0, none⟩) S.sess.length S.sess.length, .slice (some ⟨gl, 0, none⟩) S.lasts.length S.lasts.length] w11) := K10.out.mid m11 (by omega) (by omega)
    have B11 : Below w.heap.size w w11 := m11.below B10 B10.size (by omega)
    have HW11 : Hid (SSO w2.heap.size w3.heap.size w11 vw hl.length FW (at_ hl)) := HW10.out.mid m11 (by omega)
    have HM11 : Hid (SSO (w4.heap.size + 1) w5.heap.size w11 vg hl.length FG (fun i => marks (1 + ahead (at_ hl) i) (at_ hl i).length)) := og11
    have s11 := m11.size
    obtain ⟨aa, haa⟩ : ∃ aa, ahead (at_ hl) hl.length = aa := ⟨_, rfl⟩
    have HAA : Hid (ahead (at_ hl) hl.length = aa) := haa
    rw [haa]
    have dm : decide (1 + (aa : Int) < 0) = false := decide_eq_false (by omega)
    clear K10 HW10 HG10 m11 og11 haa
    go_wp2_with fail
    refine (heldSSV vg hl.length FG (at_ hl) 1 w11 HM11.out.r (fun i hi => (HM11.out.tx i hi).rv (marks_rng _ _)) HKB.out.ah (by omega) (by omega)).mono ?_
    rintro e w12 ⟨rfl, rfl⟩
    rw [HAA.out]
    obtain ⟨q0, _⟩ := at_block K11.out.a 0 _ rfl
    obtain ⟨q1, _⟩ := at_block K11.out.a 1 _ rfl
    obtain ⟨q2, _⟩ := at_block K11.out.a 2 _ rfl
    obtain ⟨q3, _⟩ := at_block K11.out.a 3 _ rfl
    obtain ⟨q4, _⟩ := at_block K11.out.a 4 _ rfl
    obtain ⟨q5, _⟩ := at_block K11.out.a 5 _ rfl
    go_wp2_with fail
    refine (toSt _ S w12 (h0.out.ext (ext_below B11)) HL.out).mono ?_
    rintro e w13 ⟨gr9, gt9, gs9, gl9, rfl, o13, b13⟩
    have B13 := B11.trans (b13.mono B11.size)
    have HV13 : Hid (VState w13 (stV gr9 gt9 gs9 gl9 S) S) := o13.v HL.out HR.out
    have HW13 : Hid (SSO w2.heap.size w3.heap.size w13 vw hl.length FW (at_ hl)) := HW11.out.ext (ext_below b13)
    have HM13 : Hid (SSO (w4.heap.size + 1) w5.heap.size w13 vg hl.length FG (fun i => marks (1 + ahead (at_ hl) i) (at_ hl i).length)) := HM11.out.ext (ext_below b13)
    clear b13 o13 K11 HW11 HM11 q0 q1 q2 q3 q4 q5
    go_wp2_with fail
    refine (iTurnedV _ S id w13 HV13.out).mono ?_
    rintro e w14 ⟨vh, FH, rfl, ow14, b14⟩
    rw [HHL.out] at ow14 ⊢
    have B14 := B13.trans (b14.mono B13.size)
    have HH14 : Hid (SSO w13.heap.size w14.heap.size w14 vh hl.length FH (at_ hl)) := ow14.o
    have HW14 : Hid (SSO w2.heap.size w3.heap.size w14 vw hl.length FW (at_ hl)) := HW13.out.ext (ext_below b14)
    have HM14 : Hid (SSO (w4.heap.size + 1) w5.heap.size w14 vg hl.length FG (fun i => marks (1 + ahead (at_ hl) i) (at_ hl i).length)) := HM13.out.ext (ext_below b14)
    clear b14 ow14 HW13 HM13 HV13
    go_wp2_with fail
    refine (eqSSO HH14.out HW14.out HKB.out).mono ?_
    rintro e w15 ⟨rfl, q15, rfl⟩
    have B15 : Below w.heap.size w (w14.drewN q15) := below_drewN B14 q15
    have HM15 : Hid (SSO (w4.heap.size + 1) w5.heap.size (w14.drewN q15) vg hl.length FG (fun i => marks (1 + ahead (at_ hl) i) (at_ hl i).length)) := HM14.out.ext (ext_drewN _ _)
    generalize w14.drewN q15 = w15 at B15 HM15 ⊢
    clear HH14 HW14 HM14
    go_wp2_with fail
    refine (heldSSV vg hl.length FG (at_ hl) 1 w15 HM15.out.r (fun i hi => (HM15.out.tx i hi).rv (marks_rng _ _)) HKB.out.ah (by omega) (by omega)).mono ?_
    rintro e w16 ⟨rfl, rfl⟩
    rw [HAA.out]
    go_wp2
    go_ret
    exact ⟨rfl, B15⟩

end Go.Proofs.Ytplgnohncdfgcal
