/- The exact statement of Keys: the walk of the law itself. -/
import Derived.Test.YtplgnohncdfgcakKyX
import Derived.Test.YtplgnohncdfgcakMkB
import Derived.Deep.RegionHeld3
namespace Go.Proofs.Ytplgnohncdfgcak
open Go.RowKit

theorem kept6 {w w' : World} {g : Nat} {a0 a1 a2 a3 a4 a5 : Value} (h : w.cell? ⟨g, 0, none⟩ = some a0 ∧ w.cell? ⟨g, 1, none⟩ = some a1 ∧ w.cell? ⟨g, 2, none⟩ = some a2 ∧ w.cell? ⟨g, 3, none⟩ = some a3 ∧ w.cell? ⟨g, 4, none⟩ = some a4 ∧ w.cell? ⟨g, 5, none⟩ = some a5) (hb : Below w.heap.size w w') :
    w'.cell? ⟨g, 0, none⟩ = some a0 ∧ w'.cell? ⟨g, 1, none⟩ = some a1 ∧ w'.cell? ⟨g, 2, none⟩ = some a2 ∧ w'.cell? ⟨g, 3, none⟩ = some a3 ∧ w'.cell? ⟨g, 4, none⟩ = some a4 ∧ w'.cell? ⟨g, 5, none⟩ = some a5 := by
  have hg : g < w.heap.size := World.block_lt_of_cell? w _ h.1
  obtain ⟨h0, h1, h2, h3, h4, h5⟩ := h
  exact ⟨(hb.cell (p := ⟨g, 0, none⟩) hg).trans h0, (hb.cell (p := ⟨g, 1, none⟩) hg).trans h1, (hb.cell (p := ⟨g, 2, none⟩) hg).trans h2, (hb.cell (p := ⟨g, 3, none⟩) hg).trans h3, (hb.cell (p := ⟨g, 4, none⟩) hg).trans h4, (hb.cell (p := ⟨g, 5, none⟩) hg).trans h5⟩
theorem kept12 {w w' : World} {g g' : Nat} {a0 a1 a2 a3 a4 a5 b0 b1 b2 b3 b4 b5 : Value} (h : (w.cell? ⟨g, 0, none⟩ = some a0 ∧ w.cell? ⟨g, 1, none⟩ = some a1 ∧ w.cell? ⟨g, 2, none⟩ = some a2 ∧ w.cell? ⟨g, 3, none⟩ = some a3 ∧ w.cell? ⟨g, 4, none⟩ = some a4 ∧ w.cell? ⟨g, 5, none⟩ = some a5) ∧ (w.cell? ⟨g', 0, none⟩ = some b0 ∧ w.cell? ⟨g', 1, none⟩ = some b1 ∧ w.cell? ⟨g', 2, none⟩ = some b2 ∧ w.cell? ⟨g', 3, none⟩ = some b3 ∧ w.cell? ⟨g', 4, none⟩ = some b4 ∧ w.cell? ⟨g', 5, none⟩ = some b5)) (hb : Below w.heap.size w w') :
    (w'.cell? ⟨g, 0, none⟩ = some a0 ∧ w'.cell? ⟨g, 1, none⟩ = some a1 ∧ w'.cell? ⟨g, 2, none⟩ = some a2 ∧ w'.cell? ⟨g, 3, none⟩ = some a3 ∧ w'.cell? ⟨g, 4, none⟩ = some a4 ∧ w'.cell? ⟨g, 5, none⟩ = some a5) ∧ (w'.cell? ⟨g', 0, none⟩ = some b0 ∧ w'.cell? ⟨g', 1, none⟩ = some b1 ∧ w'.cell? ⟨g', 2, none⟩ = some b2 ∧ w'.cell? ⟨g', 3, none⟩ = some b3 ∧ w'.cell? ⟨g', 4, none⟩ = some b4 ∧ w'.cell? ⟨g', 5, none⟩ = some b5) :=
  ⟨kept6 h.1 hb, kept6 h.2 hb⟩


/-- The two boxes of the law: the argument, the copy. -/
structure BY (gA gX : Nat) (Qa Xa : Array Value) (u : World) : Prop where
  a : u.heap[gA]? = some (.cells Qa 27 (0, 0))
  x : u.heap[gX]? = some (.cells Xa 38 (0, 0))
theorem BY.below {gA gX : Nat} {Qa Xa : Array Value} {u u' : World} (h : BY gA gX Qa Xa u) (b : Below u.heap.size u u') : BY gA gX Qa Xa u' :=
  ⟨below_blk b (Array.getElem?_eq_some_iff.1 h.a).1 h.a, below_blk b (Array.getElem?_eq_some_iff.1 h.x).1 h.x⟩
theorem BY.mid {gA gX lo hi : Nat} {Qa Xa : Array Value} {u u' : World} (h : BY gA gX Qa Xa u) (m : Mid lo hi u u') (h1 : gA < lo ∨ hi ≤ gA) (h3 : gX < lo ∨ hi ≤ gX) : BY gA gX Qa Xa u' :=
  ⟨(m.out _ (Array.getElem?_eq_some_iff.1 h.a).1 h1).trans h.a, (m.out _ (Array.getElem?_eq_some_iff.1 h.x).1 h3).trans h.x⟩
theorem SSO.rv {lo hi : Nat} {w : World} {v : Value} {l : List (List Int)} {F : Nat → Value} (h : SSO lo hi w v l.length F (at_ l)) (k : KB l) : ∀ i, i < l.length → RV w (F i) (at_ l i) := fun i hi => (h.tx i hi).rv (k.rng i hi)
theorem KB.ah {l : List (List Int)} (k : KB l) : ahead (at_ l) l.length ≤ 1048576 := by
  have := ahead_all (L := at_ l) (n := l.length) (B := 20) k.len
  have := k.n
  omega
/-- Two lists of the same texts. -/
theorem eqSSO {lo hi lo' hi' : Nat} {w : World} {v u : Value} {l : List (List Int)} {F G : Nat → Value} (h : SSO lo hi w v l.length F (at_ l)) (h' : SSO lo' hi' w u l.length G (at_ l)) (k : KB l) :
    Calls Try.prog 25 #[v, u] w fun e w' => e = .returned (.bool true) ∧ ∃ q, w' = w.drewN q :=
  eqSSV v u l.length F G (at_ l) w h.r h'.r (h.rv k) (h'.rv k) (fun i hi => by have := k.len i hi; omega)

theorem WB.mid {lo hi lo' hi' : Nat} {w w' : World} {v : Value} (h : WB lo hi w v) (m : Mid lo' hi' w w') (hd : hi' ≤ lo) : WB lo hi w' v := by
  rcases h with h | ⟨g, n, cap, cur, rfl, h1, h2, h3, h4, h5, h6⟩
  · exact .inl h
  · exact .inr ⟨g, n, cap, cur, rfl, h1, h2, h3, h4, (m.out g (Array.getElem?_eq_some_iff.1 h5).1 (.inr (by omega))).trans h5, h6⟩

set_option maxHeartbeats 8000000 in
set_option maxRecDepth 100000 in
theorem law_Keys_of (hI : SaysOk 39) (v u : Value) (S : DState) (p : List Int) (w : World) (h : VState w v S) (hr : rngSt S) (hu : RV w u p) :
    Calls Try.prog 6 #[v, u] w fun e w' => e = .returned (.bool true) ∧ Below w.heap.size w w' := by
  have hE : ∀ w : World, ∀ o, Ext w (w.alloc o) := fun w o => World.grownBy_alloc _ _ _
  have hB : ∀ w : World, ∀ o, Below w.heap.size w (w.alloc o) := fun w o => (Below.refl _ w).alloc (Nat.le_refl _) _
  have h0 : Hid (VState w v S) := h
  have HI : Hid (SaysOk 39) := hI
  have HR : Hid (rngSt S) := hr
  have HU : Hid (RV w u p) := hu
  have HKB0 := kyV_kb S p hr
  clear hI hr
  obtain ⟨hl, hhl⟩ : ∃ hl, kyV S p = hl := ⟨_, rfl⟩
  have HHL : Hid (kyV S p = hl) := hhl
  have HKB : Hid (KB hl) := by rw [← hhl]; exact HKB0
  clear HKB0 hhl
  obtain ⟨rv, tv, sv, lv, rfl, _, _, _, _⟩ := h
  obtain ⟨pa, pc, rfl, prd, _, _⟩ := hu
  have HRP : Hid (∀ x ∈ p, 0 ≤ x ∧ x ≤ 255) := prd.rng
  clear prd
  go_enter Try.func6, Try.ntmps6
  by_cases hpl : (1048576 : Int) < (p.length : Int)
  · go_wp2
    go_ret
    exact ⟨rfl, hB _ _⟩
  have dpl : decide ((1048576 : Int) < (p.length : Int)) = false := decide_eq_false hpl
  have hpn : p.length ≤ 1048576 := by omega
  clear hpl
  go_wp2_with fail
  refine (szSt _ S 1048576 _ (h0.out.ext (hE _ _)) (by omega) (by omega)).mono ?_
  rintro e w1 ⟨r, rfl, hrr, b1⟩
  have B1 := (hB w _).trans (b1.mono (by simp))
  have P1 := below_blk b1 (by simp) (heap_alloc_new w _)
  rcases hrr with ⟨h1, rfl⟩ | ⟨h1, h2⟩
  · go_wp2
    go_ret
    exact ⟨rfl, B1⟩
  · have HL : Hid (LenSt S 1048576) := lenSt_of (by omega)
    have hr0 : 0 ≤ r := by omega
    have hs1 := (Array.getElem?_eq_some_iff.1 P1).1
    clear h1 h2 b1
    obtain ⟨p0, _⟩ := at_block P1 0 _ rfl
    obtain ⟨p1, _⟩ := at_block P1 1 _ rfl
    obtain ⟨p2, _⟩ := at_block P1 2 _ rfl
    obtain ⟨p3, _⟩ := at_block P1 3 _ rfl
    obtain ⟨p4, _⟩ := at_block P1 4 _ rfl
    obtain ⟨p5, _⟩ := at_block P1 5 _ rfl
    go_wp2_with fail
    refine (toSt _ S w1 (h0.out.ext (ext_below B1)) HL.out).mono ?_
    rintro e w2 ⟨gr2, gt2, gs2, gl2, rfl, o2, b2⟩
    have B2 := B1.trans (b2.mono B1.size)
    have HV2 : Hid (VState w2 (stV gr2 gt2 gs2 gl2 S) S) := o2.v HL.out HR.out
    have P2 := below_blk b2 hs1 P1
    have s2 := b2.size
    clear p0 p1 p2 p3 p4 p5 o2 b2 P1
    go_wp2_with fail
    refine (toV _ p w2 (HU.out.ext (ext_below B2)) hpn).mono ?_
    rintro e w3 ⟨v3, rfl, o3, b3⟩
    have B3 := B2.trans (b3.mono B2.size)
    have HV3 : Hid (VState w3 (stV gr2 gt2 gs2 gl2 S) S) := HV2.out.ext (ext_below b3)
    have HW3 : Hid (RV w3 v3 p) := o3.rv HRP.out
    have P3 := below_blk b3 (by omega) P2
    have s3 := b3.size
    clear o3 b3 P2 HV2
    go_wp2_with fail
    refine (sKeysV HI.out _ _ S p w3 HV3.out HW3.out (by omega)).mono ?_
    rintro e w4 ⟨vw, FW, rfl, ow4, b4⟩
    rw [HHL.out] at ow4
    have HW4 : Hid (SSO w3.heap.size w4.heap.size w4 vw hl.length FW (at_ hl)) := ow4.o
    have B4 := B3.trans (b4.mono B3.size)
    have P4 := below_blk b4 (by omega) P3
    have s4 := b4.size
    clear b4 P3 HV3 HW3 ow4
    obtain ⟨q0, _⟩ := at_block P4 0 _ rfl
    obtain ⟨q1, _⟩ := at_block P4 1 _ rfl
    obtain ⟨q2, _⟩ := at_block P4 2 _ rfl
    obtain ⟨q3, _⟩ := at_block P4 3 _ rfl
    obtain ⟨q4, _⟩ := at_block P4 4 _ rfl
    obtain ⟨q5, _⟩ := at_block P4 5 _ rfl
    go_wp2_with fail
    refine (toSt _ S w4 (h0.out.ext (ext_below B4)) HL.out).mono ?_
    rintro e w5 ⟨gr, gt, gs, gl, rfl, o5, b5⟩
    have B5 := B4.trans (b5.mono B4.size)
    have P5 := below_blk b5 (by omega) P4
    have s5 := b5.size
    have HS5 : Hid (Shp w4.heap.size w5.heap.size w5 gr gt gs gl S.rows.length S.tombs.length S.sess.length S.lasts.length) := shp_of o5 HL.out
    have HV5 : Hid (VState w5 (stV gr gt gs gl S) S) := o5.v HL.out HR.out
    have HW5 : Hid (SSO w3.heap.size w4.heap.size w5 vw hl.length FW (at_ hl)) := HW4.out.ext (ext_below b5)
    clear q0 q1 q2 q3 q4 q5 o5 b5 P4 HW4
    unfold stV at HV5 ⊢
    go_wp2_with fail
    refine (toV _ p _ (HU.out.ext ((ext_below B5).tr (hE _ _))) hpn).mono ?_
    rintro e w6 ⟨v6, rfl, o6, b6⟩
    have B6 : Below w.heap.size w w6 := (B5.alloc B5.size _).trans (b6.mono (by have := B5.size; simp; omega))
    have K6 : Hid (BY w.heap.size w5.heap.size #[.int .i64 S.index, rv, tv, .int .i64 S.lost, sv, lv] #[.int .i64 S.index, .slice (some ⟨gr, 0, none⟩) S.rows.length S.rows.length, .slice (some ⟨gt, 0, none⟩) S.tombs.length S.tombs.length, .int .i64 S.lost, .slice (some ⟨gs, 0, none⟩) S.sess.length S.sess.length, .slice (some ⟨gl, 0, none⟩) S.lasts.length S.lasts.length] w6) := BY.below ⟨(Below.heap_alloc w5 _ _ (by omega)).trans P5, heap_alloc_new w5 _⟩ b6
    have s6 : w5.heap.size + 1 ≤ w6.heap.size := by have := b6.size; simpa using this
    have HV6 : Hid (VState w6 (.agg #[.int .i64 S.index, .slice (some ⟨gr, 0, none⟩) S.rows.length S.rows.length, .slice (some ⟨gt, 0, none⟩) S.tombs.length S.tombs.length, .int .i64 S.lost, .slice (some ⟨gs, 0, none⟩) S.sess.length S.sess.length, .slice (some ⟨gl, 0, none⟩) S.lasts.length S.lasts.length]) S) := (HV5.out.ext (hE w5 _)).ext (ext_below b6)
    have HS6 : Hid (Shp w4.heap.size w5.heap.size w6 gr gt gs gl S.rows.length S.tombs.length S.sess.length S.lasts.length) := (HS5.out.ext (hE w5 _)).ext (ext_below b6)
    have HW6 : Hid (SSO w3.heap.size w4.heap.size w6 vw hl.length FW (at_ hl)) := (HW5.out.ext (hE w5 _)).ext (ext_below b6)
    have HX60 : Hid (WB (w5.heap.size + 1) w6.heap.size w6 v6) := WB.of o6 (by simp) hpn
    have HR60 : Hid (RV w6 v6 p) := o6.rv HRP.out
    clear o6 b6 P5 HV5 HS5 HW5
    obtain ⟨x6a, x6c, rfl, _, _, _⟩ := HR60.out
    have HX6 : Hid (WB (w5.heap.size + 1) w6.heap.size w6 (.slice x6a p.length x6c)) := HX60
    have HR16 : Hid (RV w6 (.slice x6a p.length x6c) p) := HR60
    clear HX60 HR60
    obtain ⟨t0, _⟩ := at_block K6.out.x 0 _ rfl
    obtain ⟨t1, _⟩ := at_block K6.out.x 1 _ rfl
    obtain ⟨t2, _⟩ := at_block K6.out.x 2 _ rfl
    obtain ⟨t3, _⟩ := at_block K6.out.x 3 _ rfl
    obtain ⟨t4, _⟩ := at_block K6.out.x 4 _ rfl
    obtain ⟨t5, _⟩ := at_block K6.out.x 5 _ rfl
    go_wp2_with fail
    refine (iKeysV _ _ S p w6 HV6.out HR16.out (by omega)).mono ?_
    rintro e w7 ⟨vg, FG, rfl, ow7, b7⟩
    rw [HHL.out] at ow7
    have HG7 : Hid (SSO w6.heap.size w7.heap.size w7 vg hl.length FG (at_ hl)) := ow7.o
    have K7 : Hid (BY w.heap.size w5.heap.size #[.int .i64 S.index, rv, tv, .int .i64 S.lost, sv, lv] #[.int .i64 S.index, .slice (some ⟨gr, 0, none⟩) S.rows.length S.rows.length, .slice (some ⟨gt, 0, none⟩) S.tombs.length S.tombs.length, .int .i64 S.lost, .slice (some ⟨gs, 0, none⟩) S.sess.length S.sess.length, .slice (some ⟨gl, 0, none⟩) S.lasts.length S.lasts.length] w7) := K6.out.below b7
    have B7 := B6.trans (b7.mono B6.size)
    have s7 := b7.size
    have HW7 : Hid (SSO w3.heap.size w4.heap.size w7 vw hl.length FW (at_ hl)) := HW6.out.ext (ext_below b7)
    have HS7 : Hid (Shp w4.heap.size w5.heap.size w7 gr gt gs gl S.rows.length S.tombs.length S.sess.length S.lasts.length) := HS6.out.ext (ext_below b7)
    have HX7 : Hid (WB (w5.heap.size + 1) w6.heap.size w7 (.slice x6a p.length x6c)) := HX6.out.grown (ext_below b7)
    have HR17 : Hid (RV w7 (.slice x6a p.length x6c) p) := HR16.out.ext (ext_below b7)
    have HV7 : Hid (VState w7 (.agg #[.int .i64 S.index, .slice (some ⟨gr, 0, none⟩) S.rows.length S.rows.length, .slice (some ⟨gt, 0, none⟩) S.tombs.length S.tombs.length, .int .i64 S.lost, .slice (some ⟨gs, 0, none⟩) S.sess.length S.sess.length, .slice (some ⟨gl, 0, none⟩) S.lasts.length S.lasts.length]) S) := HV6.out.ext (ext_below b7)
    clear b7 ow7 K6 HW6 HS6 HX6 HR16 HV6 t0 t1 t2 t3 t4 t5
    go_wp2_with fail
    refine (eqSSO HG7.out HW7.out HKB.out).mono ?_
    rintro e w8 ⟨rfl, q8, rfl⟩
    have b8 : Below w7.heap.size w7 (w7.drewN q8) := below_drewN (Below.refl _ _) q8
    generalize w7.drewN q8 = w8 at b8 ⊢
    have K8 : Hid (BY w.heap.size w5.heap.size #[.int .i64 S.index, rv, tv, .int .i64 S.lost, sv, lv] #[.int .i64 S.index, .slice (some ⟨gr, 0, none⟩) S.rows.length S.rows.length, .slice (some ⟨gt, 0, none⟩) S.tombs.length S.tombs.length, .int .i64 S.lost, .slice (some ⟨gs, 0, none⟩) S.sess.length S.sess.length, .slice (some ⟨gl, 0, none⟩) S.lasts.length S.lasts.length] w8) := K7.out.below b8
    have B8 := B7.trans (b8.mono B7.size)
    have s8 := b8.size
    have HW8 : Hid (SSO w3.heap.size w4.heap.size w8 vw hl.length FW (at_ hl)) := HW7.out.ext (ext_below b8)
    have HG8 : Hid (SSO w6.heap.size w7.heap.size w8 vg hl.length FG (at_ hl)) := HG7.out.ext (ext_below b8)
    have HS8 : Hid (Shp w4.heap.size w5.heap.size w8 gr gt gs gl S.rows.length S.tombs.length S.sess.length S.lasts.length) := HS7.out.ext (ext_below b8)
    have HX8 : Hid (WB (w5.heap.size + 1) w6.heap.size w8 (.slice x6a p.length x6c)) := HX7.out.grown (ext_below b8)
    have HR18 : Hid (RV w8 (.slice x6a p.length x6c) p) := HR17.out.ext (ext_below b8)
    have HV8 : Hid (VState w8 (.agg #[.int .i64 S.index, .slice (some ⟨gr, 0, none⟩) S.rows.length S.rows.length, .slice (some ⟨gt, 0, none⟩) S.tombs.length S.tombs.length, .int .i64 S.lost, .slice (some ⟨gs, 0, none⟩) S.sess.length S.sess.length, .slice (some ⟨gl, 0, none⟩) S.lasts.length S.lasts.length]) S) := HV7.out.ext (ext_below b8)
    clear b8 K7 HW7 HG7 HS7 HX7 HR17 HV7
    obtain ⟨q0, _⟩ := at_block K8.out.a 0 _ rfl
    obtain ⟨q1, _⟩ := at_block K8.out.a 1 _ rfl
    obtain ⟨q2, _⟩ := at_block K8.out.a 2 _ rfl
    obtain ⟨q3, _⟩ := at_block K8.out.a 3 _ rfl
    obtain ⟨q4, _⟩ := at_block K8.out.a 4 _ rfl
    obtain ⟨q5, _⟩ := at_block K8.out.a 5 _ rfl
    obtain ⟨t0, _⟩ := at_block K8.out.x 0 _ rfl
    obtain ⟨t1, _⟩ := at_block K8.out.x 1 _ rfl
    obtain ⟨t2, _⟩ := at_block K8.out.x 2 _ rfl
    obtain ⟨t3, _⟩ := at_block K8.out.x 3 _ rfl
    obtain ⟨t4, _⟩ := at_block K8.out.x 4 _ rfl
    obtain ⟨t5, _⟩ := at_block K8.out.x 5 _ rfl
    have S5 : (w8.cell? ⟨w5.heap.size, 0, none⟩ = some (.int .i64 S.index) ∧ w8.cell? ⟨w5.heap.size, 1, none⟩ = some (.slice (some ⟨gr, 0, none⟩) S.rows.length S.rows.length) ∧ w8.cell? ⟨w5.heap.size, 2, none⟩ = some (.slice (some ⟨gt, 0, none⟩) S.tombs.length S.tombs.length) ∧ w8.cell? ⟨w5.heap.size, 3, none⟩ = some (.int .i64 S.lost) ∧ w8.cell? ⟨w5.heap.size, 4, none⟩ = some (.slice (some ⟨gs, 0, none⟩) S.sess.length S.sess.length) ∧ w8.cell? ⟨w5.heap.size, 5, none⟩ = some (.slice (some ⟨gl, 0, none⟩) S.lasts.length S.lasts.length)) ∧ (w8.cell? ⟨w.heap.size, 0, none⟩ = some (.int .i64 S.index) ∧ w8.cell? ⟨w.heap.size, 1, none⟩ = some rv ∧ w8.cell? ⟨w.heap.size, 2, none⟩ = some tv ∧ w8.cell? ⟨w.heap.size, 3, none⟩ = some (.int .i64 S.lost) ∧ w8.cell? ⟨w.heap.size, 4, none⟩ = some sv ∧ w8.cell? ⟨w.heap.size, 5, none⟩ = some lv) := ⟨⟨t0, t1, t2, t3, t4, t5⟩, ⟨q0, q1, q2, q3, q4, q5⟩⟩
    have HSS5 : Hid _ := S5
    have X5 : Ext w8 w8.drew := ext_drewN w8 1
    go_wp2_with fail
    go_region_held3 (fun w' => w'.cell? ⟨w5.heap.size, 0, none⟩ = some (.int .i64 S.index) ∧ w'.cell? ⟨w5.heap.size, 1, none⟩ = some (.slice (some ⟨gr, 0, none⟩) S.rows.length S.rows.length) ∧ w'.cell? ⟨w5.heap.size, 2, none⟩ = some (.slice (some ⟨gt, 0, none⟩) S.tombs.length S.tombs.length) ∧ w'.cell? ⟨w5.heap.size, 3, none⟩ = some (.int .i64 S.lost) ∧ w'.cell? ⟨w5.heap.size, 4, none⟩ = some (.slice (some ⟨gs, 0, none⟩) S.sess.length S.sess.length) ∧ w'.cell? ⟨w5.heap.size, 5, none⟩ = some (.slice (some ⟨gl, 0, none⟩) S.lasts.length S.lasts.length) ∧ w'.cell? ⟨w.heap.size, 0, none⟩ = some (.int .i64 S.index) ∧ w'.cell? ⟨w.heap.size, 1, none⟩ = some rv ∧ w'.cell? ⟨w.heap.size, 2, none⟩ = some tv ∧ w'.cell? ⟨w.heap.size, 3, none⟩ = some (.int .i64 S.lost) ∧ w'.cell? ⟨w.heap.size, 4, none⟩ = some sv ∧ w'.cell? ⟨w.heap.size, 5, none⟩ = some lv) (simp [*])
      (first | (go_at_call 11; refine (toSt _ S _ ?_ HL.out).mono ?_; exact (h0.out.ext (ext_below B8)).ext X5; rintro e w9 ⟨gr6, gt6, gs6, gl6, rfl, o9, b9⟩; obtain ⟨⟨a0, a1, a2, a3, a4, a5⟩, ⟨c0, c1, c2, c3, c4, c5⟩⟩ := kept12 (w := w8.drew) HSS5.out b9) | (go_at_call 15; refine (eqSt _ _ S _ ?_ ?_ HL.out).mono ?_; exact (HV8.out.ext X5).ext (ext_below b9); exact o9.v HL.out HR.out; rintro e w10 ⟨rfl, b10⟩; obtain ⟨⟨a0', a1', a2', a3', a4', a5'⟩, ⟨c0', c1', c2', c3', c4', c5'⟩⟩ := kept12 ⟨⟨a0, a1, a2, a3, a4, a5⟩, ⟨c0, c1, c2, c3, c4, c5⟩⟩ b10))
    have b810 : Below w8.heap.size w8 w10 := (below_drewN (Below.refl _ w8) 1).trans ((b9.mono (by simp)).trans (b10.mono (by have := b9.size; simpa using this)))
    have K10 : Hid (BY w.heap.size w5.heap.size #[.int .i64 S.index, rv, tv, .int .i64 S.lost, sv, lv] #[.int .i64 S.index, .slice (some ⟨gr, 0, none⟩) S.rows.length S.rows.length, .slice (some ⟨gt, 0, none⟩) S.tombs.length S.tombs.length, .int .i64 S.lost, .slice (some ⟨gs, 0, none⟩) S.sess.length S.sess.length, .slice (some ⟨gl, 0, none⟩) S.lasts.length S.lasts.length] w10) := K8.out.below b810
    have B10 := B8.trans (b810.mono B8.size)
    have s10 := b810.size
    have HW10 : Hid (SSO w3.heap.size w4.heap.size w10 vw hl.length FW (at_ hl)) := HW8.out.ext (ext_below b810)
    have HG10 : Hid (SSO w6.heap.size w7.heap.size w10 vg hl.length FG (at_ hl)) := HG8.out.ext (ext_below b810)
    have HS10 : Hid (Shp w4.heap.size w5.heap.size w10 gr gt gs gl S.rows.length S.tombs.length S.sess.length S.lasts.length) := HS8.out.ext (ext_below b810)
    have HX10 : Hid (WB (w5.heap.size + 1) w6.heap.size w10 (.slice x6a p.length x6c)) := HX8.out.grown (ext_below b810)
    have HR110 : Hid (RV w10 (.slice x6a p.length x6c) p) := HR18.out.ext (ext_below b810)
    clear b810 K8 HW8 HG8 HS8 HX8 HR18 HV8 o9 b9 b10 S5 HSS5 X5 q0 q1 q2 q3 q4 q5 t0 t1 t2 t3 t4 t5
    clear a0 a1 a2 a3 a4 a5 c0 c1 c2 c3 c4 c5
    go_wp2_with fail
    refine (toV _ p w10 (HU.out.ext (ext_below B10)) hpn).mono ?_
    rintro e w11 ⟨v11, rfl, o11, b11⟩
    go_wp2_with fail
    refine (eqV_yes _ _ p w11 (HR110.out.ext (ext_below b11)) (o11.rv HRP.out) (by omega)).mono ?_
    rintro e w12 ⟨rfl, q12, rfl⟩
    have b13 : Below w10.heap.size w10 (w11.drewN q12) := below_drewN b11 q12
    generalize w11.drewN q12 = w13 at b13 ⊢
    have K13 : Hid (BY w.heap.size w5.heap.size #[.int .i64 S.index, rv, tv, .int .i64 S.lost, sv, lv] #[.int .i64 S.index, .slice (some ⟨gr, 0, none⟩) S.rows.length S.rows.length, .slice (some ⟨gt, 0, none⟩) S.tombs.length S.tombs.length, .int .i64 S.lost, .slice (some ⟨gs, 0, none⟩) S.sess.length S.sess.length, .slice (some ⟨gl, 0, none⟩) S.lasts.length S.lasts.length] w13) := K10.out.below b13
    have B13 := B10.trans (b13.mono B10.size)
    have s13 := b13.size
    have HW13 : Hid (SSO w3.heap.size w4.heap.size w13 vw hl.length FW (at_ hl)) := HW10.out.ext (ext_below b13)
    have HG13 : Hid (SSO w6.heap.size w7.heap.size w13 vg hl.length FG (at_ hl)) := HG10.out.ext (ext_below b13)
    have HS13 : Hid (Shp w4.heap.size w5.heap.size w13 gr gt gs gl S.rows.length S.tombs.length S.sess.length S.lasts.length) := HS10.out.ext (ext_below b13)
    have HX13 : Hid (WB (w5.heap.size + 1) w6.heap.size w13 (.slice x6a p.length x6c)) := HX10.out.grown (ext_below b13)
    clear b13 b11 o11 K10 HW10 HG10 HS10 HX10 HR110
    obtain ⟨t0, _⟩ := at_block K13.out.x 0 _ rfl
    obtain ⟨t1, _⟩ := at_block K13.out.x 1 _ rfl
    obtain ⟨t2, _⟩ := at_block K13.out.x 2 _ rfl
    obtain ⟨t3, _⟩ := at_block K13.out.x 3 _ rfl
    obtain ⟨t4, _⟩ := at_block K13.out.x 4 _ rfl
    obtain ⟨t5, _⟩ := at_block K13.out.x 5 _ rfl
    go_wp2_with fail
    refine (markStM w4.heap.size w5.heap.size gr gt gs gl _ _ _ _ _ _ 1 w13 HS13.out (by omega) (by omega) (by omega)).mono ?_
    rintro e w14 ⟨k14, hk0, hk1, rfl, m14⟩
    have K14 : Hid (BY w.heap.size w5.heap.size #[.int .i64 S.index, rv, tv, .int .i64 S.lost, sv, lv] #[.int .i64 S.index, .slice (some ⟨gr, 0, none⟩) S.rows.length S.rows.length, .slice (some ⟨gt, 0, none⟩) S.tombs.length S.tombs.length, .int .i64 S.lost, .slice (some ⟨gs, 0, none⟩) S.sess.length S.sess.length, .slice (some ⟨gl, 0, none⟩) S.lasts.length S.lasts.length] w14) := K13.out.mid m14 (by omega) (by omega)
    have B14 : Below w.heap.size w w14 := m14.below B13 B13.size (by omega)
    have HW14 : Hid (SSO w3.heap.size w4.heap.size w14 vw hl.length FW (at_ hl)) := HW13.out.mid m14 (by omega)
    have HG14 : Hid (SSO w6.heap.size w7.heap.size w14 vg hl.length FG (at_ hl)) := HG13.out.mid m14 (by omega)
    have HX14 : Hid (WB (w5.heap.size + 1) w6.heap.size w14 (.slice x6a p.length x6c)) := HX13.out.mid m14 (by omega)
    have s14 := m14.size
    clear m14 K13 HW13 HG13 HS13 HX13 t0 t1 t2 t3 t4 t5
    go_wp2_with fail
    refine (markW (w5.heap.size + 1) w6.heap.size none _ k14 w14 HX14.out hk0 (by omega)).mono ?_
    rintro e w15 ⟨n15, hn15, rfl, m15⟩
    have K15 : Hid (BY w.heap.size w5.heap.size #[.int .i64 S.index, rv, tv, .int .i64 S.lost, sv, lv] #[.int .i64 S.index, .slice (some ⟨gr, 0, none⟩) S.rows.length S.rows.length, .slice (some ⟨gt, 0, none⟩) S.tombs.length S.tombs.length, .int .i64 S.lost, .slice (some ⟨gs, 0, none⟩) S.sess.length S.sess.length, .slice (some ⟨gl, 0, none⟩) S.lasts.length S.lasts.length] w15) := K14.out.mid m15.mid (by omega) (by omega)
    have B15 : Below w.heap.size w w15 := m15.mid.below B14 B14.size (by omega)
    have HW15 : Hid (SSO w3.heap.size w4.heap.size w15 vw hl.length FW (at_ hl)) := HW14.out.mid m15.mid (by omega)
    have HG15 : Hid (SSO w6.heap.size w7.heap.size w15 vg hl.length FG (at_ hl)) := HG14.out.mid m15.mid (by omega)
    have s15 := m15.size
    obtain ⟨kk, hkk⟩ : ∃ kk : Int, kk = k14 + n15 := ⟨_, rfl⟩
    have dkk : decide (kk < 0) = false := decide_eq_false (by omega)
    rw [← hkk]
    clear m15 K14 HW14 HG14 HX14 hkk hk0 hk1 hn15
    go_wp2_with fail
    refine (eqSSO HG15.out HW15.out HKB.out).mono ?_
    rintro e w16 ⟨rfl, q16, rfl⟩
    have b16 : Below w15.heap.size w15 (w15.drewN q16) := below_drewN (Below.refl _ _) q16
    generalize w15.drewN q16 = w16 at b16 ⊢
    have K16 : Hid (BY w.heap.size w5.heap.size #[.int .i64 S.index, rv, tv, .int .i64 S.lost, sv, lv] #[.int .i64 S.index, .slice (some ⟨gr, 0, none⟩) S.rows.length S.rows.length, .slice (some ⟨gt, 0, none⟩) S.tombs.length S.tombs.length, .int .i64 S.lost, .slice (some ⟨gs, 0, none⟩) S.sess.length S.sess.length, .slice (some ⟨gl, 0, none⟩) S.lasts.length S.lasts.length] w16) := K15.out.below b16
    have B16 := B15.trans (b16.mono B15.size)
    have s16 := b16.size
    have HW16 : Hid (SSO w3.heap.size w4.heap.size w16 vw hl.length FW (at_ hl)) := HW15.out.ext (ext_below b16)
    have HG16 : Hid (SSO w6.heap.size w7.heap.size w16 vg hl.length FG (at_ hl)) := HG15.out.ext (ext_below b16)
    clear b16 K15 HW15 HG15
    go_wp2_with fail
    refine (markSSV w6.heap.size w7.heap.size vg hl.length FG (at_ hl) 1 w16 HG16.out HKB.out.ah (by omega) (by omega)).mono ?_
    rintro e w17 ⟨rfl, og17, m17⟩
    have K17 : Hid (BY w.heap.size w5.heap.size #[.int .i64 S.index, rv, tv, .int .i64 S.lost, sv, lv] #[.int .i64 S.index, .slice (some ⟨gr, 0, none⟩) S.rows.length S.rows.length, .slice (some ⟨gt, 0, none⟩) S.tombs.length S.tombs.length, .int .i64 S.lost, .slice (some ⟨gs, 0, none⟩) S.sess.length S.sess.length, .slice (some ⟨gl, 0, none⟩) S.lasts.length S.lasts.length] w17) := K16.out.mid m17 (by omega) (by omega)
    have B17 : Below w.heap.size w w17 := m17.below B16 B16.size (by omega)
    have HW17 : Hid (SSO w3.heap.size w4.heap.size w17 vw hl.length FW (at_ hl)) := HW16.out.mid m17 (by omega)
    have HM17 : Hid (SSO w6.heap.size w7.heap.size w17 vg hl.length FG (fun i => marks (1 + ahead (at_ hl) i) (at_ hl i).length)) := og17
    have s17 := m17.size
    obtain ⟨aa, haa⟩ : ∃ aa, ahead (at_ hl) hl.length = aa := ⟨_, rfl⟩
    have HAA : Hid (ahead (at_ hl) hl.length = aa) := haa
    rw [haa]
    have dm : decide (1 + (aa : Int) < 0) = false := decide_eq_false (by omega)
    clear K16 HW16 HG16 m17 og17 haa
    go_wp2_with fail
    refine (heldSSV vg hl.length FG (at_ hl) 1 w17 HM17.out.r (fun i hi => (HM17.out.tx i hi).rv (marks_rng _ _)) HKB.out.ah (by omega) (by omega)).mono ?_
    rintro e w18 ⟨rfl, rfl⟩
    rw [HAA.out]
    obtain ⟨q0, _⟩ := at_block K17.out.a 0 _ rfl
    obtain ⟨q1, _⟩ := at_block K17.out.a 1 _ rfl
    obtain ⟨q2, _⟩ := at_block K17.out.a 2 _ rfl
    obtain ⟨q3, _⟩ := at_block K17.out.a 3 _ rfl
    obtain ⟨q4, _⟩ := at_block K17.out.a 4 _ rfl
    obtain ⟨q5, _⟩ := at_block K17.out.a 5 _ rfl
    go_wp2_with fail
    refine (toSt _ S w18 (h0.out.ext (ext_below B17)) HL.out).mono ?_
    rintro e w19 ⟨gr9, gt9, gs9, gl9, rfl, o19, b19⟩
    have B19 := B17.trans (b19.mono B17.size)
    have HV19 : Hid (VState w19 (stV gr9 gt9 gs9 gl9 S) S) := o19.v HL.out HR.out
    have HW19 : Hid (SSO w3.heap.size w4.heap.size w19 vw hl.length FW (at_ hl)) := HW17.out.ext (ext_below b19)
    have HM19 : Hid (SSO w6.heap.size w7.heap.size w19 vg hl.length FG (fun i => marks (1 + ahead (at_ hl) i) (at_ hl i).length)) := HM17.out.ext (ext_below b19)
    clear b19 o19 K17 HW17 HM17 q0 q1 q2 q3 q4 q5
    go_wp2_with fail
    refine (toV _ p w19 (HU.out.ext (ext_below B19)) hpn).mono ?_
    rintro e w20 ⟨v20, rfl, o20, b20⟩
    have B20 := B19.trans (b20.mono B19.size)
    have HV20 : Hid (VState w20 (stV gr9 gt9 gs9 gl9 S) S) := HV19.out.ext (ext_below b20)
    have HR20 : Hid (RV w20 v20 p) := o20.rv HRP.out
    have HW20 : Hid (SSO w3.heap.size w4.heap.size w20 vw hl.length FW (at_ hl)) := HW19.out.ext (ext_below b20)
    have HM20 : Hid (SSO w6.heap.size w7.heap.size w20 vg hl.length FG (fun i => marks (1 + ahead (at_ hl) i) (at_ hl i).length)) := HM19.out.ext (ext_below b20)
    clear b20 o20 HV19 HW19 HM19
    go_wp2_with fail
    refine (iKeysV _ _ S p w20 HV20.out HR20.out (by omega)).mono ?_
    rintro e w21 ⟨vh, FH, rfl, ow21, b21⟩
    rw [HHL.out] at ow21
    have B21 := B20.trans (b21.mono B20.size)
    have HH21 : Hid (SSO w20.heap.size w21.heap.size w21 vh hl.length FH (at_ hl)) := ow21.o
    have HW21 : Hid (SSO w3.heap.size w4.heap.size w21 vw hl.length FW (at_ hl)) := HW20.out.ext (ext_below b21)
    have HM21 : Hid (SSO w6.heap.size w7.heap.size w21 vg hl.length FG (fun i => marks (1 + ahead (at_ hl) i) (at_ hl i).length)) := HM20.out.ext (ext_below b21)
    clear b21 ow21 HW20 HM20 HV20 HR20
    go_wp2_with fail
    refine (eqSSO HH21.out HW21.out HKB.out).mono ?_
    rintro e w22 ⟨rfl, q22, rfl⟩
    have B22 : Below w.heap.size w (w21.drewN q22) := below_drewN B21 q22
    have HM22 : Hid (SSO w6.heap.size w7.heap.size (w21.drewN q22) vg hl.length FG (fun i => marks (1 + ahead (at_ hl) i) (at_ hl i).length)) := HM21.out.ext (ext_drewN _ _)
    generalize w21.drewN q22 = w22 at B22 HM22 ⊢
    clear HH21 HW21 HM21
    go_wp2_with fail
    refine (heldSSV vg hl.length FG (at_ hl) 1 w22 HM22.out.r (fun i hi => (HM22.out.tx i hi).rv (marks_rng _ _)) HKB.out.ah (by omega) (by omega)).mono ?_
    rintro e w23 ⟨rfl, rfl⟩
    rw [HAA.out]
    go_wp2
    go_ret
    exact ⟨rfl, B22⟩

end Go.Proofs.Ytplgnohncdfgcak
