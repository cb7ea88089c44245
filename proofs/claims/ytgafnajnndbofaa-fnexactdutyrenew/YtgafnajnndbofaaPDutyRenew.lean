
/- At every duty and number the program's DutyRenew answers as the specification's, in memory of its own, its argument as it was, without a condition. -/
import Derived.Test.YtgafnajnndbofaaDy5
import Derived.Test.YtgafnajnndbofaaDy9
import Derived.Deep.RegionHeld3
import Derived.Test.YtgafnajnndbofaaInf
import Derived.Test.YtgafnajnndbofaaVal0
import Derived.ProofKit
import Derived.OpenShut
import Derived.Lib.SmallJoins
import Derived.Test.YtgafnajnndbofaaSt0
import Derived.Deep.Slices
import Derived.Test.YtgafnajnndbofaaWh0
import Derived.Test.YtgafnajnndbofaaDy0
import Derived.Test.YtgafnajnndbofaaRows
import Derived.ChangeOld
import Derived.Carry
namespace Go.Proofs.Ytgafnajnndbofaa
open Go.RowKit

/-- What is carried through the walk of a law on duties: the argument's box, the specification's answer (of the world Ws), the program's argument and its answer. -/
structure LDu (w Ws W : World) (D R : DDuty) (av sv xv gv : Value) (s x g base : Nat) (G : List DTim) : Prop where
  low : Below w.heap.size w W
  sB : Below Ws.heap.size Ws W
  sV : VTims Ws sv R.wh.tms
  a : W.heap[w.heap.size]? = some (.cells #[.int .i64 D.ttl, .int .i64 D.wh.now, av] 26 (0, 0))
  s : W.heap[s]? = some (.cells #[.int .i64 R.ttl, .int .i64 R.wh.now, sv] 33 (0, 0))
  x : W.heap[x]? = some (.cells #[.int .i64 D.ttl, .int .i64 D.wh.now, xv] 33 (0, 0))
  g : W.heap[g]? = some (.cells #[.int .i64 R.ttl, .int .i64 R.wh.now, gv] 33 (0, 0))
  gO : OwT W base gv G
  bs : Ws.heap.size ≤ base
  ws : w.heap.size ≤ Ws.heap.size
variable {w Ws W W' : World} {D R : DDuty} {av sv xv gv : Value} {s x g base : Nat} {G G' : List DTim}
theorem LDu.grow (h : LDu w Ws W D R av sv xv gv s x g base G) (b : Below W.heap.size W W') : LDu w Ws W' D R av sv xv gv s x g base G :=
  ⟨h.low.trans (b.mono h.low.size), h.sB.trans (b.mono h.sB.size), h.sV, below_blk b (Array.getElem?_eq_some_iff.1 h.a).1 h.a, below_blk b (Array.getElem?_eq_some_iff.1 h.s).1 h.s, below_blk b (Array.getElem?_eq_some_iff.1 h.x).1 h.x, below_blk b (Array.getElem?_eq_some_iff.1 h.g).1 h.g, h.gO.kept (ext_below b) (by cases hv : gv.ownBlock <;> simp), h.bs, h.ws⟩
/-- A row of timers, not older than the specification's answer, has turned: the program's answer, or another. -/
theorem LDu.turn {row : Value} {rb : Nat} {T : List DTim} (h : LDu w Ws W D R av sv xv gv s x g base G) (o : OwT W rb row T) (hb : Ws.heap.size ≤ rb) (hg : W.grownBy W' row.ownBlock) (hG : OwT W' base gv G') : LDu w Ws W' D R av sv xv gv s x g base G' := by
  have kp : ∀ (b : Nat) (cs : Array Value) (t : TypeId), W.heap[b]? = some (.cells cs t (0, 0)) → t ≠ 46 → W'.heap[b]? = some (.cells cs t (0, 0)) := fun b cs t hbb ht => (hg.block b (Array.getElem?_eq_some_iff.1 hbb).1 (ne_row o hbb ht)).trans hbb
  have hr : ∀ k, row.ownBlock = some k → rb ≤ k := fun k hk => (World.ownsRow.lt o k hk).1
  exact ⟨h.low.grown hg h.low.size (fun k hk => Nat.le_trans (Nat.le_trans h.ws hb) (hr k hk)), h.sB.grown hg h.sB.size (fun k hk => Nat.le_trans hb (hr k hk)), h.sV, kp _ _ _ h.a (by decide), kp _ _ _ h.s (by decide), kp _ _ _ h.x (by decide), kp _ _ _ h.g (by decide), hG, h.bs, h.ws⟩
theorem LDu.sW (h : LDu w Ws W D R av sv xv gv s x g base G) : VDuty W (.agg #[.int .i64 R.ttl, .int .i64 R.wh.now, sv]) R := ⟨sv, rfl, h.sV.ext (ext_below h.sB)⟩

theorem OwT.nil0 (w : World) (b : Nat) : OwT w b (.slice none 0 0) [] := World.ownsRow_nil _ _ _ _
theorem keptDu {w w' : World} {g g' : Nat} {a0 a1 a2 b0 b1 b2 : Value} (h : (w.cell? ⟨g, 0, none⟩ = some a0 ∧ w.cell? ⟨g, 1, none⟩ = some a1 ∧ w.cell? ⟨g, 2, none⟩ = some a2) ∧ (w.cell? ⟨g', 0, none⟩ = some b0 ∧ w.cell? ⟨g', 1, none⟩ = some b1 ∧ w.cell? ⟨g', 2, none⟩ = some b2)) (hb : Below w.heap.size w w') :
    (w'.cell? ⟨g, 0, none⟩ = some a0 ∧ w'.cell? ⟨g, 1, none⟩ = some a1 ∧ w'.cell? ⟨g, 2, none⟩ = some a2) ∧ (w'.cell? ⟨g', 0, none⟩ = some b0 ∧ w'.cell? ⟨g', 1, none⟩ = some b1 ∧ w'.cell? ⟨g', 2, none⟩ = some b2) := by
  have hg : g < w.heap.size := World.block_lt_of_cell? w _ h.1.1
  have hg' : g' < w.heap.size := World.block_lt_of_cell? w _ h.2.1
  obtain ⟨⟨h0, h1, h2⟩, h3, h4, h5⟩ := h
  exact ⟨⟨(hb.cell (p := ⟨g, 0, none⟩) hg).trans h0, (hb.cell (p := ⟨g, 1, none⟩) hg).trans h1, (hb.cell (p := ⟨g, 2, none⟩) hg).trans h2⟩, (hb.cell (p := ⟨g', 0, none⟩) hg').trans h3, (hb.cell (p := ⟨g', 1, none⟩) hg').trans h4, (hb.cell (p := ⟨g', 2, none⟩) hg').trans h5⟩

end Go.Proofs.Ytgafnajnndbofaa

namespace Go.Proofs.Ytgafnajnndbofaa
open Go.RowKit

theorem renewD_len (D : DDuty) (id : Int) (h : D.wh.tms.length ≤ 1048576) : (renewD (tB (DutyP D)) D id).1.wh.tms.length ≤ 1048576 := by
  cases hok : tB (DutyP D) with
  | false => unfold renewD; simp
  | true =>
    unfold renewD
    rw [if_pos rfl]
    split
    · exact h
    · have := setD_len D.wh id D.ttl h
      rw [tB_true (tB_iff.1 hok).2.1] at this
      exact this

set_option maxRecDepth 20000 in
set_option maxHeartbeats 8000000 in
theorem law_DutyRenew (v : Value) (D : DDuty) (id : Int) (w : World) (h : VDuty w v D) (_id1 : -9223372036854775808 ≤ id) (_id2 : id ≤ 9223372036854775807) :
    Calls Try.prog 5 #[v, .int .i64 id] w fun e w' => e = .returned (.bool true) ∧ Below w.heap.size w w' := by
  have hE : ∀ w : World, ∀ o, Ext w (w.alloc o) := fun w o => World.grownBy_alloc _ _ _
  have hB : ∀ w : World, ∀ o, Below w.heap.size w (w.alloc o) := fun w o => (Below.refl _ w).alloc (Nat.le_refl _) _
  have h0 : Hid (VDuty w v D) := h
  obtain ⟨⟨R, rb⟩, hR⟩ : ∃ R, R = renewD (tB (DutyP D)) D id := ⟨_, rfl⟩
  have HR : Hid ((R, rb) = renewD (tB (DutyP D)) D id) := hR
  have HRL : Hid (D.wh.tms.length ≤ 1048576 → R.wh.tms.length ≤ 1048576) := fun hl => by have := renewD_len D id hl; rw [← hR] at this; exact this
  clear hR
  obtain ⟨tv, rfl, ht⟩ := h
  obtain ⟨ta, tc', rfl⟩ := ht.shape
  obtain ⟨n, hn⟩ : ∃ n, n = D.wh.tms.length := ⟨_, rfl⟩
  have HN : Hid (n = D.wh.tms.length) := hn
  rw [← hn] at h0 ⊢
  clear hn ht
  go_enter Try.func5, Try.ntmps5
  go_wp2_with fail
  refine (szD _ D 1048576 _ (h0.out.ext (hE _ _)) (by omega) (by omega)).mono ?_
  rintro e w1 ⟨r, rfl, hrr, b1⟩
  rw [← HN.out] at hrr
  have B1 := (hB w _).trans (b1.mono (by simp))
  have P1 := below_blk b1 (by simp) (heap_alloc_new w _)
  rcases hrr with ⟨h1, rfl⟩ | ⟨h1, h2⟩
  · go_wp2_with fail
    go_ret
    exact ⟨rfl, B1⟩
  have HL : Hid (D.wh.tms.length ≤ 1048575 ∨ D.wh.tms.length = 1048576) := by have := HN.out; show _ ∨ _; omega
  have HLE : Hid (D.wh.tms.length ≤ 1048576) := by have := HL.out; show _ ≤ _; omega
  have hl : n ≤ 1048576 := by omega
  have hr0 : 0 ≤ r := by omega
  clear h1 h2 b1
  obtain ⟨p0, _⟩ := at_block P1 0 _ rfl
  obtain ⟨p1, _⟩ := at_block P1 1 _ rfl
  obtain ⟨p2, _⟩ := at_block P1 2 _ rfl
  have hw1 : w.heap.size < w1.heap.size := (Array.getElem?_eq_some_iff.1 P1).1
  go_wp2_with fail
  -- the specification
  refine (toD _ D w1 (h0.out.ext (ext_below B1)) HLE.out).mono ?_
  rintro e w2 ⟨g2, rfl, g2l, o2, b2⟩
  rw [← HN.out]
  have B2 := B1.trans (b2.mono B1.size)
  have V2 : VDuty w2 (.agg #[.int .i64 D.ttl, .int .i64 D.wh.now, .slice (some ⟨g2, 0, none⟩) n n]) D := ⟨_, rfl, by rw [HN.out]; exact o2.v HLE.out⟩
  have P2 := below_blk b2 hw1 P1
  clear o2
  go_wp2_with fail
  refine (sDutyRenewV _ D id w2 V2 HLE.out).mono ?_
  rintro e w3 ⟨sv, rfl, O3, b3⟩
  have V3 := O3.v
  rw [← HR.out] at V3 ⊢
  clear O3
  have HV3 : Hid (VTims w3 sv R.wh.tms) := V3
  obtain ⟨sa, sc, hsv⟩ : ∃ a c, sv = .slice a R.wh.tms.length c := V3.shape
  obtain ⟨m, hm⟩ : ∃ m, m = R.wh.tms.length := ⟨_, rfl⟩
  have HMR : Hid (m = R.wh.tms.length) := hm
  rw [← hm] at hsv
  subst hsv
  have HML : Hid (m ≤ 1048576) := by rw [hm]; exact HRL.out HLE.out
  clear V3 hm
  have B3 : Below w.heap.size w w3 := B2.trans (b3.mono B2.size)
  have P3 := below_blk b3 (by have := b2.size; omega) P2
  obtain ⟨q0, _⟩ := at_block P3 0 _ rfl
  obtain ⟨q1, _⟩ := at_block P3 1 _ rfl
  obtain ⟨q2, _⟩ := at_block P3 2 _ rfl
  have hw3 : w.heap.size < w3.heap.size := (Array.getElem?_eq_some_iff.1 P3).1
  clear p0 p1 p2 V2 b2 b3 P1 P2 B1 B2 g2l hw1
  -- the program's argument
  go_wp2_with fail
  generalize hU : w3.alloc _ = U3
  have BU : Below w3.heap.size w3 U3 := by rw [← hU]; exact hB _ _
  have SU : U3.heap[w3.heap.size]? = some (.cells #[.int .i64 R.ttl, .int .i64 R.wh.now, .slice sa m sc] 33 (0, 0)) := by rw [← hU]; exact heap_alloc_new w3 _
  clear hU
  have hu3 : w3.heap.size < U3.heap.size := (Array.getElem?_eq_some_iff.1 SU).1
  refine (toD _ D U3 (h0.out.ext (ext_below (B3.trans (BU.mono B3.size)))) HLE.out).mono ?_
  rintro e w4 ⟨g4, rfl, g4l, o4, b4⟩
  rw [← HN.out]
  have HO4 : Hid (OwT w4 U3.heap.size (.slice (some ⟨g4, 0, none⟩) n n) D.wh.tms) := by rw [HN.out]; exact o4.own g4l HLE.out
  have BW4 : Below w3.heap.size w3 w4 := BU.trans (b4.mono BU.size)
  have P4 := below_blk BW4 hw3 P3
  have S4 := below_blk b4 hu3 SU
  have hw4 : w3.heap.size < w4.heap.size := (Array.getElem?_eq_some_iff.1 S4).1
  clear o4 b4 BU SU q0 q1 q2 g4l
  go_wp2_with fail
  generalize hU : w4.alloc _ = U4
  have BU : Below w4.heap.size w4 U4 := by rw [← hU]; exact hB _ _
  have XU : U4.heap[w4.heap.size]? = some (.cells #[.int .i64 D.ttl, .int .i64 D.wh.now, .slice (some ⟨g4, 0, none⟩) n n] 33 (0, 0)) := by rw [← hU]; exact heap_alloc_new w4 _
  have OX : OwT U4 U3.heap.size (.slice (some ⟨g4, 0, none⟩) n n) D.wh.tms := HO4.out.kept (ext_below BU) (by simp [Value.ownBlock])
  clear hU
  -- the program
  refine (iDutyRenewV _ D id U4 ⟨_, rfl, OX.v⟩ HLE.out).mono ?_
  rintro e w5 ⟨gv, rfl, O5, b5⟩
  rw [← HR.out] at O5 ⊢
  obtain ⟨ga, gc, hgv⟩ : ∃ a c, gv = .slice a R.wh.tms.length c := O5.v.shape
  rw [← HMR.out] at hgv
  subst hgv
  have OX5 : OwT w5 U3.heap.size (.slice (some ⟨g4, 0, none⟩) n n) D.wh.tms := OX.kept (ext_below b5) (by simp [Value.ownBlock])
  have HGX : Hid (g4 < U4.heap.size) := (World.ownsRow.lt OX g4 rfl).2
  have X5 := below_blk b5 (Array.getElem?_eq_some_iff.1 XU).1 XU
  have B5 : Below w3.heap.size w3 w5 := (BW4.trans (BU.mono BW4.size)).trans (b5.mono (Nat.le_trans BW4.size BU.size))
  have P5 := below_blk B5 hw3 P3
  have S5 := below_blk (BU.trans (b5.mono BU.size)) hw4 S4
  have HUU : Hid (w3.heap.size ≤ U3.heap.size ∧ U3.heap.size ≤ U4.heap.size ∧ w3.heap.size ≤ U4.heap.size) := ⟨Nat.le_of_lt hu3, Nat.le_of_lt (Nat.lt_of_le_of_lt (World.ownsRow.lt OX g4 rfl).1 HGX.out), Nat.le_trans BW4.size BU.size⟩
  have HM : Hid (∀ W, W = w5.alloc (.cells #[.int .i64 R.ttl, .int .i64 R.wh.now, .slice ga m gc] 33 (0, 0)) → LDu w w3 W D R (.slice ta n tc') (.slice sa m sc) (.slice (some ⟨g4, 0, none⟩) n n) (.slice ga m gc) w3.heap.size w4.heap.size w5.heap.size U4.heap.size R.wh.tms ∧ OwT W U3.heap.size (.slice (some ⟨g4, 0, none⟩) n n) D.wh.tms) := fun W hW => by
    subst hW
    have bb := hB w5 (.cells #[.int .i64 R.ttl, .int .i64 R.wh.now, .slice ga m gc] 33 (0, 0))
    refine ⟨⟨B3.trans ((B5.trans (bb.mono B5.size)).mono B3.size), B5.trans (bb.mono B5.size), HV3.out, below_blk bb (Array.getElem?_eq_some_iff.1 P5).1 P5, below_blk bb (Array.getElem?_eq_some_iff.1 S5).1 S5, below_blk bb (Array.getElem?_eq_some_iff.1 X5).1 X5, heap_alloc_new w5 _, ?_, HUU.out.2.2, B3.size⟩, OX5.alloc _⟩
    exact O5.alloc _
  clear O5 OX OX5 X5 S5 P5 B5 b5 BU XU S4 P4 BW4 P3 B3 hw3 hu3 hw4 HO4 HV3
  go_upto_region 8 with fail
  generalize hU : w5.alloc _ = W0
  obtain ⟨L0, X0⟩ := HM.out W0 hU.symm
  have HL0 : Hid (LDu w w3 W0 D R (.slice ta n tc') (.slice sa m sc) (.slice (some ⟨g4, 0, none⟩) n n) (.slice ga m gc) w3.heap.size w4.heap.size w5.heap.size U4.heap.size R.wh.tms) := L0
  have HX0 : Hid (OwT W0 U3.heap.size (.slice (some ⟨g4, 0, none⟩) n n) D.wh.tms) := X0
  clear hU X0 HM
  generalize w4.heap.size = bx at *
  generalize w5.heap.size = bg at *
  obtain ⟨s0, _⟩ := at_block L0.s 0 _ rfl
  obtain ⟨s1, _⟩ := at_block L0.s 1 _ rfl
  obtain ⟨s2, _⟩ := at_block L0.s 2 _ rfl
  obtain ⟨y0, _⟩ := at_block L0.g 0 _ rfl
  obtain ⟨y1, _⟩ := at_block L0.g 1 _ rfl
  obtain ⟨y2, _⟩ := at_block L0.g 2 _ rfl
  clear L0
  -- its answer held against the specification's
  go_wp2_with fail
  refine (eqD _ _ R _ ⟨_, rfl, HL0.out.gO.v⟩ HL0.out.sW (by rw [← HMR.out]; exact HML.out)).mono ?_
  rintro e W1 ⟨rfl, b1⟩
  have HL1 := hideP (HL0.out.grow b1)
  have HX1 : Hid (OwT W1 U3.heap.size (.slice (some ⟨g4, 0, none⟩) n n) D.wh.tms) := HX0.out.kept (ext_below b1) (by simp [Value.ownBlock])
  have a0 := (at_block HL1.out.a 0 _ rfl).1
  have a1 := (at_block HL1.out.a 1 _ rfl).1
  have a2 := (at_block HL1.out.a 2 _ rfl).1
  have x0 := (at_block HL1.out.x 0 _ rfl).1
  have x1 := (at_block HL1.out.x 1 _ rfl).1
  have x2 := (at_block HL1.out.x 2 _ rfl).1
  have HS1 : Hid ((W1.cell? ⟨bx, 0, none⟩ = some (.int .i64 D.ttl) ∧ W1.cell? ⟨bx, 1, none⟩ = some (.int .i64 D.wh.now) ∧ W1.cell? ⟨bx, 2, none⟩ = some (.slice (some ⟨g4, 0, none⟩) n n)) ∧ (W1.cell? ⟨w.heap.size, 0, none⟩ = some (.int .i64 D.ttl) ∧ W1.cell? ⟨w.heap.size, 1, none⟩ = some (.int .i64 D.wh.now) ∧ W1.cell? ⟨w.heap.size, 2, none⟩ = some (.slice ta n tc'))) := ⟨⟨x0, x1, x2⟩, ⟨a0, a1, a2⟩⟩
  clear s0 s1 s2 y0 y1 y2 b1 HL0 HX0
  -- its argument is as it was
  go_upto_region 10 with fail
  go_region_held3 (fun w' => w'.cell? ⟨bx, 0, none⟩ = some (.int .i64 D.ttl) ∧ w'.cell? ⟨bx, 1, none⟩ = some (.int .i64 D.wh.now) ∧ w'.cell? ⟨bx, 2, none⟩ = some (.slice (some ⟨g4, 0, none⟩) n n) ∧ w'.cell? ⟨w.heap.size, 0, none⟩ = some (.int .i64 D.ttl) ∧ w'.cell? ⟨w.heap.size, 1, none⟩ = some (.int .i64 D.wh.now) ∧ w'.cell? ⟨w.heap.size, 2, none⟩ = some (.slice ta n tc')) (simp [*])
    (first | (go_at_call 8; refine (toD _ D _ ?_ HLE.out).mono ?_; exact (h0.out.ext (ext_below HL1.out.low)).ext (ext_drewN W1 1); rintro e w6 ⟨g6, rfl, g6l, o6, b6⟩; rw [← HN.out]; have V6 : VDuty w6 (.agg #[.int .i64 D.ttl, .int .i64 D.wh.now, .slice (some ⟨g6, 0, none⟩) n n]) D := (⟨_, rfl, by rw [HN.out]; exact o6.v HLE.out⟩); obtain ⟨⟨c0, c1, c2⟩, ⟨d0, d1, d2⟩⟩ := keptDu (w := W1.drew) HS1.out b6) | (go_at_call 10; refine (eqD _ _ D _ ?_ ?_ HLE.out).mono ?_; exact (⟨_, rfl, (HX1.out.v.ext (ext_drewN W1 1)).ext (ext_below b6)⟩ : VDuty _ _ D); exact V6; rintro e w7 ⟨rfl, b7⟩; obtain ⟨⟨c0', c1', c2'⟩, ⟨d0', d1', d2'⟩⟩ := keptDu ⟨⟨c0, c1, c2⟩, ⟨d0, d1, d2⟩⟩ b7))
  have bA : Below W1.heap.size W1 w7 := ((below_drewN (Below.refl _ W1) 1).trans (b6.mono (Nat.le_refl _))).trans (b7.mono b6.size)
  have HL2 := hideP (HL1.out.grow bA)
  have HX2 : Hid (OwT w7 U3.heap.size (.slice (some ⟨g4, 0, none⟩) n n) D.wh.tms) := HX1.out.kept (ext_below bA) (by simp [Value.ownBlock])
  clear c0 c1 c2 d0 d1 d2 c0' c1' c2' d0' d1' d2' b6 b7 bA V6 o6 g6l x0 x1 x2 a0 a1 a2 HL1 HX1 HS1
  have x0 := (at_block HL2.out.x 0 _ rfl).1
  have x1 := (at_block HL2.out.x 1 _ rfl).1
  have x2 := (at_block HL2.out.x 2 _ rfl).1
  -- marks in its argument
  go_wp2_with fail
  refine (markDu U3.heap.size D.ttl D.wh.now _ D.wh.tms 1 _ HX2.out HLE.out (by omega) (by omega)).mono ?_
  rintro e W3 ⟨rfl, o3, g3⟩
  rw [← HN.out]
  have HGO : Hid (OwT W3 U4.heap.size (.slice ga m gc) R.wh.tms) := HL2.out.gO.kept g3 (by
    cases hv : (Value.slice ga m gc).ownBlock with
    | none => exact .inl rfl
    | some k =>
      right
      have := (World.ownsRow.lt HL2.out.gO k hv).1
      have := HGX.out
      simp only [Value.ownBlock, ne_eq, Option.some.injEq]
      omega)
  have HL3 := hideP (HL2.out.turn HX2.out HUU.out.1 g3 HGO.out)
  clear o3 g3 x0 x1 x2 HL2 HX2
  have s0 := (at_block HL3.out.s 0 _ rfl).1
  have s1 := (at_block HL3.out.s 1 _ rfl).1
  have s2 := (at_block HL3.out.s 2 _ rfl).1
  have y0 := (at_block HL3.out.g 0 _ rfl).1
  have y1 := (at_block HL3.out.g 1 _ rfl).1
  have y2 := (at_block HL3.out.g 2 _ rfl).1
  have hk0 : ¬ ((1 : Int) + 2 * (n : Int) < 0) := by omega
  have hk1 : decide ((1 : Int) + 2 * (n : Int) < 0) = false := by simp; omega
  go_wp2_with fail
  refine (eqD _ _ R _ ⟨_, rfl, HL3.out.gO.v⟩ HL3.out.sW (by rw [← HMR.out]; exact HML.out)).mono ?_
  rintro e W4 ⟨rfl, b4⟩
  have HL4 := hideP (HL3.out.grow b4)
  clear s0 s1 s2 y0 y1 y2 b4 HL3 HGO
  have y0 := (at_block HL4.out.g 0 _ rfl).1
  have y1 := (at_block HL4.out.g 1 _ rfl).1
  have y2 := (at_block HL4.out.g 2 _ rfl).1
  -- marks in its answer
  go_wp2_with fail
  refine (markDu U4.heap.size R.ttl R.wh.now _ R.wh.tms 1 _ HL4.out.gO (by rw [← HMR.out]; exact HML.out) (by omega) (by omega)).mono ?_
  rintro e W5 ⟨rfl, o5, g5⟩
  rw [← HMR.out] at o5 ⊢
  have HL5 := hideP (HL4.out.turn HL4.out.gO HL4.out.bs g5 o5)
  clear o5 g5 y0 y1 y2 HL4
  have y0 := (at_block HL5.out.g 0 _ rfl).1
  have y1 := (at_block HL5.out.g 1 _ rfl).1
  have y2 := (at_block HL5.out.g 2 _ rfl).1
  go_wp2_with fail
  refine (heldDu U4.heap.size R.ttl R.wh.now _ m 1 _ HL5.out.gO (by have := HML.out; omega) (by omega) (by omega)).mono ?_
  rintro e W6 ⟨rfl, b6⟩
  have HL6 := hideP (HL5.out.grow b6)
  clear y0 y1 y2 b6 HL5
  have a0 := (at_block HL6.out.a 0 _ rfl).1
  have a1 := (at_block HL6.out.a 1 _ rfl).1
  have a2 := (at_block HL6.out.a 2 _ rfl).1
  have hm0 : ¬ ((1 : Int) + 2 * (m : Int) < 0) := by omega
  -- another call
  go_wp2_with fail
  refine (toD _ D W6 (h0.out.ext (ext_below HL6.out.low)) HLE.out).mono ?_
  rintro e W7 ⟨g7, rfl, g7l, o7, b7⟩
  rw [← HN.out]
  have HL7 := hideP (HL6.out.grow b7)
  have V7 : VDuty W7 (.agg #[.int .i64 D.ttl, .int .i64 D.wh.now, .slice (some ⟨g7, 0, none⟩) n n]) D := ⟨_, rfl, by rw [HN.out]; exact o7.v HLE.out⟩
  clear o7 b7 a0 a1 a2 HL6 g7l
  go_wp2_with fail
  refine (iDutyRenewV _ D id W7 V7 HLE.out).mono ?_
  rintro e W8 ⟨hv8, rfl, O8, b8⟩
  rw [← HR.out] at O8 ⊢
  have HL8 := hideP (HL7.out.grow b8)
  obtain ⟨ha, hc, hhv⟩ : ∃ a c, hv8 = .slice a R.wh.tms.length c := O8.v.shape
  rw [← HMR.out] at hhv
  subst hhv
  have HH : Hid (∀ W, W = W8.alloc (.cells #[.int .i64 R.ttl, .int .i64 R.wh.now, .slice ha m hc] 33 (0, 0)) → LDu w w3 W D R (.slice ta n tc') (.slice sa m sc) (.slice (some ⟨g4, 0, none⟩) n n) (.slice ga m gc) w3.heap.size bx bg U4.heap.size (mkT 1 m) ∧ W.heap[W8.heap.size]? = some (.cells #[.int .i64 R.ttl, .int .i64 R.wh.now, .slice ha m hc] 33 (0, 0)) ∧ VTims W (.slice ha m hc) R.wh.tms) := fun W hW => by
    subst hW
    exact ⟨HL8.out.grow (hB _ _), heap_alloc_new _ _, O8.v.ext (hE _ _)⟩
  clear b8 O8 V7 HL7
  go_upto_region 25 with fail
  generalize hU : W8.alloc _ = W9
  obtain ⟨L9, Q9, T9⟩ := HH.out W9 hU.symm
  have HL9 := hideP L9
  have HT9 : Hid (VTims W9 (.slice ha m hc) R.wh.tms) := T9
  clear hU HH L9 T9 HL8
  generalize W8.heap.size = bh at *
  obtain ⟨t0, _⟩ := at_block Q9 0 _ rfl
  obtain ⟨t1, _⟩ := at_block Q9 1 _ rfl
  obtain ⟨t2, _⟩ := at_block Q9 2 _ rfl
  have s0 := (at_block HL9.out.s 0 _ rfl).1
  have s1 := (at_block HL9.out.s 1 _ rfl).1
  have s2 := (at_block HL9.out.s 2 _ rfl).1
  go_wp2_with fail
  refine (eqD _ _ R _ ⟨_, rfl, HT9.out⟩ HL9.out.sW (by rw [← HMR.out]; exact HML.out)).mono ?_
  rintro e W10 ⟨rfl, b10⟩
  have HL10 := hideP (HL9.out.grow b10)
  clear b10 t0 t1 t2 s0 s1 s2 Q9 HT9 HL9
  have y0 := (at_block HL10.out.g 0 _ rfl).1
  have y1 := (at_block HL10.out.g 1 _ rfl).1
  have y2 := (at_block HL10.out.g 2 _ rfl).1
  go_wp2_with fail
  refine (heldDu U4.heap.size R.ttl R.wh.now _ m 1 _ HL10.out.gO (by have := HML.out; omega) (by omega) (by omega)).mono ?_
  rintro e W11 ⟨rfl, b11⟩
  go_wp2_with fail
  go_ret
  exact ⟨rfl, (HL10.out.grow b11).low⟩

end Go.Proofs.Ytgafnajnndbofaa

namespace Go.Proofs.Ytgafnajnndbofaa
open Go.ChangeShapes Go.WideShapes Go.ChangeAt Go.RowKit Go.Joins

section
variable {H : Type} {enc : TypeId × Value → H} {W : World} {fuel : Nat} {v : Value} {y : DataW H × List MemPlace}

theorem int_of_trod (h : DataW.trod enc Try.prog W 0 (fun _ => true) true fuel 3 [v] = some y) : ∃ q : Int, v = .int .i64 q ∧ -9223372036854775808 ≤ q ∧ q ≤ 9223372036854775807 := by
  obtain ⟨q, e0, rfl, wa⟩ := DataW.trod_int Try.underlying3 h
  simp only [List.cons.injEq, and_true] at e0
  subst e0
  simp [Lit.wf, IntKind.min, IntKind.max, IntKind.signed, IntKind.bits] at wa
  exact ⟨q, rfl, by omega, by omega⟩
end

theorem array6 {cs : Array Value} (h : cs.size = 6) : ∃ a b c d e f, cs = #[a, b, c, d, e, f] := by
  obtain ⟨l⟩ := cs
  match l, h with
  | [a, b, c, d, e, f], _ => exact ⟨a, b, c, d, e, f, rfl⟩

end Go.Proofs.Ytgafnajnndbofaa

namespace Go.Proofs.Ytgafnajnndbofaa
open Go.ChangeShapes Go.WideShapes Go.ChangeAt Go.RowKit Go.Joins

theorem list_of {α : Type} {p : Nat → α → Prop} : ∀ n : Nat, (∀ i, i < n → ∃ x, p i x) → ∃ rs : List α, rs.length = n ∧ ∀ (i : Nat) (r : α), rs[i]? = some r → p i r
  | 0, _ => ⟨[], rfl, fun i r h => by simp at h⟩
  | n + 1, h => by
    obtain ⟨rs, hl, hr⟩ := list_of n (fun i hi => h i (by omega))
    obtain ⟨x, hx⟩ := h n (by omega)
    refine ⟨rs ++ [x], by simp [hl], fun i r hi => ?_⟩
    by_cases e : i < n
    · rw [List.getElem?_append_left (by omega)] at hi
      exact hr i r hi
    · rw [List.getElem?_append_right (by omega)] at hi
      have e2 : i - rs.length = 0 := by
        have := (List.getElem?_eq_some_iff.1 hi).1
        simp at this
        omega
      rw [e2] at hi
      simp at hi
      obtain rfl : i = n := by omega
      rw [← hi]
      exact hx

section
variable {H : Type} {enc : TypeId × Value → H} {W : World} {fuel : Nat} {v : Value} {y : DataW H × List MemPlace}

set_option maxRecDepth 100000 in
/-- A slice of whatever structs: its cells, element by element. -/
theorem sl_of_trod {t e : TypeId} {k : Nat} (ht : Try.prog.underlying t = some (.slice e)) (hc : Try.prog.cellsOf e = k) (hk : 0 < k)
    (h : DataW.trod enc Try.prog W 0 (fun _ => true) true fuel t [v] = some y) :
    ∃ (n : Nat) (C : Nat → Nat → Value), SL W k v n C ∧ ∃ (m : Nat) (D : Nat → DataW H × List MemPlace), ∀ i, i < n → DataW.trod enc Try.prog W 0 (fun _ => true) true m e ((List.range k).map (C i)) = some (D i) := by
  rcases Go.Deep.open_slice ht h with ⟨hcs, _⟩ | ⟨a, len, cap, m, n, D, Pl, hcs, _, hl, hm, hmm, _, hx⟩
  · simp only [List.cons.injEq, and_true] at hcs
    subst hcs
    exact ⟨0, fun _ _ => .int .i64 0, ⟨none, 0, rfl, Nat.le_refl _, Nat.zero_le _, fun h => absurd h (by omega)⟩, 0, fun _ => y, fun i hi => absurd hi (by omega)⟩
  · simp only [List.cons.injEq, and_true] at hcs
    subst hcs
    rw [hc] at hx
    have hmm' : m = cap := by rw [hmm]; simp
    subst hmm'
    have hex : ∀ i, i < len → ∃ cs' : List Value, W.cells? 0 (a.add (i * k)) k = some cs' ∧ DataW.trod enc Try.prog W 0 (fun _ => true) true n e cs' = some (D i, Pl i) := fun i hi => hx i (by omega)
    obtain ⟨cs, hcsl, hcs⟩ := list_of len hex
    have hget : ∀ i, i < len → ∃ c, cs[i]? = some c := fun i hi => ⟨_, List.getElem?_eq_getElem (by omega)⟩
    refine ⟨len, fun i j => ((cs.getD i []).getD j (.int .i64 0)), ⟨some a, m, rfl, hl, hm, fun hpos => ?_⟩, n, fun i => (D i, Pl i), fun i hi => ?_⟩
    · obtain ⟨c, hcc⟩ := hget 0 hpos
      obtain ⟨h1, _⟩ := hcs 0 c hcc
      obtain ⟨_, hln, hce⟩ := World.cells?_some h1
      obtain ⟨b, off, spot⟩ := a
      have hc0 := hce 0 hk
      have hsome : W.cell? ((Addr.add ⟨b, off, spot⟩ (0 * k)).add 0) = some (c[0]'(by omega)) := by rw [hc0, List.getElem?_eq_getElem (by omega)]
      have hspot : spot = none := by simpa [Addr.add] using World.cell?_spot hsome
      subst hspot
      have hbl := World.block_lt_of_cell? W _ hsome
      rw [Addr.add_lit, Addr.add_lit] at hbl
      refine ⟨b, off, rfl, hbl, fun i hi j hj => ?_⟩
      obtain ⟨c', hcc'⟩ := hget i hi
      obtain ⟨h1', _⟩ := hcs i c' hcc'
      obtain ⟨_, hln', hce'⟩ := World.cells?_some h1'
      have := hce' j hj
      rw [Addr.add_lit, Addr.add_lit] at this
      rw [this, List.getElem?_eq_getElem (by omega)]
      simp [List.getD, hcc', List.getElem?_eq_getElem (show j < c'.length by omega)]
    · obtain ⟨c', hcc'⟩ := hget i hi
      obtain ⟨h1', h2'⟩ := hcs i c' hcc'
      obtain ⟨_, hln', _⟩ := World.cells?_some h1'
      have hce : (List.range k).map (fun j => ((cs.getD i []).getD j (.int .i64 0))) = c' := by
        apply List.ext_getElem?
        intro j
        by_cases hj : j < k
        · simp [List.getD, hcc', hj, List.getElem?_eq_getElem (show j < c'.length by omega)]
        · simp [hj, hln']
      rw [hce]
      exact h2'

theorem bool_of_trod (h : DataW.trod enc Try.prog W 0 (fun _ => true) true fuel 4 [v] = some y) : ∃ b, v = .bool b := by
  obtain ⟨b, e0, _⟩ := DataW.trod_bool Try.underlying4 h
  simp only [List.cons.injEq, and_true] at e0
  exact ⟨b, e0⟩
end

end Go.Proofs.Ytgafnajnndbofaa

namespace Go.Proofs.Ytgafnajnndbofaa
open Go.ChangeShapes Go.WideShapes Go.ChangeAt Go.RowKit Go.Joins

section
variable {H : Type} {enc : TypeId × Value → H} {W : World} {fuel : Nat} {v : Value} {y : DataW H × List MemPlace}

set_option maxRecDepth 100000 in
theorem tims_of_trod (h : DataW.trod enc Try.prog W 0 (fun _ => true) true fuel 22 [v] = some y) : ∃ rs, VTims W v rs := by
  obtain ⟨n, C, hS, m, D, hD⟩ := sl_of_trod (k := 2) Try.underlying22 (by kernel_rfl) (by omega) h
  obtain ⟨rs, hl, hr⟩ := list_of (p := fun i (r : DTim) => C i 0 = .int .i64 r.id ∧ C i 1 = .int .i64 r.due) n (fun i hi => by
    have hf := hD i hi
    obtain ⟨xs, n', _, _, _, hxl, hx⟩ := DataW.trod_struct Try.underlying74 hf
    match xs, hxl with
    | [y0, y1], _ =>
      have h0 : DataW.trod enc Try.prog W 0 (fun _ => true) true n' 3 [C i 0] = some y0 := hx 0 _ rfl
      have h1 : DataW.trod enc Try.prog W 0 (fun _ => true) true n' 3 [C i 1] = some y1 := hx 1 _ rfl
      obtain ⟨q, e1, _, _⟩ := int_of_trod h0
      obtain ⟨b, e2, _, _⟩ := int_of_trod h1
      exact ⟨⟨q, b⟩, e1, e2⟩)
  exact ⟨rs, C, by rw [hl]; exact hS, hr⟩
end

theorem array2 {cs : Array Value} (h : cs.size = 2) : ∃ a b, cs = #[a, b] := by
  obtain ⟨l⟩ := cs
  match l, h with
  | [a, b], _ => exact ⟨a, b, rfl⟩

set_option maxRecDepth 100000 in
theorem open_Wheel {H : Type} {enc : TypeId × Value → H} {W : World} {r : Reach} {b0 : Nat} {v : Value} {d : DataW H} {p : List MemPlace}
    (hv : Value.okWide Try.prog W r b0 24 v) (h : DataW.Trod enc Try.prog W 0 (fun _ => true) true 24 v d p) : ∃ D, VWheel W v D := by
  obtain ⟨cs, rfl, hsz⟩ := okWide_struct Try.underlying24 hv
  have h6 : Try.prog.cellsOf 24 = 2 := by kernel_rfl
  obtain ⟨c0, c1, rfl⟩ := array2 (hsz.trans h6)
  obtain ⟨fuel, hf⟩ := h
  obtain ⟨xs, n, _, _, _, hxl, hx⟩ := DataW.trod_struct Try.underlying24 hf
  match xs, hxl with
  | [y0, y1], _ =>
    have h0 : DataW.trod enc Try.prog W 0 (fun _ => true) true n 3 [c0] = some y0 := hx 0 _ rfl
    have h1 : DataW.trod enc Try.prog W 0 (fun _ => true) true n 22 [c1] = some y1 := hx 1 _ rfl
    obtain ⟨q0, rfl, a1, a2⟩ := int_of_trod h0
    obtain ⟨ts, v1⟩ := tims_of_trod h1
    exact ⟨⟨q0, ts⟩, c1, rfl, v1⟩

end Go.Proofs.Ytgafnajnndbofaa

namespace Go.Proofs.Ytgafnajnndbofaa
open Go.ChangeShapes Go.WideShapes Go.ChangeAt Go.RowKit Go.Joins

theorem array3 {cs : Array Value} (h : cs.size = 3) : ∃ a b c, cs = #[a, b, c] := by
  obtain ⟨l⟩ := cs
  match l, h with
  | [a, b, c], _ => exact ⟨a, b, c, rfl⟩

set_option maxRecDepth 100000 in
theorem open_Duty {H : Type} {enc : TypeId × Value → H} {W : World} {r : Reach} {b0 : Nat} {v : Value} {d : DataW H} {p : List MemPlace}
    (hv : Value.okWide Try.prog W r b0 26 v) (h : DataW.Trod enc Try.prog W 0 (fun _ => true) true 26 v d p) : ∃ D, VDuty W v D := by
  obtain ⟨cs, rfl, hsz⟩ := okWide_struct Try.underlying26 hv
  have h6 : Try.prog.cellsOf 26 = 3 := by kernel_rfl
  obtain ⟨c0, c1, c2, rfl⟩ := array3 (hsz.trans h6)
  obtain ⟨fuel, hf⟩ := h
  obtain ⟨xs, n, _, _, _, hxl, hx⟩ := DataW.trod_struct Try.underlying26 hf
  match xs, hxl with
  | [y0, y1], _ =>
    have h0 : DataW.trod enc Try.prog W 0 (fun _ => true) true n 3 [c0] = some y0 := hx 0 _ rfl
    have h1 : DataW.trod enc Try.prog W 0 (fun _ => true) true n 24 [c1, c2] = some y1 := hx 1 _ rfl
    obtain ⟨zs, m, _, _, _, hzl, hz⟩ := DataW.trod_struct Try.underlying24 h1
    match zs, hzl with
    | [z0, z1], _ =>
      have g0 : DataW.trod enc Try.prog W 0 (fun _ => true) true m 3 [c1] = some z0 := hz 0 _ rfl
      have g1 : DataW.trod enc Try.prog W 0 (fun _ => true) true m 22 [c2] = some z1 := hz 1 _ rfl
      obtain ⟨t, rfl, _, _⟩ := int_of_trod h0
      obtain ⟨q0, rfl, _, _⟩ := int_of_trod g0
      obtain ⟨ts, v1⟩ := tims_of_trod g1
      exact ⟨⟨t, ⟨q0, ts⟩⟩, c2, rfl, v1⟩

end Go.Proofs.Ytgafnajnndbofaa

namespace Go.Proofs.Ytgafnajnndbofaa
open Go.ChangeShapes Go.WideShapes Go.ChangeAt Go.RowKit

theorem own : ownKnob Try.prog.godebug = none := by kernel_rfl
theorem laidOut : laidOutB Try.prog = true := by kernel_rfl

theorem int_bd {q : Int} (h : (Lit.int .i64 q).wf = true) : -9223372036854775808 ≤ q ∧ q ≤ 9223372036854775807 := by
  simp [Lit.wf, IntKind.min, IntKind.max, IntKind.signed, IntKind.bits] at h
  omega

set_option maxRecDepth 100000 in
theorem lifted (os : Os) (started : os.Started) (H : Type) (enc : TypeId × Value → H) :
    ReturnsInHanded {} Try.checked os 5 .any (Rows.fnExactDutyRenewSpec.pre6 enc Try.prog Try.f5 Rows.fnExactDutyRenewRow.domain false) (Rows.fnExactDutyRenewSpec.post enc Try.prog Try.f5 false true false false) := by
  refine returnsInHanded_of_change (C := Try.checked) own started (by kernel_rfl) Try.func5
    (ChangeSpec.witness6 (enc := enc) (C := Try.checked) false ⟨#[], #[.agg #[.int .i64 0, .int .i64 0, .slice none 0 0], .int .i64 0], []⟩ 8 (by kernel_rfl) (by kernel_rfl) (by kernel_rfl) (by kernel_rfl)) ?_
  intro W base args ds gs before hval0 hW hcnd _
  have hval : ∀ (j : Nat) t v, Try.f5.params[j]? = some t → args[j]? = some v → Value.okWide Try.prog W .any base t v := hval0
  have hW' := hW
  obtain ⟨p, q, hA0, hV, rfl, hfz, hnd⟩ := hW
  have hA : DataW.TrodAll enc Try.prog W 0 (fun _ => true) true Try.f5.params.toList args.toList ds p := hA0
  rw [Try.params5] at hA hval
  obtain ⟨v0, vs0, d0, ds0, p0, q0, hargs, rfl, rfl, h0, r0⟩ := trodAll_cons hA
  obtain ⟨v1, vs1, d1, ds1, p1, q1, rfl, rfl, rfl, h1, r1⟩ := trodAll_cons r0
  obtain ⟨rfl, rfl, rfl⟩ := trodAll_nil r1
  obtain rfl : args = #[v0, v1] := by cases args; simp_all
  obtain ⟨rfl, rfl⟩ := trodVars_none hV
  have k0 := h0
  have lt0 : ∀ x ∈ p0, x.block < W.heap.size := by obtain ⟨m, hm⟩ := k0; exact DataW.trod_lt m _ _ _ hm
  obtain ⟨D0, w0⟩ := open_Duty (hval 0 26 v0 rfl rfl) h0
  obtain ⟨a1, rfl, rfl, rfl, w1⟩ := open_int Try.underlying3 (hval 1 3 v1 rfl rfl) h1
  clear hA0 hval0
  refine (law_DutyRenew v0 D0 a1 W w0 (int_bd w1).1 (int_bd w1).2).mono fun e W' ⟨he, bel⟩ => ?_
  subst he
  exact ⟨_, rfl, _, _, _, [], _, [], hW', trodAll_mk1 (shut_bool Try.underlying4 _), (trodAll_cons_mk (Below.trod laidOut (by kernel_rfl) (of_decide_eq_true (by kernel_rfl)) k0 bel lt0) (trodAll_cons_mk (shut_int Try.underlying3 w1) trodAll_mk0)), rfl, bel.frame _, fun h => by cases h⟩

theorem over : Rows.fnExactDutyRenewRow.holds Try.pinned (OpenSpec.ofChange Rows.fnExactDutyRenewSpec) :=
  OpenClaim.holds_of_wide 5 Try.f5 rfl rfl rfl rfl rfl rfl rfl ⟨rfl, rfl, rfl, rfl, rfl⟩ rfl rfl rfl rfl rfl (by kernel_rfl) Try.func5 (by kernel_rfl)
    (of_decide_eq_true (by kernel_rfl)) (by unfold Func.isWrapper; first | (rw [if_pos (by decide +kernel)]; kernel_rfl) | (rw [if_neg (by decide +kernel)]; exact ⟨rfl, rfl⟩))
    (fun os started H enc _ => lifted os started H enc)

theorem proved : Rows.FnExactDutyRenewSaid := over
#print axioms proved
end Go.Proofs.Ytgafnajnndbofaa

