
/- At every duty and state the program's DutySync answers as the specification's, in memory of its own, its arguments as they were, without a condition. -/
import Derived.Test.YtnklnhnjmikooaaGreatDy5
import Derived.Test.YtnklnhnjmikooaaGreatTo0
import Derived.Test.YtnklnhnjmikooaaGreatSz0
import Derived.Deep.RegionHeld3
import Derived.Test.YtnklnhnjmikooaaGreatSz
import Derived.Test.YtnklnhnjmikooaaGreatSFind
import Derived.Test.YtnklnhnjmikooaaGreatDy2
import Derived.Lib.Hide
import Derived.Test.YtnklnhnjmikooaaGreatInf
import Derived.Laws.OwnMore
import Derived.OwnWalk
import Derived.Test.YtnklnhnjmikooaaGreatRows
import Derived.Maps.AppendAt
import Derived.Test.YtnklnhnjmikooaaGreatHpJ
import Derived.Test.YtnklnhnjmikooaaGreatHpW
import Derived.Test.YtnklnhnjmikooaaGreatWhN0
import Derived.Test.YtnklnhnjmikooaaGreatDy7
import Derived.Test.YtnklnhnjmikooaaGreatHpL
import Derived.Test.YtnklnhnjmikooaaGreatElG
import Derived.Test.YtnklnhnjmikooaaGreatIState
import Derived.Test.YtnklnhnjmikooaaGreatSSt
import Derived.Test.YtnklnhnjmikooaaGreatDyT
import Derived.Deep.LoopGhost
import Derived.Test.YtnklnhnjmikooaaGreatVal0
import Derived.ProofKit
import Derived.OpenShut
import Derived.Lib.SmallJoins
import Derived.Test.YtnklnhnjmikooaaGreatSt0
import Derived.Deep.Slices
import Derived.Deep.CutRange
import Derived.Test.YtnklnhnjmikooaaGreatWh0
import Derived.Test.YtnklnhnjmikooaaGreatDy0
import Derived.ChangeOld
import Derived.Carry
namespace Go.Proofs.YtnklnhnjmikooaaGreat
open Go.RowKit

/-- What is carried through the walk of a law on duties: the argument's box, the specification's answer (of the world Ws), the program's argument and its answer. -/
structure LDu (w Ws W : World) (D R : DDuty) (av sv xv gv : Value) (s x g base : Nat) (G : List DTim) : Prop where
  low : Below w.heap.size w W
  sB : Below Ws.heap.size Ws W
  sV : VTims Ws sv R.wh.tms
  a : W.heap[w.heap.size]? = some (.cells #[.int .i64 D.ttl, .int .i64 D.wh.now, av] 26 (0, 0))
  s : W.heap[s]? = some (.cells #[.int .i64 R.ttl, .int .i64 R.wh.now, sv] 39 (0, 0))
  x : W.heap[x]? = some (.cells #[.int .i64 D.ttl, .int .i64 D.wh.now, xv] 39 (0, 0))
  g : W.heap[g]? = some (.cells #[.int .i64 R.ttl, .int .i64 R.wh.now, gv] 39 (0, 0))
  gO : OwT W base gv G
  bs : Ws.heap.size ≤ base
  ws : w.heap.size ≤ Ws.heap.size
variable {w Ws W W' : World} {D R : DDuty} {av sv xv gv : Value} {s x g base : Nat} {G G' : List DTim}
theorem LDu.grow (h : LDu w Ws W D R av sv xv gv s x g base G) (b : Below W.heap.size W W') : LDu w Ws W' D R av sv xv gv s x g base G :=
  ⟨h.low.trans (b.mono h.low.size), h.sB.trans (b.mono h.sB.size), h.sV, below_blk b (Array.getElem?_eq_some_iff.1 h.a).1 h.a, below_blk b (Array.getElem?_eq_some_iff.1 h.s).1 h.s, below_blk b (Array.getElem?_eq_some_iff.1 h.x).1 h.x, below_blk b (Array.getElem?_eq_some_iff.1 h.g).1 h.g, h.gO.kept (ext_below b) (by cases hv : gv.ownBlock <;> simp), h.bs, h.ws⟩
/-- A row of timers, not older than the specification's answer, has turned: the program's answer, or another. -/
theorem LDu.turn {row : Value} {rb : Nat} {T : List DTim} (h : LDu w Ws W D R av sv xv gv s x g base G) (o : OwT W rb row T) (hb : Ws.heap.size ≤ rb) (hg : W.grownBy W' row.ownBlock) (hG : OwT W' base gv G') : LDu w Ws W' D R av sv xv gv s x g base G' := by
  have kp : ∀ (b : Nat) (cs : Array Value) (t : TypeId), W.heap[b]? = some (.cells cs t (0, 0)) → t ≠ 114 → W'.heap[b]? = some (.cells cs t (0, 0)) := fun b cs t hbb ht => (hg.block b (Array.getElem?_eq_some_iff.1 hbb).1 (ne_row o hbb ht)).trans hbb
  have hr : ∀ k, row.ownBlock = some k → rb ≤ k := fun k hk => (World.ownsRow.lt o k hk).1
  exact ⟨h.low.grown hg h.low.size (fun k hk => Nat.le_trans (Nat.le_trans h.ws hb) (hr k hk)), h.sB.grown hg h.sB.size (fun k hk => Nat.le_trans hb (hr k hk)), h.sV, kp _ _ _ h.a (by decide), kp _ _ _ h.s (by decide), kp _ _ _ h.x (by decide), kp _ _ _ h.g (by decide), hG, h.bs, h.ws⟩
theorem LDu.sW (h : LDu w Ws W D R av sv xv gv s x g base G) : VDuty W (.agg #[.int .i64 R.ttl, .int .i64 R.wh.now, sv]) R := ⟨sv, rfl, h.sV.ext (ext_below h.sB)⟩

theorem OwT.nil0 (w : World) (b : Nat) : OwT w b (.slice none 0 0) [] := World.ownsRow_nil _ _ _ _
theorem keptDu {w w' : World} {g g' : Nat} {a0 a1 a2 b0 b1 b2 : Value} (h : (w.cell? ⟨g, 0, none⟩ = some a0 ∧ w.cell? ⟨g, 1, none⟩ = some a1 ∧ w.cell? ⟨g, 2, none⟩ = some a2) ∧ (w.cell? ⟨g', 0, none⟩ = some b0 ∧ w.cell? ⟨g', 1, none⟩ = some b1 ∧ w.cell? ⟨g', 2, none⟩ = some b2)) (hb : Below w.heap.size w w') :
    (w'.cell? ⟨g, 0, none⟩ = some a0 ∧ w'.cell? ⟨g, 1, none⟩ = some a1 ∧ w'.cell? ⟨g, 2, none⟩ = some a2) ∧ (w'.cell? ⟨g', 0, none⟩ = some b0 ∧ w'.cell? ⟨g', 1, none⟩ = some b1 ∧ w'.cell? ⟨g', 2, none⟩ = some b2) := by
  have hg : g < w.heap.size := World.block_lt_of_cell? w _ h.1.1
  have hg' : g' < w.heap.size := World.block_lt_of_cell? w _ h.2.1
  obtain ⟨⟨h0, h1, h2⟩, h3, h4, h5⟩ := h
  exact ⟨⟨(hb.cell (p := ⟨g, 0, none⟩) hg).trans h0, (hb.cell (p := ⟨g, 1, none⟩) hg).trans h1, (hb.cell (p := ⟨g, 2, none⟩) hg).trans h2⟩, (hb.cell (p := ⟨g', 0, none⟩) hg').trans h3, (hb.cell (p := ⟨g', 1, none⟩) hg').trans h4, (hb.cell (p := ⟨g', 2, none⟩) hg').trans h5⟩

end Go.Proofs.YtnklnhnjmikooaaGreat

namespace Go.Proofs.YtnklnhnjmikooaaGreat
open Go.RowKit

set_option maxHeartbeats 1000000 in
theorem toEl_S (s : DSess) (w : World) :
    Calls Tryz.prog 75 #[.agg #[.int .i64 s.id, .bool s.del]] w fun e w' => e = .returned (.agg #[.int .i64 s.id, .bool s.del]) ∧ Below w.heap.size w w' := by
  go_enter Tryz.func75, Tryz.ntmps75
  go_wp2
  refine bodyPost_ret (v := .agg #[.int .i64 s.id, .bool s.del]) (by simp [results, Tryz.results75, go_sem]) rfl ?_
  exact ⟨rfl, (((Below.refl _ w).alloc (Nat.le_refl _) _).alloc (by simp) _).alloc (by simp; omega) _⟩

theorem info_S : (Tryz.prog.info? 121).map (fun i => (i.zero, i.size, i.bytes)) = some (some (.agg #[.int .i64 0, .bool false]), 2, 16) := by kernel_rfl

set_option maxHeartbeats 2000000 in
theorem toS_S (v : Value) (ss : List DSess) (w : World) (h : VSess w v ss) (hn : ss.length ≤ 1048576) :
    Calls Tryz.prog 33 #[v] w fun e w' => ∃ F, e = .returned (.slice (some ⟨w.heap.size, 0, none⟩) ss.length ss.length) ∧ Blk w' w.heap.size 121 2 ss.length ss.length F ∧ (∀ i s, ss[i]? = some s → F i 0 = .int .i64 s.id ∧ F i 1 = .bool s.del) ∧ Below w.heap.size w w' := by
  obtain ⟨C, ⟨a, cap, rfl, h1, h2, h3⟩, hC⟩ := h
  have HC : Hid (∀ i r, ss[i]? = some r → C i 0 = .int .i64 r.id ∧ C i 1 = .bool r.del) := hC
  clear hC
  obtain ⟨n, hnn⟩ : ∃ n, n = ss.length := ⟨_, rfl⟩
  rw [← hnn] at h1 h3 hn ⊢
  have HN : Hid (n = ss.length) := hnn
  clear hnn
  have H3 : Hid (0 < n → ∃ b o, a = some ⟨b, o, none⟩ ∧ b < w.heap.size ∧ ∀ i, i < n → ∀ j, j < 2 → w.cell? ⟨b, o + i * 2 + j, none⟩ = some (C i j)) := h3
  clear h3
  obtain ⟨i0, hi, hz0, hz1, hz2⟩ := info_parts info_S
  have hml : n ≤ maxLen := by unfold maxLen; omega
  have hml2 : (n : Int) ≤ 1048576 := by omega
  go_enter Tryz.func33, Tryz.ntmps33
  go_wp2_with (at_make; refine wpList_make_full _ rfl _ _ 45 rfl w.heap.size 121 i0 (.agg #[.int .i64 0, .bool false]) 2 Tryz.underlying45 hi hz0 hz1 _ _ _ _ n rfl rfl rfl rfl ?b1 ?b2 ?b3 ?_)
  case b1 => rw [hz2]; omega
  case b2 => exact hml
  case b3 => exact Nat.le_refl _
  intro w1 hown hgr
  have hb1 : Below w.heap.size w w1 := (Below.refl _ _).grown hgr (Nat.le_refl _) (fun k hk => by cases hk)
  have hbk := blk_made (F := fun _ _ => .bool true) hown
  clear hown hgr
  go_wp2
  go_loopw [4] (fun i wr => ∃ k : Nat, k ≤ n ∧ i = .int .i64 k ∧ Below w.heap.size w wr ∧ ∃ F, Blk wr w.heap.size 121 2 n k F ∧ Hid (∀ i s, i < k → ss[i]? = some s → F i 0 = .int .i64 s.id ∧ F i 1 = .bool s.del)) (fun i _ => n - (intOf i).toNat)
  case atStart => exact ⟨0, Nat.zero_le _, rfl, hb1, _, hbk, fun i s hi => absurd hi (by omega)⟩
  case round =>
    obtain ⟨k, hk, rfl, hb, F, hF, hall⟩ := hrel
    clear hbk hb1
    by_cases hlt : k < n
    · obtain ⟨b, o, rfl, hbl, hc⟩ := H3.out (by omega)
      obtain ⟨s, hs⟩ : ∃ s, ss[k]? = some s := ⟨_, List.getElem?_eq_getElem (by have := HN.out; omega)⟩
      obtain ⟨e0, e1⟩ := HC.out k s hs
      have c0 := World.grownBy.cell (ext_below hb) (hc k hlt 0 (by omega)) (by simp)
      have c1 := World.grownBy.cell (ext_below hb) (hc k hlt 1 (by omega)) (by simp)
      rw [e0, Nat.add_zero] at c0
      rw [e1] at c1
      have hlt' : (k : Int) < (n : Int) := by omega
      clear hc
      go_wp2_with fail
      refine (toEl_S s wr).mono ?_
      rintro e w2 ⟨rfl, b2⟩
      have hF2 := blk_kept hF (b2.block _ (blk_lt hF))
      have hgl := blk_lt hF
      have hb2 := hb.trans (b2.mono hb.size)
      obtain ⟨⟨u0, d0⟩, f0⟩ := blk_cell hF2 (k * 2) (by omega)
      obtain ⟨⟨u1, d1⟩, f1⟩ := blk_cell hF2 (k * 2 + 1) (by omega)
      have G := blk_next (blk_set (blk_set hF2 (k * 2) (by omega) (.int .i64 s.id)) (k * 2 + 1) (by omega) (.bool s.del)) (fun j => if j = 0 then .int .i64 s.id else .bool s.del) (fun j hj => by
        have hj : j = 0 ∨ j = 1 := by omega
        rcases hj with rfl | rfl <;> simp [*, go_sem])
      have HG : Hid (Blk ((w2.setCell ⟨w.heap.size, k * 2, none⟩ (.int .i64 s.id)).setCell ⟨w.heap.size, k * 2 + 1, none⟩ (.bool s.del)) w.heap.size 121 2 n (k + 1) (fun i j => if i = k then (if j = 0 then .int .i64 s.id else .bool s.del) else F i j)) := G
      have HBF : Hid (Below w.heap.size w ((w2.setCell ⟨w.heap.size, k * 2, none⟩ (.int .i64 s.id)).setCell ⟨w.heap.size, k * 2 + 1, none⟩ (.bool s.del))) := ((hb2.setCell (Nat.le_refl _) _).setCell (Nat.le_refl _) _)
      have HA : Hid (∀ i r, i < k + 1 → ss[i]? = some r → (fun i j => if i = k then (if j = 0 then .int .i64 s.id else .bool s.del) else F i j) i 0 = .int .i64 r.id ∧ (fun i j => if i = k then (if j = 0 then .int .i64 s.id else .bool s.del) else F i j) i 1 = .bool r.del) := fun i r hi hr => by
        by_cases e : i = k
        · subst e
          rw [hs] at hr
          cases hr
          simp only [if_pos]
          exact ⟨(by simp), (by simp)⟩
        · simp only [if_neg e]
          exact ⟨(hall.out i r (by omega) hr).1, (hall.out i r (by omega) hr).2⟩
      clear hb hF hall G hb2 hF2 b2
      go_wp2
      go_roundw
      case rel => exact ⟨k + 1, by omega, by go_num, HBF.out, _, HG.out, HA⟩
      case measure => simp [intOf]; omega
    · have hkn : k = n := by omega
      subst hkn
      go_wp2
      go_ret
      exact ⟨F, rfl, hF, fun i s hs => hall.out i s (by have := (List.getElem?_eq_some_iff.1 hs).1; have := HN.out; omega) hs, hb⟩

end Go.Proofs.YtnklnhnjmikooaaGreat

namespace Go.Proofs.YtnklnhnjmikooaaGreat
open Go.RowKit

set_option maxHeartbeats 1000000 in
theorem toReplyV (x y : Int) (w : World) :
    Calls Tryz.prog 100 #[.agg #[.int .i64 x, .int .i64 y]] w fun e w' => e = .returned (.agg #[.int .i64 x, .int .i64 y]) ∧ Below w.heap.size w w' := by
  go_enter Tryz.func100, Tryz.ntmps100
  go_wp2
  refine bodyPost_ret (v := .agg #[.int .i64 x, .int .i64 y]) (by simp [results, Tryz.results100, go_sem]) rfl ?_
  exact ⟨rfl, (((Below.refl _ w).alloc (Nat.le_refl _) _).alloc (by simp) _).alloc (by simp; omega) _⟩

set_option maxHeartbeats 1000000 in
theorem toEl_L (s : DLast) (w : World) :
    Calls Tryz.prog 76 #[.agg #[.int .i64 s.client, .int .i64 s.req, .int .i64 s.code, .int .i64 s.index]] w fun e w' => e = .returned (.agg #[.int .i64 s.client, .int .i64 s.req, .int .i64 s.code, .int .i64 s.index]) ∧ Below w.heap.size w w' := by
  go_enter Tryz.func76, Tryz.ntmps76
  go_wp2_with fail
  have B0 : Below w.heap.size w (((w.alloc (.cells #[.int .i64 s.client, .int .i64 s.req, .int .i64 s.code, .int .i64 s.index] 137 (0, 0))).alloc (.cells #[.int .i64 0, .int .i64 0, .int .i64 0, .int .i64 0] 125 (0, 0))).alloc (.cells #[.int .i64 s.client, .int .i64 s.req, .int .i64 0, .int .i64 0] 125 (0, 0))) := (((Below.refl _ w).alloc (Nat.le_refl _) _).alloc (by simp) _).alloc (by simp; omega) _
  refine (toReplyV s.code s.index _).mono ?_
  rintro e w1 ⟨rfl, b1⟩
  have R1 := below_blk b1 (by simp) (h3_1 w _ _ _)
  have T1 := below_blk b1 (by simp) (h3_2 w _ _ _)
  have hs1 : w.heap.size + 3 ≤ w1.heap.size := by have := b1.size; simp at this; omega
  have B1 := B0.trans (b1.mono (by simp; omega))
  obtain ⟨q0, g0⟩ := at_block T1 0 _ rfl
  obtain ⟨q1, g1⟩ := at_block T1 1 _ rfl
  obtain ⟨q2, g2⟩ := at_block T1 2 _ rfl
  obtain ⟨q3, g3⟩ := at_block T1 3 _ rfl
  obtain ⟨r0, z0⟩ := at_block R1 0 _ rfl
  obtain ⟨r1, z1⟩ := at_block R1 1 _ rfl
  obtain ⟨r2, z2⟩ := at_block R1 2 _ rfl
  obtain ⟨r3, z3⟩ := at_block R1 3 _ rfl
  clear b1 B0
  go_wp2
  refine bodyPost_ret (v := .agg #[.int .i64 s.client, .int .i64 s.req, .int .i64 s.code, .int .i64 s.index]) (by simp [results, Tryz.results76, go_sem, r0, r1, r2, r3]) rfl ?_
  exact ⟨rfl, (((((B1.setCell (by simp; omega) _).setCell (by simp; omega) _).setCell (by simp) _).setCell (by simp) _).setCell (by simp) _).setCell (by simp) _⟩

theorem info_L : (Tryz.prog.info? 125).map (fun i => (i.zero, i.size, i.bytes)) = some (some (.agg #[.int .i64 0, .int .i64 0, .int .i64 0, .int .i64 0]), 4, 32) := by kernel_rfl

set_option maxHeartbeats 2000000 in
theorem toS_L (v : Value) (ss : List DLast) (w : World) (h : VLasts w v ss) (hn : ss.length ≤ 1048576) :
    Calls Tryz.prog 34 #[v] w fun e w' => ∃ F, e = .returned (.slice (some ⟨w.heap.size, 0, none⟩) ss.length ss.length) ∧ Blk w' w.heap.size 125 4 ss.length ss.length F ∧ (∀ i s, ss[i]? = some s → F i 0 = .int .i64 s.client ∧ F i 1 = .int .i64 s.req ∧ F i 2 = .int .i64 s.code ∧ F i 3 = .int .i64 s.index) ∧ Below w.heap.size w w' := by
  obtain ⟨C, ⟨a, cap, rfl, h1, h2, h3⟩, hC⟩ := h
  have HC : Hid (∀ i r, ss[i]? = some r → C i 0 = .int .i64 r.client ∧ C i 1 = .int .i64 r.req ∧ C i 2 = .int .i64 r.code ∧ C i 3 = .int .i64 r.index) := hC
  clear hC
  obtain ⟨n, hnn⟩ : ∃ n, n = ss.length := ⟨_, rfl⟩
  rw [← hnn] at h1 h3 hn ⊢
  have HN : Hid (n = ss.length) := hnn
  clear hnn
  have H3 : Hid (0 < n → ∃ b o, a = some ⟨b, o, none⟩ ∧ b < w.heap.size ∧ ∀ i, i < n → ∀ j, j < 4 → w.cell? ⟨b, o + i * 4 + j, none⟩ = some (C i j)) := h3
  clear h3
  obtain ⟨i0, hi, hz0, hz1, hz2⟩ := info_parts info_L
  have hml : n ≤ maxLen := by unfold maxLen; omega
  have hml2 : (n : Int) ≤ 1048576 := by omega
  go_enter Tryz.func34, Tryz.ntmps34
  go_wp2_with (at_make; refine wpList_make_full _ rfl _ _ 46 rfl w.heap.size 125 i0 (.agg #[.int .i64 0, .int .i64 0, .int .i64 0, .int .i64 0]) 4 Tryz.underlying46 hi hz0 hz1 _ _ _ _ n rfl rfl rfl rfl ?b1 ?b2 ?b3 ?_)
  case b1 => rw [hz2]; omega
  case b2 => exact hml
  case b3 => exact Nat.le_refl _
  intro w1 hown hgr
  have hb1 : Below w.heap.size w w1 := (Below.refl _ _).grown hgr (Nat.le_refl _) (fun k hk => by cases hk)
  have hbk := blk_made (F := fun _ _ => .bool true) hown
  clear hown hgr
  go_wp2
  go_loopw [4] (fun i wr => ∃ k : Nat, k ≤ n ∧ i = .int .i64 k ∧ Below w.heap.size w wr ∧ ∃ F, Blk wr w.heap.size 125 4 n k F ∧ Hid (∀ i s, i < k → ss[i]? = some s → F i 0 = .int .i64 s.client ∧ F i 1 = .int .i64 s.req ∧ F i 2 = .int .i64 s.code ∧ F i 3 = .int .i64 s.index)) (fun i _ => n - (intOf i).toNat)
  case atStart => exact ⟨0, Nat.zero_le _, rfl, hb1, _, hbk, fun i s hi => absurd hi (by omega)⟩
  case round =>
    obtain ⟨k, hk, rfl, hb, F, hF, hall⟩ := hrel
    clear hbk hb1
    by_cases hlt : k < n
    · obtain ⟨b, o, rfl, hbl, hc⟩ := H3.out (by omega)
      obtain ⟨s, hs⟩ : ∃ s, ss[k]? = some s := ⟨_, List.getElem?_eq_getElem (by have := HN.out; omega)⟩
      obtain ⟨e0, e1, e2, e3⟩ := HC.out k s hs
      have c0 := World.grownBy.cell (ext_below hb) (hc k hlt 0 (by omega)) (by simp)
      have c1 := World.grownBy.cell (ext_below hb) (hc k hlt 1 (by omega)) (by simp)
      have c2 := World.grownBy.cell (ext_below hb) (hc k hlt 2 (by omega)) (by simp)
      have c3 := World.grownBy.cell (ext_below hb) (hc k hlt 3 (by omega)) (by simp)
      rw [e0, Nat.add_zero] at c0
      rw [e1] at c1
      rw [e2] at c2
      rw [e3] at c3
      have hlt' : (k : Int) < (n : Int) := by omega
      clear hc
      go_wp2_with fail
      refine (toEl_L s wr).mono ?_
      rintro e w2 ⟨rfl, b2⟩
      have hF2 := blk_kept hF (b2.block _ (blk_lt hF))
      have hgl := blk_lt hF
      have hb2 := hb.trans (b2.mono hb.size)
      obtain ⟨⟨u0, d0⟩, f0⟩ := blk_cell hF2 (k * 4) (by omega)
      obtain ⟨⟨u1, d1⟩, f1⟩ := blk_cell hF2 (k * 4 + 1) (by omega)
      obtain ⟨⟨u2, d2⟩, f2⟩ := blk_cell hF2 (k * 4 + 2) (by omega)
      obtain ⟨⟨u3, d3⟩, f3⟩ := blk_cell hF2 (k * 4 + 3) (by omega)
      have G := blk_next (blk_set (blk_set (blk_set (blk_set hF2 (k * 4) (by omega) (.int .i64 s.client)) (k * 4 + 1) (by omega) (.int .i64 s.req)) (k * 4 + 2) (by omega) (.int .i64 s.code)) (k * 4 + 3) (by omega) (.int .i64 s.index)) (fun j => if j = 0 then .int .i64 s.client else if j = 1 then .int .i64 s.req else if j = 2 then .int .i64 s.code else .int .i64 s.index) (fun j hj => by
        have hj : j = 0 ∨ j = 1 ∨ j = 2 ∨ j = 3 := by omega
        rcases hj with rfl | rfl | rfl | rfl <;> simp [*, go_sem])
      have HG : Hid (Blk ((((w2.setCell ⟨w.heap.size, k * 4, none⟩ (.int .i64 s.client)).setCell ⟨w.heap.size, k * 4 + 1, none⟩ (.int .i64 s.req)).setCell ⟨w.heap.size, k * 4 + 2, none⟩ (.int .i64 s.code)).setCell ⟨w.heap.size, k * 4 + 3, none⟩ (.int .i64 s.index)) w.heap.size 125 4 n (k + 1) (fun i j => if i = k then (if j = 0 then .int .i64 s.client else if j = 1 then .int .i64 s.req else if j = 2 then .int .i64 s.code else .int .i64 s.index) else F i j)) := G
      have HBF : Hid (Below w.heap.size w ((((w2.setCell ⟨w.heap.size, k * 4, none⟩ (.int .i64 s.client)).setCell ⟨w.heap.size, k * 4 + 1, none⟩ (.int .i64 s.req)).setCell ⟨w.heap.size, k * 4 + 2, none⟩ (.int .i64 s.code)).setCell ⟨w.heap.size, k * 4 + 3, none⟩ (.int .i64 s.index))) := ((((hb2.setCell (Nat.le_refl _) _).setCell (Nat.le_refl _) _).setCell (Nat.le_refl _) _).setCell (Nat.le_refl _) _)
      have HA : Hid (∀ i r, i < k + 1 → ss[i]? = some r → (fun i j => if i = k then (if j = 0 then .int .i64 s.client else if j = 1 then .int .i64 s.req else if j = 2 then .int .i64 s.code else .int .i64 s.index) else F i j) i 0 = .int .i64 r.client ∧ (fun i j => if i = k then (if j = 0 then .int .i64 s.client else if j = 1 then .int .i64 s.req else if j = 2 then .int .i64 s.code else .int .i64 s.index) else F i j) i 1 = .int .i64 r.req ∧ (fun i j => if i = k then (if j = 0 then .int .i64 s.client else if j = 1 then .int .i64 s.req else if j = 2 then .int .i64 s.code else .int .i64 s.index) else F i j) i 2 = .int .i64 r.code ∧ (fun i j => if i = k then (if j = 0 then .int .i64 s.client else if j = 1 then .int .i64 s.req else if j = 2 then .int .i64 s.code else .int .i64 s.index) else F i j) i 3 = .int .i64 r.index) := fun i r hi hr => by
        by_cases e : i = k
        · subst e
          rw [hs] at hr
          cases hr
          simp only [if_pos]
          exact ⟨(by simp), (by simp), (by simp), (by simp)⟩
        · simp only [if_neg e]
          exact ⟨(hall.out i r (by omega) hr).1, (hall.out i r (by omega) hr).2.1, (hall.out i r (by omega) hr).2.2.1, (hall.out i r (by omega) hr).2.2.2⟩
      clear hb hF hall G hb2 hF2 b2
      go_wp2
      go_roundw
      case rel => exact ⟨k + 1, by omega, by go_num, HBF.out, _, HG.out, HA⟩
      case measure => simp [intOf]; omega
    · have hkn : k = n := by omega
      subst hkn
      go_wp2
      go_ret
      exact ⟨F, rfl, hF, fun i s hs => hall.out i s (by have := (List.getElem?_eq_some_iff.1 hs).1; have := HN.out; omega) hs, hb⟩

end Go.Proofs.YtnklnhnjmikooaaGreat

namespace Go.Proofs.YtnklnhnjmikooaaGreat
open Go.RowKit

set_option maxHeartbeats 1000000 in
theorem toEl_R (kv vv : Value) (s : DRow) (w : World) (rk : RV w kv s.key) (rv : RV w vv s.val) (hk : s.key.length ≤ 1048576) (hv : s.val.length ≤ 1048576) :
    Calls Tryz.prog 73 #[.agg #[kv, vv, .int .i64 s.turned, .int .i64 s.holder]] w fun e w' => ∃ k' v', e = .returned (.agg #[k', v', .int .i64 s.turned, .int .i64 s.holder]) ∧ Ow w' w.heap.size k' s.key ∧ Ow w' w.heap.size v' s.val ∧ Below w.heap.size w w' := by
  have hE : ∀ w : World, ∀ o, Ext w (w.alloc o) := fun w o => World.grownBy_alloc _ _ _
  have hrk := rv_rng rk
  have hrv := rv_rng rv
  go_enter Tryz.func73, Tryz.ntmps73
  go_wp2_with fail
  refine (toV kv s.key _ (rk.ext (((hE _ _).tr (hE _ _)).tr (hE _ _))) hk).mono ?_
  rintro e w1 ⟨k1, rfl, o1, b1⟩
  have hs1 : w.heap.size + 3 ≤ w1.heap.size := by have := b1.size; simp at this; omega
  have P1 := below_blk b1 (by simp; omega) (h3_0 w _ _ _)
  have R1 := below_blk b1 (by simp) (h3_1 w _ _ _)
  have T1 := below_blk b1 (by simp) (h3_2 w _ _ _)
  obtain ⟨ka, kc, rfl, _, _, _⟩ := Ow.rv o1 hrk
  have c1 := (at_block P1 1 _ rfl).1
  obtain ⟨t0, ft0⟩ := at_block T1 0 _ rfl
  have T2 := set_block T1 0 (.slice ka s.key.length kc)
  have P2 := set_other (w.heap.size + 1 + 1) 0 (.slice ka s.key.length kc) (by omega) P1
  have R2 := set_other (w.heap.size + 1 + 1) 0 (.slice ka s.key.length kc) (by omega) R1
  have G2 := set_grown w1 (w.heap.size + 1 + 1) 0 (.slice ka s.key.length kc)
  have HT2 : Hid ((w1.setCell ⟨w.heap.size + 1 + 1, 0, none⟩ (.slice ka s.key.length kc)).heap[w.heap.size + 1 + 1]? = some (.cells #[.slice ka s.key.length kc, .slice none 0 0, .int .i64 0, .int .i64 0] 116 (0, 0))) := T2
  clear T2
  go_wp2_with fail
  have B0 : Below w.heap.size w w1 := ((((Below.refl _ w).alloc (Nat.le_refl _) _).alloc (by simp) _).alloc (by simp; omega) _).trans (b1.mono (by simp; omega))
  have B2 := below_at B0 B0.size G2 (by omega)
  have o2 := ow_row o1 G2 (by simp)
  have hs2 : w1.heap.size ≤ (w1.setCell ⟨w.heap.size + 1 + 1, 0, none⟩ (.slice ka s.key.length kc)).heap.size := G2.size
  generalize w1.setCell ⟨w.heap.size + 1 + 1, 0, none⟩ (.slice ka s.key.length kc) = w2 at HT2 P2 R2 G2 B2 o2 hs2 ⊢
  have T2 := HT2.out
  clear HT2 T1 P1 R1 t0 ft0 c1 G2 o1 b1 B0
  refine (toV vv s.val w2 (rv.ext (ext_below B2)) hv).mono ?_
  rintro e w3 ⟨v3, rfl, o3, b3⟩
  have hs3 := b3.size
  have P3 := below_blk b3 (by omega) P2
  have R3 := below_blk b3 (by omega) R2
  have T3 := below_blk b3 (by omega) T2
  have k3 := o2.ext (ext_below b3)
  have B3 := B2.trans (b3.mono B2.size)
  obtain ⟨va, vc, rfl, _, _, _⟩ := Ow.rv o3 hrv
  clear P2 R2 T2 b3 B2 o2
  have p2 := (at_block P3 2 _ rfl).1
  have p3 := (at_block P3 3 _ rfl).1
  obtain ⟨q0, g0⟩ := at_block T3 0 _ rfl
  obtain ⟨q1, g1⟩ := at_block T3 1 _ rfl
  obtain ⟨q2, g2⟩ := at_block T3 2 _ rfl
  obtain ⟨q3, g3⟩ := at_block T3 3 _ rfl
  obtain ⟨r0, z0⟩ := at_block R3 0 _ rfl
  obtain ⟨r1, z1⟩ := at_block R3 1 _ rfl
  obtain ⟨r2, z2⟩ := at_block R3 2 _ rfl
  obtain ⟨r3, z3⟩ := at_block R3 3 _ rfl
  go_wp2
  refine bodyPost_ret (v := .agg #[.slice ka s.key.length kc, .slice va s.val.length vc, .int .i64 s.turned, .int .i64 s.holder]) (by simp [results, Tryz.results73, go_sem, r0, r1, r2, r3]) rfl ?_
  have GG : ∀ (W : World) (j : Nat) (u : Value), W.grownBy (W.setCell ⟨w.heap.size + 1, j, none⟩ u) (some (w.heap.size + 1)) := fun W j u => set_grown W _ j u
  have GT : ∀ (W : World) (j : Nat) (u : Value), W.grownBy (W.setCell ⟨w.heap.size + 1 + 1, j, none⟩ u) (some (w.heap.size + 1 + 1)) := fun W j u => set_grown W _ j u
  refine ⟨_, _, rfl, ?_, ?_, ?_⟩
  · exact ow_base (ow_row (ow_row (ow_row (ow_row (ow_row (ow_row (ow_row k3 (GT _ _ _) (by simp)) (GT _ _ _) (by simp)) (GT _ _ _) (by simp)) (GG _ _ _) (by simp)) (GG _ _ _) (by simp)) (GG _ _ _) (by simp)) (GG _ _ _) (by simp)) (by simp; omega)
  · exact ow_base (ow_row (ow_row (ow_row (ow_row (ow_row (ow_row (ow_row o3 (GT _ _ _) (by omega)) (GT _ _ _) (by omega)) (GT _ _ _) (by omega)) (GG _ _ _) (by omega)) (GG _ _ _) (by omega)) (GG _ _ _) (by omega)) (GG _ _ _) (by omega)) (by omega)
  · exact ((((((B3.setCell (by simp; omega) _).setCell (by simp; omega) _).setCell (by simp; omega) _).setCell (by simp) _).setCell (by simp) _).setCell (by simp) _).setCell (by simp) _

theorem info_R : (Tryz.prog.info? 116).map (fun i => (i.zero, i.size, i.bytes)) = some (some (.agg #[.slice none 0 0, .slice none 0 0, .int .i64 0, .int .i64 0]), 4, 64) := by kernel_rfl

set_option maxHeartbeats 2000000 in
theorem toS_R (v : Value) (ss : List DRow) (w : World) (h : VRows w v ss) (hn : ss.length ≤ 1048576) (hlen : ∀ (i : Nat) (s : DRow), ss[i]? = some s → s.key.length ≤ 1048576 ∧ s.val.length ≤ 1048576) :
    Calls Tryz.prog 31 #[v] w fun e w' => ∃ F, e = .returned (.slice (some ⟨w.heap.size, 0, none⟩) ss.length ss.length) ∧ Blk w' w.heap.size 116 4 ss.length ss.length F ∧ (∀ i s, ss[i]? = some s → Ow w' (w.heap.size + 1) (F i 0) s.key ∧ Ow w' (w.heap.size + 1) (F i 1) s.val ∧ F i 2 = .int .i64 s.turned ∧ F i 3 = .int .i64 s.holder) ∧ Below w.heap.size w w' := by
  obtain ⟨C, ⟨a, cap, rfl, h1, h2, h3⟩, hC⟩ := h
  have HC : Hid (∀ i r, ss[i]? = some r → RV w (C i 0) r.key ∧ RV w (C i 1) r.val ∧ C i 2 = .int .i64 r.turned ∧ C i 3 = .int .i64 r.holder) := hC
  clear hC
  obtain ⟨n, hnn⟩ : ∃ n, n = ss.length := ⟨_, rfl⟩
  rw [← hnn] at h1 h3 hn ⊢
  have HN : Hid (n = ss.length) := hnn
  clear hnn
  have H3 : Hid (0 < n → ∃ b o, a = some ⟨b, o, none⟩ ∧ b < w.heap.size ∧ ∀ i, i < n → ∀ j, j < 4 → w.cell? ⟨b, o + i * 4 + j, none⟩ = some (C i j)) := h3
  clear h3
  have HLN : Hid (∀ (i : Nat) (s : DRow), ss[i]? = some s → s.key.length ≤ 1048576 ∧ s.val.length ≤ 1048576) := hlen
  clear hlen
  obtain ⟨i0, hi, hz0, hz1, hz2⟩ := info_parts info_R
  have hml : n ≤ maxLen := by unfold maxLen; omega
  have hml2 : (n : Int) ≤ 1048576 := by omega
  go_enter Tryz.func31, Tryz.ntmps31
  go_wp2_with (at_make; refine wpList_make_full _ rfl _ _ 43 rfl w.heap.size 116 i0 (.agg #[.slice none 0 0, .slice none 0 0, .int .i64 0, .int .i64 0]) 4 Tryz.underlying43 hi hz0 hz1 _ _ _ _ n rfl rfl rfl rfl ?b1 ?b2 ?b3 ?_)
  case b1 => rw [hz2]; omega
  case b2 => exact hml
  case b3 => exact Nat.le_refl _
  intro w1 hown hgr
  have hb1 : Below w.heap.size w w1 := (Below.refl _ _).grown hgr (Nat.le_refl _) (fun k hk => by cases hk)
  have hbk := blk_made (F := fun _ _ => .bool true) hown
  clear hown hgr
  go_wp2
  go_loopw [4] (fun i wr => ∃ k : Nat, k ≤ n ∧ i = .int .i64 k ∧ Below w.heap.size w wr ∧ ∃ F, Blk wr w.heap.size 116 4 n k F ∧ Hid (∀ i s, i < k → ss[i]? = some s → Ow wr (w.heap.size + 1) (F i 0) s.key ∧ Ow wr (w.heap.size + 1) (F i 1) s.val ∧ F i 2 = .int .i64 s.turned ∧ F i 3 = .int .i64 s.holder)) (fun i _ => n - (intOf i).toNat)
  case atStart => exact ⟨0, Nat.zero_le _, rfl, hb1, _, hbk, fun i s hi => absurd hi (by omega)⟩
  case round =>
    obtain ⟨k, hk, rfl, hb, F, hF, hall⟩ := hrel
    clear hbk hb1
    by_cases hlt : k < n
    · obtain ⟨b, o, rfl, hbl, hc⟩ := H3.out (by omega)
      obtain ⟨s, hs⟩ : ∃ s, ss[k]? = some s := ⟨_, List.getElem?_eq_getElem (by have := HN.out; omega)⟩
      obtain ⟨e0, e1, e2, e3⟩ := HC.out k s hs
      have c0 := World.grownBy.cell (ext_below hb) (hc k hlt 0 (by omega)) (by simp)
      have c1 := World.grownBy.cell (ext_below hb) (hc k hlt 1 (by omega)) (by simp)
      have c2 := World.grownBy.cell (ext_below hb) (hc k hlt 2 (by omega)) (by simp)
      have c3 := World.grownBy.cell (ext_below hb) (hc k hlt 3 (by omega)) (by simp)
      have r0 := e0.ext (ext_below hb)
      obtain ⟨a0, p0, x0, _, _, _⟩ := e0
      rw [x0] at r0 c0
      rw [Nat.add_zero] at c0
      have r1 := e1.ext (ext_below hb)
      obtain ⟨a1, p1, x1, _, _, _⟩ := e1
      rw [x1] at r1 c1
      rw [e2] at c2
      rw [e3] at c3
      have hlt' : (k : Int) < (n : Int) := by omega
      clear hc
      go_wp2_with fail
      refine (toEl_R _ _ s wr r0 r1 (HLN.out k s hs).1 (HLN.out k s hs).2).mono ?_
      rintro e w2 ⟨k', v', rfl, ok, ov, b2⟩
      obtain ⟨a5, p5, rfl, _, _, _⟩ := Ow.rv ok (rv_rng r0)
      obtain ⟨a6, p6, rfl, _, _, _⟩ := Ow.rv ov (rv_rng r1)
      have hF2 := blk_kept hF (b2.block _ (blk_lt hF))
      have hgl := blk_lt hF
      have hb2 := hb.trans (b2.mono hb.size)
      obtain ⟨⟨u0, d0⟩, f0⟩ := blk_cell hF2 (k * 4) (by omega)
      obtain ⟨⟨u1, d1⟩, f1⟩ := blk_cell hF2 (k * 4 + 1) (by omega)
      obtain ⟨⟨u2, d2⟩, f2⟩ := blk_cell hF2 (k * 4 + 2) (by omega)
      obtain ⟨⟨u3, d3⟩, f3⟩ := blk_cell hF2 (k * 4 + 3) (by omega)
      have G := blk_next (blk_set (blk_set (blk_set (blk_set hF2 (k * 4) (by omega) (.slice a5 s.key.length p5)) (k * 4 + 1) (by omega) (.slice a6 s.val.length p6)) (k * 4 + 2) (by omega) (.int .i64 s.turned)) (k * 4 + 3) (by omega) (.int .i64 s.holder)) (fun j => if j = 0 then .slice a5 s.key.length p5 else if j = 1 then .slice a6 s.val.length p6 else if j = 2 then .int .i64 s.turned else .int .i64 s.holder) (fun j hj => by
        have hj : j = 0 ∨ j = 1 ∨ j = 2 ∨ j = 3 := by omega
        rcases hj with rfl | rfl | rfl | rfl <;> simp [*, go_sem])
      have HG : Hid (Blk ((((w2.setCell ⟨w.heap.size, k * 4, none⟩ (.slice a5 s.key.length p5)).setCell ⟨w.heap.size, k * 4 + 1, none⟩ (.slice a6 s.val.length p6)).setCell ⟨w.heap.size, k * 4 + 2, none⟩ (.int .i64 s.turned)).setCell ⟨w.heap.size, k * 4 + 3, none⟩ (.int .i64 s.holder)) w.heap.size 116 4 n (k + 1) (fun i j => if i = k then (if j = 0 then .slice a5 s.key.length p5 else if j = 1 then .slice a6 s.val.length p6 else if j = 2 then .int .i64 s.turned else .int .i64 s.holder) else F i j)) := G
      have HBF : Hid (Below w.heap.size w ((((w2.setCell ⟨w.heap.size, k * 4, none⟩ (.slice a5 s.key.length p5)).setCell ⟨w.heap.size, k * 4 + 1, none⟩ (.slice a6 s.val.length p6)).setCell ⟨w.heap.size, k * 4 + 2, none⟩ (.int .i64 s.turned)).setCell ⟨w.heap.size, k * 4 + 3, none⟩ (.int .i64 s.holder))) := ((((hb2.setCell (Nat.le_refl _) _).setCell (Nat.le_refl _) _).setCell (Nat.le_refl _) _).setCell (Nat.le_refl _) _)
      have HA : Hid (∀ i r, i < k + 1 → ss[i]? = some r → Ow ((((w2.setCell ⟨w.heap.size, k * 4, none⟩ (.slice a5 s.key.length p5)).setCell ⟨w.heap.size, k * 4 + 1, none⟩ (.slice a6 s.val.length p6)).setCell ⟨w.heap.size, k * 4 + 2, none⟩ (.int .i64 s.turned)).setCell ⟨w.heap.size, k * 4 + 3, none⟩ (.int .i64 s.holder)) (w.heap.size + 1) ((fun i j => if i = k then (if j = 0 then .slice a5 s.key.length p5 else if j = 1 then .slice a6 s.val.length p6 else if j = 2 then .int .i64 s.turned else .int .i64 s.holder) else F i j) i 0) r.key ∧ Ow ((((w2.setCell ⟨w.heap.size, k * 4, none⟩ (.slice a5 s.key.length p5)).setCell ⟨w.heap.size, k * 4 + 1, none⟩ (.slice a6 s.val.length p6)).setCell ⟨w.heap.size, k * 4 + 2, none⟩ (.int .i64 s.turned)).setCell ⟨w.heap.size, k * 4 + 3, none⟩ (.int .i64 s.holder)) (w.heap.size + 1) ((fun i j => if i = k then (if j = 0 then .slice a5 s.key.length p5 else if j = 1 then .slice a6 s.val.length p6 else if j = 2 then .int .i64 s.turned else .int .i64 s.holder) else F i j) i 1) r.val ∧ (fun i j => if i = k then (if j = 0 then .slice a5 s.key.length p5 else if j = 1 then .slice a6 s.val.length p6 else if j = 2 then .int .i64 s.turned else .int .i64 s.holder) else F i j) i 2 = .int .i64 r.turned ∧ (fun i j => if i = k then (if j = 0 then .slice a5 s.key.length p5 else if j = 1 then .slice a6 s.val.length p6 else if j = 2 then .int .i64 s.turned else .int .i64 s.holder) else F i j) i 3 = .int .i64 r.holder) := fun i r hi hr => by
        by_cases e : i = k
        · subst e
          rw [hs] at hr
          cases hr
          simp only [if_pos]
          exact ⟨(by simpa using (ow_row (ow_row (ow_row (ow_row (ow_base ok (by omega)) (set_grown _ _ _ _) (by omega)) (set_grown _ _ _ _) (by omega)) (set_grown _ _ _ _) (by omega)) (set_grown _ _ _ _) (by omega))), (by simpa using (ow_row (ow_row (ow_row (ow_row (ow_base ov (by omega)) (set_grown _ _ _ _) (by omega)) (set_grown _ _ _ _) (by omega)) (set_grown _ _ _ _) (by omega)) (set_grown _ _ _ _) (by omega))), (by simp), (by simp)⟩
        · simp only [if_neg e]
          exact ⟨(ow_row (ow_row (ow_row (ow_row ((hall.out i r (by omega) hr).1.ext (ext_below b2)) (set_grown _ _ _ _) (by omega)) (set_grown _ _ _ _) (by omega)) (set_grown _ _ _ _) (by omega)) (set_grown _ _ _ _) (by omega)), (ow_row (ow_row (ow_row (ow_row ((hall.out i r (by omega) hr).2.1.ext (ext_below b2)) (set_grown _ _ _ _) (by omega)) (set_grown _ _ _ _) (by omega)) (set_grown _ _ _ _) (by omega)) (set_grown _ _ _ _) (by omega)), (hall.out i r (by omega) hr).2.2.1, (hall.out i r (by omega) hr).2.2.2⟩
      clear hb hF hall G hb2 hF2 b2
      go_wp2
      go_roundw
      case rel => exact ⟨k + 1, by omega, by go_num, HBF.out, _, HG.out, HA⟩
      case measure => simp [intOf]; omega
    · have hkn : k = n := by omega
      subst hkn
      go_wp2
      go_ret
      exact ⟨F, rfl, hF, fun i s hs => hall.out i s (by have := (List.getElem?_eq_some_iff.1 hs).1; have := HN.out; omega) hs, hb⟩

end Go.Proofs.YtnklnhnjmikooaaGreat

namespace Go.Proofs.YtnklnhnjmikooaaGreat
open Go.RowKit

set_option maxHeartbeats 1000000 in
theorem toEl_T (kv : Value) (s : DTomb) (w : World) (rk : RV w kv s.key) (hk : s.key.length ≤ 1048576) :
    Calls Tryz.prog 74 #[.agg #[kv, .int .i64 s.index]] w fun e w' => ∃ k', e = .returned (.agg #[k', .int .i64 s.index]) ∧ Ow w' w.heap.size k' s.key ∧ Below w.heap.size w w' := by
  have hE : ∀ w : World, ∀ o, Ext w (w.alloc o) := fun w o => World.grownBy_alloc _ _ _
  have hrk := rv_rng rk
  go_enter Tryz.func74, Tryz.ntmps74
  go_wp2_with fail
  refine (toV kv s.key _ (rk.ext (((hE _ _).tr (hE _ _)).tr (hE _ _))) hk).mono ?_
  rintro e w1 ⟨k1, rfl, o1, b1⟩
  have hs1 : w.heap.size + 3 ≤ w1.heap.size := by have := b1.size; simp at this; omega
  have P3 := below_blk b1 (by simp; omega) (h3_0 w _ _ _)
  have R3 := below_blk b1 (by simp) (h3_1 w _ _ _)
  have T3 := below_blk b1 (by simp) (h3_2 w _ _ _)
  have B3 : Below w.heap.size w w1 := ((((Below.refl _ w).alloc (Nat.le_refl _) _).alloc (by simp) _).alloc (by simp; omega) _).trans (b1.mono (by simp; omega))
  obtain ⟨ka, kc, rfl, _, _, _⟩ := Ow.rv o1 hrk
  have p1 := (at_block P3 1 _ rfl).1
  obtain ⟨q0, g0⟩ := at_block T3 0 _ rfl
  obtain ⟨q1, g1⟩ := at_block T3 1 _ rfl
  obtain ⟨r0, z0⟩ := at_block R3 0 _ rfl
  obtain ⟨r1, z1⟩ := at_block R3 1 _ rfl
  go_wp2
  refine bodyPost_ret (v := .agg #[.slice ka s.key.length kc, .int .i64 s.index]) (by simp [results, Tryz.results74, go_sem, r0, r1]) rfl ?_
  have GG : ∀ (W : World) (j : Nat) (u : Value), W.grownBy (W.setCell ⟨w.heap.size + 1, j, none⟩ u) (some (w.heap.size + 1)) := fun W j u => set_grown W _ j u
  have GT : ∀ (W : World) (j : Nat) (u : Value), W.grownBy (W.setCell ⟨w.heap.size + 1 + 1, j, none⟩ u) (some (w.heap.size + 1 + 1)) := fun W j u => set_grown W _ j u
  refine ⟨_, rfl, ?_, ?_⟩
  · exact ow_base (ow_row (ow_row (ow_row (ow_row o1 (GT _ _ _) (by simp)) (GT _ _ _) (by simp)) (GG _ _ _) (by simp)) (GG _ _ _) (by simp)) (by simp; omega)
  · exact (((B3.setCell (by simp; omega) _).setCell (by simp; omega) _).setCell (by simp) _).setCell (by simp) _

theorem info_T : (Tryz.prog.info? 118).map (fun i => (i.zero, i.size, i.bytes)) = some (some (.agg #[.slice none 0 0, .int .i64 0]), 2, 32) := by kernel_rfl

set_option maxHeartbeats 2000000 in
theorem toS_T (v : Value) (ss : List DTomb) (w : World) (h : VTombs w v ss) (hn : ss.length ≤ 1048576) (hlen : ∀ (i : Nat) (s : DTomb), ss[i]? = some s → s.key.length ≤ 1048576) :
    Calls Tryz.prog 32 #[v] w fun e w' => ∃ F, e = .returned (.slice (some ⟨w.heap.size, 0, none⟩) ss.length ss.length) ∧ Blk w' w.heap.size 118 2 ss.length ss.length F ∧ (∀ i s, ss[i]? = some s → Ow w' (w.heap.size + 1) (F i 0) s.key ∧ F i 1 = .int .i64 s.index) ∧ Below w.heap.size w w' := by
  obtain ⟨C, ⟨a, cap, rfl, h1, h2, h3⟩, hC⟩ := h
  have HC : Hid (∀ i r, ss[i]? = some r → RV w (C i 0) r.key ∧ C i 1 = .int .i64 r.index) := hC
  clear hC
  obtain ⟨n, hnn⟩ : ∃ n, n = ss.length := ⟨_, rfl⟩
  rw [← hnn] at h1 h3 hn ⊢
  have HN : Hid (n = ss.length) := hnn
  clear hnn
  have H3 : Hid (0 < n → ∃ b o, a = some ⟨b, o, none⟩ ∧ b < w.heap.size ∧ ∀ i, i < n → ∀ j, j < 2 → w.cell? ⟨b, o + i * 2 + j, none⟩ = some (C i j)) := h3
  clear h3
  have HLN : Hid (∀ (i : Nat) (s : DTomb), ss[i]? = some s → s.key.length ≤ 1048576) := hlen
  clear hlen
  obtain ⟨i0, hi, hz0, hz1, hz2⟩ := info_parts info_T
  have hml : n ≤ maxLen := by unfold maxLen; omega
  have hml2 : (n : Int) ≤ 1048576 := by omega
  go_enter Tryz.func32, Tryz.ntmps32
  go_wp2_with (at_make; refine wpList_make_full _ rfl _ _ 44 rfl w.heap.size 118 i0 (.agg #[.slice none 0 0, .int .i64 0]) 2 Tryz.underlying44 hi hz0 hz1 _ _ _ _ n rfl rfl rfl rfl ?b1 ?b2 ?b3 ?_)
  case b1 => rw [hz2]; omega
  case b2 => exact hml
  case b3 => exact Nat.le_refl _
  intro w1 hown hgr
  have hb1 : Below w.heap.size w w1 := (Below.refl _ _).grown hgr (Nat.le_refl _) (fun k hk => by cases hk)
  have hbk := blk_made (F := fun _ _ => .bool true) hown
  clear hown hgr
  go_wp2
  go_loopw [4] (fun i wr => ∃ k : Nat, k ≤ n ∧ i = .int .i64 k ∧ Below w.heap.size w wr ∧ ∃ F, Blk wr w.heap.size 118 2 n k F ∧ Hid (∀ i s, i < k → ss[i]? = some s → Ow wr (w.heap.size + 1) (F i 0) s.key ∧ F i 1 = .int .i64 s.index)) (fun i _ => n - (intOf i).toNat)
  case atStart => exact ⟨0, Nat.zero_le _, rfl, hb1, _, hbk, fun i s hi => absurd hi (by omega)⟩
  case round =>
    obtain ⟨k, hk, rfl, hb, F, hF, hall⟩ := hrel
    clear hbk hb1
    by_cases hlt : k < n
    · obtain ⟨b, o, rfl, hbl, hc⟩ := H3.out (by omega)
      obtain ⟨s, hs⟩ : ∃ s, ss[k]? = some s := ⟨_, List.getElem?_eq_getElem (by have := HN.out; omega)⟩
      obtain ⟨e0, e1⟩ := HC.out k s hs
      have c0 := World.grownBy.cell (ext_below hb) (hc k hlt 0 (by omega)) (by simp)
      have c1 := World.grownBy.cell (ext_below hb) (hc k hlt 1 (by omega)) (by simp)
      have r0 := e0.ext (ext_below hb)
      obtain ⟨a0, p0, x0, _, _, _⟩ := e0
      rw [x0] at r0 c0
      rw [Nat.add_zero] at c0
      rw [e1] at c1
      have hlt' : (k : Int) < (n : Int) := by omega
      clear hc
      go_wp2_with fail
      refine (toEl_T _ s wr r0 (HLN.out k s hs)).mono ?_
      rintro e w2 ⟨k', rfl, ok, b2⟩
      obtain ⟨a5, p5, rfl, _, _, _⟩ := Ow.rv ok (rv_rng r0)
      have hF2 := blk_kept hF (b2.block _ (blk_lt hF))
      have hgl := blk_lt hF
      have hb2 := hb.trans (b2.mono hb.size)
      obtain ⟨⟨u0, d0⟩, f0⟩ := blk_cell hF2 (k * 2) (by omega)
      obtain ⟨⟨u1, d1⟩, f1⟩ := blk_cell hF2 (k * 2 + 1) (by omega)
      have G := blk_next (blk_set (blk_set hF2 (k * 2) (by omega) (.slice a5 s.key.length p5)) (k * 2 + 1) (by omega) (.int .i64 s.index)) (fun j => if j = 0 then .slice a5 s.key.length p5 else .int .i64 s.index) (fun j hj => by
        have hj : j = 0 ∨ j = 1 := by omega
        rcases hj with rfl | rfl <;> simp [*, go_sem])
      have HG : Hid (Blk ((w2.setCell ⟨w.heap.size, k * 2, none⟩ (.slice a5 s.key.length p5)).setCell ⟨w.heap.size, k * 2 + 1, none⟩ (.int .i64 s.index)) w.heap.size 118 2 n (k + 1) (fun i j => if i = k then (if j = 0 then .slice a5 s.key.length p5 else .int .i64 s.index) else F i j)) := G
      have HBF : Hid (Below w.heap.size w ((w2.setCell ⟨w.heap.size, k * 2, none⟩ (.slice a5 s.key.length p5)).setCell ⟨w.heap.size, k * 2 + 1, none⟩ (.int .i64 s.index))) := ((hb2.setCell (Nat.le_refl _) _).setCell (Nat.le_refl _) _)
      have HA : Hid (∀ i r, i < k + 1 → ss[i]? = some r → Ow ((w2.setCell ⟨w.heap.size, k * 2, none⟩ (.slice a5 s.key.length p5)).setCell ⟨w.heap.size, k * 2 + 1, none⟩ (.int .i64 s.index)) (w.heap.size + 1) ((fun i j => if i = k then (if j = 0 then .slice a5 s.key.length p5 else .int .i64 s.index) else F i j) i 0) r.key ∧ (fun i j => if i = k then (if j = 0 then .slice a5 s.key.length p5 else .int .i64 s.index) else F i j) i 1 = .int .i64 r.index) := fun i r hi hr => by
        by_cases e : i = k
        · subst e
          rw [hs] at hr
          cases hr
          simp only [if_pos]
          exact ⟨(by simpa using (ow_row (ow_row (ow_base ok (by omega)) (set_grown _ _ _ _) (by omega)) (set_grown _ _ _ _) (by omega))), (by simp)⟩
        · simp only [if_neg e]
          exact ⟨(ow_row (ow_row ((hall.out i r (by omega) hr).1.ext (ext_below b2)) (set_grown _ _ _ _) (by omega)) (set_grown _ _ _ _) (by omega)), (hall.out i r (by omega) hr).2⟩
      clear hb hF hall G hb2 hF2 b2
      go_wp2
      go_roundw
      case rel => exact ⟨k + 1, by omega, by go_num, HBF.out, _, HG.out, HA⟩
      case measure => simp [intOf]; omega
    · have hkn : k = n := by omega
      subst hkn
      go_wp2
      go_ret
      exact ⟨F, rfl, hF, fun i s hs => hall.out i s (by have := (List.getElem?_eq_some_iff.1 hs).1; have := HN.out; omega) hs, hb⟩

end Go.Proofs.YtnklnhnjmikooaaGreat

namespace Go.Proofs.YtnklnhnjmikooaaGreat
open Go.RowKit

set_option maxHeartbeats 1000000 in
theorem eqEl_S (s : DSess) (w : World) :
    Calls Tryz.prog 89 #[.agg #[.int .i64 s.id, .bool s.del], .agg #[.int .i64 s.id, .bool s.del]] w fun e w' => e = .returned (.bool true) ∧ Below w.heap.size w w' := by
  go_enter Tryz.func89, Tryz.ntmps89
  go_wp2
  go_ret
  exact ⟨rfl, ((Below.refl _ w).alloc (Nat.le_refl _) _).alloc (by simp) _⟩

set_option maxHeartbeats 2000000 in
theorem eqS_S (v u : Value) (ss : List DSess) (w : World) (h : VSess w v ss) (k : VSess w u ss) (hn : ss.length ≤ 1048576) :
    Calls Tryz.prog 43 #[v, u] w fun e w' => e = .returned (.bool true) ∧ Below w.heap.size w w' := by
  obtain ⟨C, ⟨a, cap, rfl, h1, h2, h3⟩, hC⟩ := h
  obtain ⟨D, ⟨a', cap', rfl, h1', h2', h3'⟩, hD⟩ := k
  have HC : Hid (∀ i r, ss[i]? = some r → C i 0 = .int .i64 r.id ∧ C i 1 = .bool r.del) := hC
  have HD : Hid (∀ i r, ss[i]? = some r → D i 0 = .int .i64 r.id ∧ D i 1 = .bool r.del) := hD
  clear hC hD
  obtain ⟨n, hnn⟩ : ∃ n, n = ss.length := ⟨_, rfl⟩
  rw [← hnn] at h1 h3 h1' h3' hn ⊢
  have HN : Hid (n = ss.length) := hnn
  clear hnn
  have H3 : Hid (0 < n → ∃ b o, a = some ⟨b, o, none⟩ ∧ b < w.heap.size ∧ ∀ i, i < n → ∀ j, j < 2 → w.cell? ⟨b, o + i * 2 + j, none⟩ = some (C i j)) := h3
  have H3' : Hid (0 < n → ∃ b o, a' = some ⟨b, o, none⟩ ∧ b < w.heap.size ∧ ∀ i, i < n → ∀ j, j < 2 → w.cell? ⟨b, o + i * 2 + j, none⟩ = some (D i j)) := h3'
  clear h3 h3'
  have hml2 : (n : Int) ≤ 1048576 := by omega
  go_enter Tryz.func43, Tryz.ntmps43
  go_wp2
  go_loopw [5] (fun i wr => ∃ k : Nat, k ≤ n ∧ i = .int .i64 k ∧ Below w.heap.size w wr) (fun i _ => n - (intOf i).toNat)
  case atStart => exact ⟨0, Nat.zero_le _, rfl, Below.refl _ _⟩
  case round =>
    obtain ⟨k, hk, rfl, hb⟩ := hrel
    by_cases hlt : k < n
    · obtain ⟨b, o, rfl, hbl, hc⟩ := H3.out (by omega)
      obtain ⟨b', o', rfl, hbl', hc'⟩ := H3'.out (by omega)
      obtain ⟨s, hs⟩ : ∃ s, ss[k]? = some s := ⟨_, List.getElem?_eq_getElem (by have := HN.out; omega)⟩
      obtain ⟨e0, e1⟩ := HC.out k s hs
      obtain ⟨y0, y1⟩ := HD.out k s hs
      have X2 : Ext w wr.drew := (ext_below hb).tr (ext_drewN wr 1)
      have c0 := World.grownBy.cell (ext_below hb) (hc k hlt 0 (by omega)) (by simp)
      rw [e0, Nat.add_zero] at c0
      have c1 := World.grownBy.cell (ext_below hb) (hc k hlt 1 (by omega)) (by simp)
      rw [e1] at c1
      have d0 := World.grownBy.cell (ext_below hb) (hc' k hlt 0 (by omega)) (by simp)
      rw [y0, Nat.add_zero] at d0
      have d1 := World.grownBy.cell (ext_below hb) (hc' k hlt 1 (by omega)) (by simp)
      rw [y1] at d1
      have hlt' : (k : Int) < (n : Int) := by omega
      have hb5 : Below w.heap.size w wr.drew := below_drewN hb 1
      clear hc hc' X2
      go_wp2_with fail
      go_region_held3 (fun w' => w'.cell? ⟨b, o + k * 2, none⟩ = some (.int .i64 s.id) ∧ w'.cell? ⟨b, o + k * 2 + 1, none⟩ = some (.bool s.del) ∧ w'.cell? ⟨b', o' + k * 2, none⟩ = some (.int .i64 s.id) ∧ w'.cell? ⟨b', o' + k * 2 + 1, none⟩ = some (.bool s.del)) (simp [*])
        ((go_at_call 89; refine (eqEl_S s _).mono ?_; rintro e w7 ⟨rfl, b7⟩; have ck0 := World.grownBy.cell (ext_below b7) (show wr.drew.cell? _ = _ from c0) (by simp); have ck1 := World.grownBy.cell (ext_below b7) (show wr.drew.cell? _ = _ from c1) (by simp); have dk0 := World.grownBy.cell (ext_below b7) (show wr.drew.cell? _ = _ from d0) (by simp); have dk1 := World.grownBy.cell (ext_below b7) (show wr.drew.cell? _ = _ from d1) (by simp)))
      all_goals
        go_wp2
        go_roundw
        case rel => exact ⟨k + 1, by omega, by go_num, hb5.trans (b7.mono hb5.size)⟩
        case measure => simp [intOf]; omega
    · have hkn : k = n := by omega
      subst hkn
      go_wp2
      go_ret
      exact ⟨rfl, hb⟩

end Go.Proofs.YtnklnhnjmikooaaGreat

namespace Go.Proofs.YtnklnhnjmikooaaGreat
open Go.RowKit

set_option maxHeartbeats 1000000 in
theorem eqReplyV (x y : Int) (w : World) :
    Calls Tryz.prog 110 #[.agg #[.int .i64 x, .int .i64 y], .agg #[.int .i64 x, .int .i64 y]] w fun e w' => e = .returned (.bool true) ∧ Below w.heap.size w w' := by
  go_enter Tryz.func110, Tryz.ntmps110
  go_wp2
  go_ret
  exact ⟨rfl, ((Below.refl _ w).alloc (Nat.le_refl _) _).alloc (by simp) _⟩

set_option maxHeartbeats 1000000 in
theorem eqEl_L (s : DLast) (w : World) :
    Calls Tryz.prog 90 #[.agg #[.int .i64 s.client, .int .i64 s.req, .int .i64 s.code, .int .i64 s.index], .agg #[.int .i64 s.client, .int .i64 s.req, .int .i64 s.code, .int .i64 s.index]] w fun e w' => e = .returned (.bool true) ∧ Below w.heap.size w w' := by
  go_enter Tryz.func90, Tryz.ntmps90
  go_wp2_with fail
  refine (eqReplyV s.code s.index _).mono ?_
  rintro e w1 ⟨rfl, b1⟩
  go_wp2
  go_ret
  exact ⟨rfl, (((Below.refl _ w).alloc (Nat.le_refl _) _).alloc (by simp) _).trans (b1.mono (by simp; omega))⟩

set_option maxHeartbeats 2000000 in
theorem eqS_L (v u : Value) (ss : List DLast) (w : World) (h : VLasts w v ss) (k : VLasts w u ss) (hn : ss.length ≤ 1048576) :
    Calls Tryz.prog 44 #[v, u] w fun e w' => e = .returned (.bool true) ∧ Below w.heap.size w w' := by
  obtain ⟨C, ⟨a, cap, rfl, h1, h2, h3⟩, hC⟩ := h
  obtain ⟨D, ⟨a', cap', rfl, h1', h2', h3'⟩, hD⟩ := k
  have HC : Hid (∀ i r, ss[i]? = some r → C i 0 = .int .i64 r.client ∧ C i 1 = .int .i64 r.req ∧ C i 2 = .int .i64 r.code ∧ C i 3 = .int .i64 r.index) := hC
  have HD : Hid (∀ i r, ss[i]? = some r → D i 0 = .int .i64 r.client ∧ D i 1 = .int .i64 r.req ∧ D i 2 = .int .i64 r.code ∧ D i 3 = .int .i64 r.index) := hD
  clear hC hD
  obtain ⟨n, hnn⟩ : ∃ n, n = ss.length := ⟨_, rfl⟩
  rw [← hnn] at h1 h3 h1' h3' hn ⊢
  have HN : Hid (n = ss.length) := hnn
  clear hnn
  have H3 : Hid (0 < n → ∃ b o, a = some ⟨b, o, none⟩ ∧ b < w.heap.size ∧ ∀ i, i < n → ∀ j, j < 4 → w.cell? ⟨b, o + i * 4 + j, none⟩ = some (C i j)) := h3
  have H3' : Hid (0 < n → ∃ b o, a' = some ⟨b, o, none⟩ ∧ b < w.heap.size ∧ ∀ i, i < n → ∀ j, j < 4 → w.cell? ⟨b, o + i * 4 + j, none⟩ = some (D i j)) := h3'
  clear h3 h3'
  have hml2 : (n : Int) ≤ 1048576 := by omega
  go_enter Tryz.func44, Tryz.ntmps44
  go_wp2
  go_loopw [5] (fun i wr => ∃ k : Nat, k ≤ n ∧ i = .int .i64 k ∧ Below w.heap.size w wr) (fun i _ => n - (intOf i).toNat)
  case atStart => exact ⟨0, Nat.zero_le _, rfl, Below.refl _ _⟩
  case round =>
    obtain ⟨k, hk, rfl, hb⟩ := hrel
    by_cases hlt : k < n
    · obtain ⟨b, o, rfl, hbl, hc⟩ := H3.out (by omega)
      obtain ⟨b', o', rfl, hbl', hc'⟩ := H3'.out (by omega)
      obtain ⟨s, hs⟩ : ∃ s, ss[k]? = some s := ⟨_, List.getElem?_eq_getElem (by have := HN.out; omega)⟩
      obtain ⟨e0, e1, e2, e3⟩ := HC.out k s hs
      obtain ⟨y0, y1, y2, y3⟩ := HD.out k s hs
      have X2 : Ext w wr.drew := (ext_below hb).tr (ext_drewN wr 1)
      have c0 := World.grownBy.cell (ext_below hb) (hc k hlt 0 (by omega)) (by simp)
      rw [e0, Nat.add_zero] at c0
      have c1 := World.grownBy.cell (ext_below hb) (hc k hlt 1 (by omega)) (by simp)
      rw [e1] at c1
      have c2 := World.grownBy.cell (ext_below hb) (hc k hlt 2 (by omega)) (by simp)
      rw [e2] at c2
      have c3 := World.grownBy.cell (ext_below hb) (hc k hlt 3 (by omega)) (by simp)
      rw [e3] at c3
      have d0 := World.grownBy.cell (ext_below hb) (hc' k hlt 0 (by omega)) (by simp)
      rw [y0, Nat.add_zero] at d0
      have d1 := World.grownBy.cell (ext_below hb) (hc' k hlt 1 (by omega)) (by simp)
      rw [y1] at d1
      have d2 := World.grownBy.cell (ext_below hb) (hc' k hlt 2 (by omega)) (by simp)
      rw [y2] at d2
      have d3 := World.grownBy.cell (ext_below hb) (hc' k hlt 3 (by omega)) (by simp)
      rw [y3] at d3
      have hlt' : (k : Int) < (n : Int) := by omega
      have hb5 : Below w.heap.size w wr.drew := below_drewN hb 1
      clear hc hc' X2
      go_wp2_with fail
      go_region_held3 (fun w' => w'.cell? ⟨b, o + k * 4, none⟩ = some (.int .i64 s.client) ∧ w'.cell? ⟨b, o + k * 4 + 1, none⟩ = some (.int .i64 s.req) ∧ w'.cell? ⟨b, o + k * 4 + 2, none⟩ = some (.int .i64 s.code) ∧ w'.cell? ⟨b, o + k * 4 + 3, none⟩ = some (.int .i64 s.index) ∧ w'.cell? ⟨b', o' + k * 4, none⟩ = some (.int .i64 s.client) ∧ w'.cell? ⟨b', o' + k * 4 + 1, none⟩ = some (.int .i64 s.req) ∧ w'.cell? ⟨b', o' + k * 4 + 2, none⟩ = some (.int .i64 s.code) ∧ w'.cell? ⟨b', o' + k * 4 + 3, none⟩ = some (.int .i64 s.index)) (simp [*])
        ((go_at_call 90; refine (eqEl_L s _).mono ?_; rintro e w7 ⟨rfl, b7⟩; have ck0 := World.grownBy.cell (ext_below b7) (show wr.drew.cell? _ = _ from c0) (by simp); have ck1 := World.grownBy.cell (ext_below b7) (show wr.drew.cell? _ = _ from c1) (by simp); have ck2 := World.grownBy.cell (ext_below b7) (show wr.drew.cell? _ = _ from c2) (by simp); have ck3 := World.grownBy.cell (ext_below b7) (show wr.drew.cell? _ = _ from c3) (by simp); have dk0 := World.grownBy.cell (ext_below b7) (show wr.drew.cell? _ = _ from d0) (by simp); have dk1 := World.grownBy.cell (ext_below b7) (show wr.drew.cell? _ = _ from d1) (by simp); have dk2 := World.grownBy.cell (ext_below b7) (show wr.drew.cell? _ = _ from d2) (by simp); have dk3 := World.grownBy.cell (ext_below b7) (show wr.drew.cell? _ = _ from d3) (by simp)))
      all_goals
        go_wp2
        go_roundw
        case rel => exact ⟨k + 1, by omega, by go_num, hb5.trans (b7.mono hb5.size)⟩
        case measure => simp [intOf]; omega
    · have hkn : k = n := by omega
      subst hkn
      go_wp2
      go_ret
      exact ⟨rfl, hb⟩

end Go.Proofs.YtnklnhnjmikooaaGreat

namespace Go.Proofs.YtnklnhnjmikooaaGreat
open Go.RowKit

set_option maxHeartbeats 1000000 in
theorem eqEl_R (kv vv kv' vv' : Value) (s : DRow) (w : World) (rk : RV w kv s.key) (rv : RV w vv s.val) (rk' : RV w kv' s.key) (rv' : RV w vv' s.val) (hk : s.key.length ≤ 2097152) (hv : s.val.length ≤ 2097152) :
    Calls Tryz.prog 87 #[.agg #[kv, vv, .int .i64 s.turned, .int .i64 s.holder], .agg #[kv', vv', .int .i64 s.turned, .int .i64 s.holder]] w fun e w' => e = .returned (.bool true) ∧ Below w.heap.size w w' := by
  have hE : ∀ w : World, ∀ o, Ext w (w.alloc o) := fun w o => World.grownBy_alloc _ _ _
  have x2 : ∀ a b, Ext w ((w.alloc a).alloc b) := fun a b => (hE _ _).tr (hE _ _)
  go_enter Tryz.func87, Tryz.ntmps87
  go_wp2_with fail
  refine (eqV_yes kv kv' s.key _ (rk.ext (x2 _ _)) (rk'.ext (x2 _ _)) hk).mono ?_
  rintro e w1 ⟨rfl, q1, rfl⟩
  go_wp2_with fail
  refine (eqV_yes vv vv' s.val _ ((rv.ext (x2 _ _)).ext (ext_drewN _ _)) ((rv'.ext (x2 _ _)).ext (ext_drewN _ _)) hv).mono ?_
  rintro e w2 ⟨rfl, q2, rfl⟩
  go_wp2
  go_ret
  exact ⟨rfl, below_drewN (((Below.refl _ w).alloc (Nat.le_refl _) _).alloc (by simp) _) _⟩

set_option maxHeartbeats 2000000 in
theorem eqS_R (v u : Value) (ss : List DRow) (w : World) (h : VRows w v ss) (k : VRows w u ss) (hn : ss.length ≤ 1048576) (hlen : ∀ (i : Nat) (s : DRow), ss[i]? = some s → s.key.length ≤ 2097152 ∧ s.val.length ≤ 2097152) :
    Calls Tryz.prog 41 #[v, u] w fun e w' => e = .returned (.bool true) ∧ Below w.heap.size w w' := by
  obtain ⟨C, ⟨a, cap, rfl, h1, h2, h3⟩, hC⟩ := h
  obtain ⟨D, ⟨a', cap', rfl, h1', h2', h3'⟩, hD⟩ := k
  have HC : Hid (∀ i r, ss[i]? = some r → RV w (C i 0) r.key ∧ RV w (C i 1) r.val ∧ C i 2 = .int .i64 r.turned ∧ C i 3 = .int .i64 r.holder) := hC
  have HD : Hid (∀ i r, ss[i]? = some r → RV w (D i 0) r.key ∧ RV w (D i 1) r.val ∧ D i 2 = .int .i64 r.turned ∧ D i 3 = .int .i64 r.holder) := hD
  clear hC hD
  obtain ⟨n, hnn⟩ : ∃ n, n = ss.length := ⟨_, rfl⟩
  rw [← hnn] at h1 h3 h1' h3' hn ⊢
  have HN : Hid (n = ss.length) := hnn
  clear hnn
  have H3 : Hid (0 < n → ∃ b o, a = some ⟨b, o, none⟩ ∧ b < w.heap.size ∧ ∀ i, i < n → ∀ j, j < 4 → w.cell? ⟨b, o + i * 4 + j, none⟩ = some (C i j)) := h3
  have H3' : Hid (0 < n → ∃ b o, a' = some ⟨b, o, none⟩ ∧ b < w.heap.size ∧ ∀ i, i < n → ∀ j, j < 4 → w.cell? ⟨b, o + i * 4 + j, none⟩ = some (D i j)) := h3'
  clear h3 h3'
  have HLN : Hid (∀ (i : Nat) (s : DRow), ss[i]? = some s → s.key.length ≤ 2097152 ∧ s.val.length ≤ 2097152) := hlen
  clear hlen
  have hml2 : (n : Int) ≤ 1048576 := by omega
  go_enter Tryz.func41, Tryz.ntmps41
  go_wp2
  go_loopw [5] (fun i wr => ∃ k : Nat, k ≤ n ∧ i = .int .i64 k ∧ Below w.heap.size w wr) (fun i _ => n - (intOf i).toNat)
  case atStart => exact ⟨0, Nat.zero_le _, rfl, Below.refl _ _⟩
  case round =>
    obtain ⟨k, hk, rfl, hb⟩ := hrel
    by_cases hlt : k < n
    · obtain ⟨b, o, rfl, hbl, hc⟩ := H3.out (by omega)
      obtain ⟨b', o', rfl, hbl', hc'⟩ := H3'.out (by omega)
      obtain ⟨s, hs⟩ : ∃ s, ss[k]? = some s := ⟨_, List.getElem?_eq_getElem (by have := HN.out; omega)⟩
      obtain ⟨e0, e1, e2, e3⟩ := HC.out k s hs
      obtain ⟨y0, y1, y2, y3⟩ := HD.out k s hs
      have X2 : Ext w wr.drew := (ext_below hb).tr (ext_drewN wr 1)
      have c0 := World.grownBy.cell (ext_below hb) (hc k hlt 0 (by omega)) (by simp)
      have cr0 := e0.ext X2
      obtain ⟨ca0, cp0, cx0, _, _, _⟩ := e0
      rw [cx0] at cr0 c0
      rw [Nat.add_zero] at c0
      have c1 := World.grownBy.cell (ext_below hb) (hc k hlt 1 (by omega)) (by simp)
      have cr1 := e1.ext X2
      obtain ⟨ca1, cp1, cx1, _, _, _⟩ := e1
      rw [cx1] at cr1 c1
      have c2 := World.grownBy.cell (ext_below hb) (hc k hlt 2 (by omega)) (by simp)
      rw [e2] at c2
      have c3 := World.grownBy.cell (ext_below hb) (hc k hlt 3 (by omega)) (by simp)
      rw [e3] at c3
      have d0 := World.grownBy.cell (ext_below hb) (hc' k hlt 0 (by omega)) (by simp)
      have dr0 := y0.ext X2
      obtain ⟨da0, dp0, dx0, _, _, _⟩ := y0
      rw [dx0] at dr0 d0
      rw [Nat.add_zero] at d0
      have d1 := World.grownBy.cell (ext_below hb) (hc' k hlt 1 (by omega)) (by simp)
      have dr1 := y1.ext X2
      obtain ⟨da1, dp1, dx1, _, _, _⟩ := y1
      rw [dx1] at dr1 d1
      have d2 := World.grownBy.cell (ext_below hb) (hc' k hlt 2 (by omega)) (by simp)
      rw [y2] at d2
      have d3 := World.grownBy.cell (ext_below hb) (hc' k hlt 3 (by omega)) (by simp)
      rw [y3] at d3
      have hlt' : (k : Int) < (n : Int) := by omega
      have hb5 : Below w.heap.size w wr.drew := below_drewN hb 1
      clear hc hc' X2
      go_wp2_with fail
      go_region_held3 (fun w' => w'.cell? ⟨b, o + k * 4, none⟩ = some (.slice ca0 s.key.length cp0) ∧ w'.cell? ⟨b, o + k * 4 + 1, none⟩ = some (.slice ca1 s.val.length cp1) ∧ w'.cell? ⟨b, o + k * 4 + 2, none⟩ = some (.int .i64 s.turned) ∧ w'.cell? ⟨b, o + k * 4 + 3, none⟩ = some (.int .i64 s.holder) ∧ w'.cell? ⟨b', o' + k * 4, none⟩ = some (.slice da0 s.key.length dp0) ∧ w'.cell? ⟨b', o' + k * 4 + 1, none⟩ = some (.slice da1 s.val.length dp1) ∧ w'.cell? ⟨b', o' + k * 4 + 2, none⟩ = some (.int .i64 s.turned) ∧ w'.cell? ⟨b', o' + k * 4 + 3, none⟩ = some (.int .i64 s.holder)) (simp [*])
        ((go_at_call 87; refine (eqEl_R _ _ _ _ s _ cr0 cr1 dr0 dr1 (HLN.out k s hs).1 (HLN.out k s hs).2).mono ?_; rintro e w7 ⟨rfl, b7⟩; have ck0 := World.grownBy.cell (ext_below b7) (show wr.drew.cell? _ = _ from c0) (by simp); have ck1 := World.grownBy.cell (ext_below b7) (show wr.drew.cell? _ = _ from c1) (by simp); have ck2 := World.grownBy.cell (ext_below b7) (show wr.drew.cell? _ = _ from c2) (by simp); have ck3 := World.grownBy.cell (ext_below b7) (show wr.drew.cell? _ = _ from c3) (by simp); have dk0 := World.grownBy.cell (ext_below b7) (show wr.drew.cell? _ = _ from d0) (by simp); have dk1 := World.grownBy.cell (ext_below b7) (show wr.drew.cell? _ = _ from d1) (by simp); have dk2 := World.grownBy.cell (ext_below b7) (show wr.drew.cell? _ = _ from d2) (by simp); have dk3 := World.grownBy.cell (ext_below b7) (show wr.drew.cell? _ = _ from d3) (by simp)))
      all_goals
        go_wp2
        go_roundw
        case rel => exact ⟨k + 1, by omega, by go_num, hb5.trans (b7.mono hb5.size)⟩
        case measure => simp [intOf]; omega
    · have hkn : k = n := by omega
      subst hkn
      go_wp2
      go_ret
      exact ⟨rfl, hb⟩

end Go.Proofs.YtnklnhnjmikooaaGreat

namespace Go.Proofs.YtnklnhnjmikooaaGreat
open Go.RowKit

set_option maxHeartbeats 1000000 in
theorem eqEl_T (kv kv' : Value) (s : DTomb) (w : World) (rk : RV w kv s.key) (rk' : RV w kv' s.key) (hk : s.key.length ≤ 2097152) :
    Calls Tryz.prog 88 #[.agg #[kv, .int .i64 s.index], .agg #[kv', .int .i64 s.index]] w fun e w' => e = .returned (.bool true) ∧ Below w.heap.size w w' := by
  have hE : ∀ w : World, ∀ o, Ext w (w.alloc o) := fun w o => World.grownBy_alloc _ _ _
  have x2 : ∀ a b, Ext w ((w.alloc a).alloc b) := fun a b => (hE _ _).tr (hE _ _)
  go_enter Tryz.func88, Tryz.ntmps88
  go_wp2_with fail
  refine (eqV_yes kv kv' s.key _ (rk.ext (x2 _ _)) (rk'.ext (x2 _ _)) hk).mono ?_
  rintro e w1 ⟨rfl, q1, rfl⟩
  go_wp2
  go_ret
  exact ⟨rfl, below_drewN (((Below.refl _ w).alloc (Nat.le_refl _) _).alloc (by simp) _) _⟩

set_option maxHeartbeats 2000000 in
theorem eqS_T (v u : Value) (ss : List DTomb) (w : World) (h : VTombs w v ss) (k : VTombs w u ss) (hn : ss.length ≤ 1048576) (hlen : ∀ (i : Nat) (s : DTomb), ss[i]? = some s → s.key.length ≤ 2097152) :
    Calls Tryz.prog 42 #[v, u] w fun e w' => e = .returned (.bool true) ∧ Below w.heap.size w w' := by
  obtain ⟨C, ⟨a, cap, rfl, h1, h2, h3⟩, hC⟩ := h
  obtain ⟨D, ⟨a', cap', rfl, h1', h2', h3'⟩, hD⟩ := k
  have HC : Hid (∀ i r, ss[i]? = some r → RV w (C i 0) r.key ∧ C i 1 = .int .i64 r.index) := hC
  have HD : Hid (∀ i r, ss[i]? = some r → RV w (D i 0) r.key ∧ D i 1 = .int .i64 r.index) := hD
  clear hC hD
  obtain ⟨n, hnn⟩ : ∃ n, n = ss.length := ⟨_, rfl⟩
  rw [← hnn] at h1 h3 h1' h3' hn ⊢
  have HN : Hid (n = ss.length) := hnn
  clear hnn
  have H3 : Hid (0 < n → ∃ b o, a = some ⟨b, o, none⟩ ∧ b < w.heap.size ∧ ∀ i, i < n → ∀ j, j < 2 → w.cell? ⟨b, o + i * 2 + j, none⟩ = some (C i j)) := h3
  have H3' : Hid (0 < n → ∃ b o, a' = some ⟨b, o, none⟩ ∧ b < w.heap.size ∧ ∀ i, i < n → ∀ j, j < 2 → w.cell? ⟨b, o + i * 2 + j, none⟩ = some (D i j)) := h3'
  clear h3 h3'
  have HLN : Hid (∀ (i : Nat) (s : DTomb), ss[i]? = some s → s.key.length ≤ 2097152) := hlen
  clear hlen
  have hml2 : (n : Int) ≤ 1048576 := by omega
  go_enter Tryz.func42, Tryz.ntmps42
  go_wp2
  go_loopw [5] (fun i wr => ∃ k : Nat, k ≤ n ∧ i = .int .i64 k ∧ Below w.heap.size w wr) (fun i _ => n - (intOf i).toNat)
  case atStart => exact ⟨0, Nat.zero_le _, rfl, Below.refl _ _⟩
  case round =>
    obtain ⟨k, hk, rfl, hb⟩ := hrel
    by_cases hlt : k < n
    · obtain ⟨b, o, rfl, hbl, hc⟩ := H3.out (by omega)
      obtain ⟨b', o', rfl, hbl', hc'⟩ := H3'.out (by omega)
      obtain ⟨s, hs⟩ : ∃ s, ss[k]? = some s := ⟨_, List.getElem?_eq_getElem (by have := HN.out; omega)⟩
      obtain ⟨e0, e1⟩ := HC.out k s hs
      obtain ⟨y0, y1⟩ := HD.out k s hs
      have X2 : Ext w wr.drew := (ext_below hb).tr (ext_drewN wr 1)
      have c0 := World.grownBy.cell (ext_below hb) (hc k hlt 0 (by omega)) (by simp)
      have cr0 := e0.ext X2
      obtain ⟨ca0, cp0, cx0, _, _, _⟩ := e0
      rw [cx0] at cr0 c0
      rw [Nat.add_zero] at c0
      have c1 := World.grownBy.cell (ext_below hb) (hc k hlt 1 (by omega)) (by simp)
      rw [e1] at c1
      have d0 := World.grownBy.cell (ext_below hb) (hc' k hlt 0 (by omega)) (by simp)
      have dr0 := y0.ext X2
      obtain ⟨da0, dp0, dx0, _, _, _⟩ := y0
      rw [dx0] at dr0 d0
      rw [Nat.add_zero] at d0
      have d1 := World.grownBy.cell (ext_below hb) (hc' k hlt 1 (by omega)) (by simp)
      rw [y1] at d1
      have hlt' : (k : Int) < (n : Int) := by omega
      have hb5 : Below w.heap.size w wr.drew := below_drewN hb 1
      clear hc hc' X2
      go_wp2_with fail
      go_region_held3 (fun w' => w'.cell? ⟨b, o + k * 2, none⟩ = some (.slice ca0 s.key.length cp0) ∧ w'.cell? ⟨b, o + k * 2 + 1, none⟩ = some (.int .i64 s.index) ∧ w'.cell? ⟨b', o' + k * 2, none⟩ = some (.slice da0 s.key.length dp0) ∧ w'.cell? ⟨b', o' + k * 2 + 1, none⟩ = some (.int .i64 s.index)) (simp [*])
        ((go_at_call 88; refine (eqEl_T _ _ s _ cr0 dr0 (HLN.out k s hs)).mono ?_; rintro e w7 ⟨rfl, b7⟩; have ck0 := World.grownBy.cell (ext_below b7) (show wr.drew.cell? _ = _ from c0) (by simp); have ck1 := World.grownBy.cell (ext_below b7) (show wr.drew.cell? _ = _ from c1) (by simp); have dk0 := World.grownBy.cell (ext_below b7) (show wr.drew.cell? _ = _ from d0) (by simp); have dk1 := World.grownBy.cell (ext_below b7) (show wr.drew.cell? _ = _ from d1) (by simp)))
      all_goals
        go_wp2
        go_roundw
        case rel => exact ⟨k + 1, by omega, by go_num, hb5.trans (b7.mono hb5.size)⟩
        case measure => simp [intOf]; omega
    · have hkn : k = n := by omega
      subst hkn
      go_wp2
      go_ret
      exact ⟨rfl, hb⟩

end Go.Proofs.YtnklnhnjmikooaaGreat

namespace Go.Proofs.YtnklnhnjmikooaaGreat
open Go.RowKit

/-- The bytes of a state's texts are bytes. -/
def rngSt (S : DState) : Prop := (∀ (i : Nat) (r : DRow), S.rows[i]? = some r → (∀ x ∈ r.key, 0 ≤ x ∧ x ≤ 255) ∧ (∀ x ∈ r.val, 0 ≤ x ∧ x ≤ 255)) ∧ (∀ (i : Nat) (r : DTomb), S.tombs[i]? = some r → ∀ x ∈ r.key, 0 ≤ x ∧ x ≤ 255)
theorem rngSt_of {w : World} {v : Value} {S : DState} (h : VState w v S) : rngSt S := by
  obtain ⟨rv, tv, sv, lv, _, ⟨C, _, hC⟩, ⟨D, _, hD⟩, _, _⟩ := h
  exact ⟨fun i r hr => ⟨rv_rng (hC i r hr).1, rv_rng (hC i r hr).2.1⟩, fun i r hr => rv_rng (hD i r hr).1⟩

/-- Lengths within a size. -/
structure LenSt (S : DState) (B : Nat) : Prop where
  rows : S.rows.length ≤ B
  tombs : S.tombs.length ≤ B
  sess : S.sess.length ≤ B
  lasts : S.lasts.length ≤ B
  row : ∀ (i : Nat) (r : DRow), S.rows[i]? = some r → r.key.length ≤ B ∧ r.val.length ≤ B
  tomb : ∀ (i : Nat) (r : DTomb), S.tombs[i]? = some r → r.key.length ≤ B
theorem lenSt_of {S : DState} {B : Nat} (h : zS S ≤ B) : LenSt S B := by
  unfold zS sR sT at h
  refine ⟨by omega, by omega, by omega, by omega, fun i r hr => ?_, fun i r hr => ?_⟩
  · have := sum_mem zR S.rows i r hr
    unfold zR at *
    omega
  · have := sum_mem zT S.tombs i r hr
    unfold zT at *
    omega
theorem LenSt.mono {S : DState} {B B' : Nat} (h : LenSt S B) (hb : B ≤ B') : LenSt S B' :=
  ⟨Nat.le_trans h.rows hb, Nat.le_trans h.tombs hb, Nat.le_trans h.sess hb, Nat.le_trans h.lasts hb, fun i r hr => ⟨Nat.le_trans (h.row i r hr).1 hb, Nat.le_trans (h.row i r hr).2 hb⟩, fun i r hr => Nat.le_trans (h.tomb i r hr) hb⟩

/-- The block g holds the elements of a list that the call made; their texts lie behind it. -/
def OR (w : World) (g : Nat) (ss : List DRow) : Prop := ∃ F, Blk w g 116 4 ss.length ss.length F ∧ ∀ i s, ss[i]? = some s → Ow w (g + 1) (F i 0) s.key ∧ Ow w (g + 1) (F i 1) s.val ∧ F i 2 = .int .i64 s.turned ∧ F i 3 = .int .i64 s.holder
theorem OR.grown {w w' : World} {g : Nat} {row : Option Nat} {ss : List DRow} (h : OR w g ss) (hg : w.grownBy w' row) (hx : ∀ x, row = some x → x < g) : OR w' g ss := by
  obtain ⟨F, hB, hF⟩ := h
  have KO : ∀ {v : Value} (xs : List Int), Ow w (g + 1) v xs → v.ownBlock = none ∨ v.ownBlock ≠ row := fun {v} xs o => by
    cases hv : v.ownBlock with
    | none => exact .inl rfl
    | some b =>
      right
      intro e
      have := (o.lt b hv).1
      have := hx b e.symm
      omega
  refine ⟨F, blk_kept hB (hg.block g (blk_lt hB) (fun e => ?_)), fun i s hi => ⟨(hF i s hi).1.kept hg (KO _ (hF i s hi).1), (hF i s hi).2.1.kept hg (KO _ (hF i s hi).2.1), (hF i s hi).2.2⟩⟩
  have := hx g e.symm
  omega
theorem OR.set {w : World} {g x j : Nat} {u : Value} {ss : List DRow} (h : OR w g ss) (hx : x < g) : OR (w.setCell ⟨x, j, none⟩ u) g ss := h.grown (set_grown w x j u) (fun y hy => by cases hy; exact hx)
theorem OR.ext {w w' : World} {g : Nat} {ss : List DRow} (h : OR w g ss) (e : Ext w w') : OR w' g ss := h.grown e (fun y hy => by cases hy)
/-- The block g holds the elements of a list that the call made; their texts lie behind it. -/
def OT (w : World) (g : Nat) (ss : List DTomb) : Prop := ∃ F, Blk w g 118 2 ss.length ss.length F ∧ ∀ i s, ss[i]? = some s → Ow w (g + 1) (F i 0) s.key ∧ F i 1 = .int .i64 s.index
theorem OT.grown {w w' : World} {g : Nat} {row : Option Nat} {ss : List DTomb} (h : OT w g ss) (hg : w.grownBy w' row) (hx : ∀ x, row = some x → x < g) : OT w' g ss := by
  obtain ⟨F, hB, hF⟩ := h
  have KO : ∀ {v : Value} (xs : List Int), Ow w (g + 1) v xs → v.ownBlock = none ∨ v.ownBlock ≠ row := fun {v} xs o => by
    cases hv : v.ownBlock with
    | none => exact .inl rfl
    | some b =>
      right
      intro e
      have := (o.lt b hv).1
      have := hx b e.symm
      omega
  refine ⟨F, blk_kept hB (hg.block g (blk_lt hB) (fun e => ?_)), fun i s hi => ⟨(hF i s hi).1.kept hg (KO _ (hF i s hi).1), (hF i s hi).2⟩⟩
  have := hx g e.symm
  omega
theorem OT.set {w : World} {g x j : Nat} {u : Value} {ss : List DTomb} (h : OT w g ss) (hx : x < g) : OT (w.setCell ⟨x, j, none⟩ u) g ss := h.grown (set_grown w x j u) (fun y hy => by cases hy; exact hx)
theorem OT.ext {w w' : World} {g : Nat} {ss : List DTomb} (h : OT w g ss) (e : Ext w w') : OT w' g ss := h.grown e (fun y hy => by cases hy)
/-- The block g holds the elements of a list that the call made; their texts lie behind it. -/
def OS (w : World) (g : Nat) (ss : List DSess) : Prop := ∃ F, Blk w g 121 2 ss.length ss.length F ∧ ∀ i s, ss[i]? = some s → F i 0 = .int .i64 s.id ∧ F i 1 = .bool s.del
theorem OS.grown {w w' : World} {g : Nat} {row : Option Nat} {ss : List DSess} (h : OS w g ss) (hg : w.grownBy w' row) (hx : ∀ x, row = some x → x < g) : OS w' g ss := by
  obtain ⟨F, hB, hF⟩ := h
  refine ⟨F, blk_kept hB (hg.block g (blk_lt hB) (fun e => ?_)), fun i s hi => hF i s hi⟩
  have := hx g e.symm
  omega
theorem OS.set {w : World} {g x j : Nat} {u : Value} {ss : List DSess} (h : OS w g ss) (hx : x < g) : OS (w.setCell ⟨x, j, none⟩ u) g ss := h.grown (set_grown w x j u) (fun y hy => by cases hy; exact hx)
theorem OS.ext {w w' : World} {g : Nat} {ss : List DSess} (h : OS w g ss) (e : Ext w w') : OS w' g ss := h.grown e (fun y hy => by cases hy)
/-- The block g holds the elements of a list that the call made; their texts lie behind it. -/
def OL (w : World) (g : Nat) (ss : List DLast) : Prop := ∃ F, Blk w g 125 4 ss.length ss.length F ∧ ∀ i s, ss[i]? = some s → F i 0 = .int .i64 s.client ∧ F i 1 = .int .i64 s.req ∧ F i 2 = .int .i64 s.code ∧ F i 3 = .int .i64 s.index
theorem OL.grown {w w' : World} {g : Nat} {row : Option Nat} {ss : List DLast} (h : OL w g ss) (hg : w.grownBy w' row) (hx : ∀ x, row = some x → x < g) : OL w' g ss := by
  obtain ⟨F, hB, hF⟩ := h
  refine ⟨F, blk_kept hB (hg.block g (blk_lt hB) (fun e => ?_)), fun i s hi => hF i s hi⟩
  have := hx g e.symm
  omega
theorem OL.set {w : World} {g x j : Nat} {u : Value} {ss : List DLast} (h : OL w g ss) (hx : x < g) : OL (w.setCell ⟨x, j, none⟩ u) g ss := h.grown (set_grown w x j u) (fun y hy => by cases hy; exact hx)
theorem OL.ext {w w' : World} {g : Nat} {ss : List DLast} (h : OL w g ss) (e : Ext w w') : OL w' g ss := h.grown e (fun y hy => by cases hy)
theorem OR.v {w : World} {g : Nat} {ss : List DRow} (h : OR w g ss) (hm : ss.length ≤ 1048576) (hr : ∀ (i : Nat) (r : DRow), ss[i]? = some r → (∀ x ∈ r.key, 0 ≤ x ∧ x ≤ 255) ∧ (∀ x ∈ r.val, 0 ≤ x ∧ x ≤ 255)) : VRows w (.slice (some ⟨g, 0, none⟩) ss.length ss.length) ss := by
  obtain ⟨F, hB, hF⟩ := h
  exact ⟨F, blk_SL hB (by unfold maxLen; omega), fun i r hi => ⟨(hF i r hi).1.rv (hr i r hi).1, (hF i r hi).2.1.rv (hr i r hi).2, (hF i r hi).2.2⟩⟩
theorem OT.v {w : World} {g : Nat} {ss : List DTomb} (h : OT w g ss) (hm : ss.length ≤ 1048576) (hr : ∀ (i : Nat) (r : DTomb), ss[i]? = some r → (∀ x ∈ r.key, 0 ≤ x ∧ x ≤ 255)) : VTombs w (.slice (some ⟨g, 0, none⟩) ss.length ss.length) ss := by
  obtain ⟨F, hB, hF⟩ := h
  exact ⟨F, blk_SL hB (by unfold maxLen; omega), fun i r hi => ⟨(hF i r hi).1.rv (hr i r hi), (hF i r hi).2⟩⟩
theorem OS.v {w : World} {g : Nat} {ss : List DSess} (h : OS w g ss) (hm : ss.length ≤ 1048576) : VSess w (.slice (some ⟨g, 0, none⟩) ss.length ss.length) ss := by
  obtain ⟨F, hB, hF⟩ := h
  exact ⟨F, blk_SL hB (by unfold maxLen; omega), hF⟩
theorem OL.v {w : World} {g : Nat} {ss : List DLast} (h : OL w g ss) (hm : ss.length ≤ 1048576) : VLasts w (.slice (some ⟨g, 0, none⟩) ss.length ss.length) ss := by
  obtain ⟨F, hB, hF⟩ := h
  exact ⟨F, blk_SL hB (by unfold maxLen; omega), hF⟩

/-- A state that the call made, in memory from block base on. -/
def OSt (w : World) (base gr gt gs gl : Nat) (S : DState) : Prop := (base ≤ gr ∧ OR w gr S.rows) ∧ (base ≤ gt ∧ OT w gt S.tombs) ∧ (base ≤ gs ∧ OS w gs S.sess) ∧ (base ≤ gl ∧ OL w gl S.lasts)
/-- The value of such a state. -/
def stV (gr gt gs gl : Nat) (S : DState) : Value := .agg #[.int .i64 S.index, .slice (some ⟨gr, 0, none⟩) S.rows.length S.rows.length, .slice (some ⟨gt, 0, none⟩) S.tombs.length S.tombs.length, .int .i64 S.lost, .slice (some ⟨gs, 0, none⟩) S.sess.length S.sess.length, .slice (some ⟨gl, 0, none⟩) S.lasts.length S.lasts.length]
theorem OSt.v {w : World} {base gr gt gs gl : Nat} {S : DState} (h : OSt w base gr gt gs gl S) (hl : LenSt S 1048576) (hr : rngSt S) : VState w (stV gr gt gs gl S) S :=
  ⟨_, _, _, _, rfl, h.1.2.v hl.rows hr.1, h.2.1.2.v hl.tombs hr.2, h.2.2.1.2.v hl.sess, h.2.2.2.2.v hl.lasts⟩
theorem OSt.ext {w w' : World} {base gr gt gs gl : Nat} {S : DState} (h : OSt w base gr gt gs gl S) (e : Ext w w') : OSt w' base gr gt gs gl S :=
  ⟨⟨h.1.1, h.1.2.ext e⟩, ⟨h.2.1.1, h.2.1.2.ext e⟩, ⟨h.2.2.1.1, h.2.2.1.2.ext e⟩, ⟨h.2.2.2.1, h.2.2.2.2.ext e⟩⟩

set_option maxHeartbeats 4000000 in
theorem toSt (v : Value) (S : DState) (w : World) (h : VState w v S) (hl : LenSt S 1048576) :
    Calls Tryz.prog 9 #[v] w fun e w' => ∃ gr gt gs gl, e = .returned (stV gr gt gs gl S) ∧ OSt w' w.heap.size gr gt gs gl S ∧ Below w.heap.size w w' := by
  have hE : ∀ w : World, ∀ o, Ext w (w.alloc o) := fun w o => World.grownBy_alloc _ _ _
  have x3 : ∀ a b c, Ext w (((w.alloc a).alloc b).alloc c) := fun a b c => ((hE _ _).tr (hE _ _)).tr (hE _ _)
  obtain ⟨rv, tv, sv, lv, rfl, hr, ht, hs, hll⟩ := h
  go_enter Tryz.func9, Tryz.ntmps9
  go_wp2_with fail
  have B0 : ∀ a b c, Below w.heap.size w (((w.alloc a).alloc b).alloc c) := fun a b c => (((Below.refl _ w).alloc (Nat.le_refl _) _).alloc (by simp) _).alloc (by simp; omega) _
  refine (toS_R rv S.rows _ (hr.ext (x3 _ _ _)) hl.rows hl.row).mono ?_
  rintro e w1 ⟨F1, rfl, k1, f1, b1⟩
  have hs1 : w.heap.size + 3 ≤ w1.heap.size := by have := b1.size; simp at this; omega
  have PA := below_blk b1 (by simp; omega) (h3_0 w _ _ _)
  have RA := below_blk b1 (by simp) (h3_1 w _ _ _)
  have TA := below_blk b1 (by simp) (h3_2 w _ _ _)
  have BA := (B0 _ _ _).trans (b1.mono (by simp; omega))
  have oR : OR w1 (w.heap.size + 1 + 1 + 1) S.rows := ⟨F1, by simpa using k1, by simpa using f1⟩
  have e1 : (((w.alloc (.cells #[.int .i64 S.index, rv, tv, .int .i64 S.lost, sv, lv] 32 (0, 0))).alloc (.cells #[.int .i64 0, .slice none 0 0, .slice none 0 0, .int .i64 0, .slice none 0 0, .slice none 0 0] 48 (0, 0))).alloc (.cells #[.int .i64 S.index, .slice none 0 0, .slice none 0 0, .int .i64 0, .slice none 0 0, .slice none 0 0] 48 (0, 0))).heap.size = w.heap.size + 1 + 1 + 1 := by simp
  rw [e1]
  clear k1 f1 b1 e1
  obtain ⟨q0, h0⟩ := at_block TA 1 _ rfl
  have pp := (at_block PA 2 _ rfl).1
  go_wp2_with fail
  have TB0 : (w1.setCell ⟨w.heap.size + 1 + 1, 1, none⟩ (.slice (some ⟨w.heap.size + 1 + 1 + 1, 0, none⟩) S.rows.length S.rows.length)).heap[w.heap.size + 1 + 1]? = some (.cells #[.int .i64 S.index, .slice (some ⟨w.heap.size + 1 + 1 + 1, 0, none⟩) S.rows.length S.rows.length, .slice none 0 0, .int .i64 0, .slice none 0 0, .slice none 0 0] 48 (0, 0)) := (set_block TA 1 (.slice (some ⟨w.heap.size + 1 + 1 + 1, 0, none⟩) S.rows.length S.rows.length))
  have PB0 := (set_other (w.heap.size + 1 + 1) 1 (.slice (some ⟨w.heap.size + 1 + 1 + 1, 0, none⟩) S.rows.length S.rows.length) (by omega) PA)
  have RB0 := (set_other (w.heap.size + 1 + 1) 1 (.slice (some ⟨w.heap.size + 1 + 1 + 1, 0, none⟩) S.rows.length S.rows.length) (by omega) RA)
  have BB0 : Below w.heap.size w (w1.setCell ⟨w.heap.size + 1 + 1, 1, none⟩ (.slice (some ⟨w.heap.size + 1 + 1 + 1, 0, none⟩) S.rows.length S.rows.length)) := (BA.setCell (by simp; omega) _)
  have zB : w.heap.size + 3 ≤ (w1.setCell ⟨w.heap.size + 1 + 1, 1, none⟩ (.slice (some ⟨w.heap.size + 1 + 1 + 1, 0, none⟩) S.rows.length S.rows.length)).heap.size := by simp; omega
  have oRB := (oR.set (x := w.heap.size + 1 + 1) (j := 1) (u := .slice (some ⟨w.heap.size + 1 + 1 + 1, 0, none⟩) S.rows.length S.rows.length) (by omega))
  generalize (w1.setCell ⟨w.heap.size + 1 + 1, 1, none⟩ (.slice (some ⟨w.heap.size + 1 + 1 + 1, 0, none⟩) S.rows.length S.rows.length)) = WB at TB0 PB0 RB0 BB0 zB oRB ⊢
  clear oR q0 h0 pp PA RA TA BA
  refine (toS_T tv S.tombs WB (ht.ext (ext_below BB0)) hl.tombs hl.tomb).mono ?_
  rintro e w2 ⟨FB, rfl, kB, fB, bB⟩
  have PB := below_blk bB (by omega) PB0
  have RB := below_blk bB (by omega) RB0
  have TB := below_blk bB (by omega) TB0
  have BB := BB0.trans (bB.mono BB0.size)
  have oT : OT w2 WB.heap.size S.tombs := ⟨FB, kB, fB⟩
  have yB := bB.size
  generalize WB.heap.size = gB at zB yB oT ⊢
  have oR := oRB.ext (ext_below bB)
  clear kB fB bB TB0 PB0 RB0 BB0 oRB
  obtain ⟨q0, h0⟩ := at_block TB 2 _ rfl
  have pp := (at_block PB 4 _ rfl).1
  have p3 := (at_block PB 3 _ rfl).1
  obtain ⟨q3, h3⟩ := at_block TB 3 _ rfl
  go_wp2_with fail
  have TC0 : ((w2.setCell ⟨w.heap.size + 1 + 1, 2, none⟩ (.slice (some ⟨gB, 0, none⟩) S.tombs.length S.tombs.length)).setCell ⟨w.heap.size + 1 + 1, 3, none⟩ (.int .i64 S.lost)).heap[w.heap.size + 1 + 1]? = some (.cells #[.int .i64 S.index, .slice (some ⟨w.heap.size + 1 + 1 + 1, 0, none⟩) S.rows.length S.rows.length, .slice (some ⟨gB, 0, none⟩) S.tombs.length S.tombs.length, .int .i64 S.lost, .slice none 0 0, .slice none 0 0] 48 (0, 0)) := (set_block (set_block TB 2 (.slice (some ⟨gB, 0, none⟩) S.tombs.length S.tombs.length)) 3 (.int .i64 S.lost))
  have PC0 := (set_other (w.heap.size + 1 + 1) 3 (.int .i64 S.lost) (by omega) (set_other (w.heap.size + 1 + 1) 2 (.slice (some ⟨gB, 0, none⟩) S.tombs.length S.tombs.length) (by omega) PB))
  have RC0 := (set_other (w.heap.size + 1 + 1) 3 (.int .i64 S.lost) (by omega) (set_other (w.heap.size + 1 + 1) 2 (.slice (some ⟨gB, 0, none⟩) S.tombs.length S.tombs.length) (by omega) RB))
  have BC0 : Below w.heap.size w ((w2.setCell ⟨w.heap.size + 1 + 1, 2, none⟩ (.slice (some ⟨gB, 0, none⟩) S.tombs.length S.tombs.length)).setCell ⟨w.heap.size + 1 + 1, 3, none⟩ (.int .i64 S.lost)) := ((BB.setCell (by simp; omega) _).setCell (by simp; omega) _)
  have zC : w.heap.size + 3 ≤ ((w2.setCell ⟨w.heap.size + 1 + 1, 2, none⟩ (.slice (some ⟨gB, 0, none⟩) S.tombs.length S.tombs.length)).setCell ⟨w.heap.size + 1 + 1, 3, none⟩ (.int .i64 S.lost)).heap.size := by simp; omega
  have oRC := ((oR.set (x := w.heap.size + 1 + 1) (j := 2) (u := .slice (some ⟨gB, 0, none⟩) S.tombs.length S.tombs.length) (by omega)).set (x := w.heap.size + 1 + 1) (j := 3) (u := .int .i64 S.lost) (by omega))
  have oTC := ((oT.set (x := w.heap.size + 1 + 1) (j := 2) (u := .slice (some ⟨gB, 0, none⟩) S.tombs.length S.tombs.length) (by omega)).set (x := w.heap.size + 1 + 1) (j := 3) (u := .int .i64 S.lost) (by omega))
  generalize ((w2.setCell ⟨w.heap.size + 1 + 1, 2, none⟩ (.slice (some ⟨gB, 0, none⟩) S.tombs.length S.tombs.length)).setCell ⟨w.heap.size + 1 + 1, 3, none⟩ (.int .i64 S.lost)) = WC at TC0 PC0 RC0 BC0 zC oRC oTC ⊢
  clear oR oT q0 h0 pp PB RB TB BB p3 q3 h3
  refine (toS_S sv S.sess WC (hs.ext (ext_below BC0)) hl.sess).mono ?_
  rintro e w3 ⟨FC, rfl, kC, fC, bC⟩
  have PC := below_blk bC (by omega) PC0
  have RC := below_blk bC (by omega) RC0
  have TC := below_blk bC (by omega) TC0
  have BC := BC0.trans (bC.mono BC0.size)
  have oS : OS w3 WC.heap.size S.sess := ⟨FC, kC, fC⟩
  have yC := bC.size
  generalize WC.heap.size = gC at zC yC oS ⊢
  have oR := oRC.ext (ext_below bC)
  have oT := oTC.ext (ext_below bC)
  clear kC fC bC TC0 PC0 RC0 BC0 oRC oTC
  obtain ⟨q0, h0⟩ := at_block TC 4 _ rfl
  have pp := (at_block PC 5 _ rfl).1
  go_wp2_with fail
  have TD0 : (w3.setCell ⟨w.heap.size + 1 + 1, 4, none⟩ (.slice (some ⟨gC, 0, none⟩) S.sess.length S.sess.length)).heap[w.heap.size + 1 + 1]? = some (.cells #[.int .i64 S.index, .slice (some ⟨w.heap.size + 1 + 1 + 1, 0, none⟩) S.rows.length S.rows.length, .slice (some ⟨gB, 0, none⟩) S.tombs.length S.tombs.length, .int .i64 S.lost, .slice (some ⟨gC, 0, none⟩) S.sess.length S.sess.length, .slice none 0 0] 48 (0, 0)) := (set_block TC 4 (.slice (some ⟨gC, 0, none⟩) S.sess.length S.sess.length))
  have PD0 := (set_other (w.heap.size + 1 + 1) 4 (.slice (some ⟨gC, 0, none⟩) S.sess.length S.sess.length) (by omega) PC)
  have RD0 := (set_other (w.heap.size + 1 + 1) 4 (.slice (some ⟨gC, 0, none⟩) S.sess.length S.sess.length) (by omega) RC)
  have BD0 : Below w.heap.size w (w3.setCell ⟨w.heap.size + 1 + 1, 4, none⟩ (.slice (some ⟨gC, 0, none⟩) S.sess.length S.sess.length)) := (BC.setCell (by simp; omega) _)
  have zD : w.heap.size + 3 ≤ (w3.setCell ⟨w.heap.size + 1 + 1, 4, none⟩ (.slice (some ⟨gC, 0, none⟩) S.sess.length S.sess.length)).heap.size := by simp; omega
  have oRD := (oR.set (x := w.heap.size + 1 + 1) (j := 4) (u := .slice (some ⟨gC, 0, none⟩) S.sess.length S.sess.length) (by omega))
  have oTD := (oT.set (x := w.heap.size + 1 + 1) (j := 4) (u := .slice (some ⟨gC, 0, none⟩) S.sess.length S.sess.length) (by omega))
  have oSD := (oS.set (x := w.heap.size + 1 + 1) (j := 4) (u := .slice (some ⟨gC, 0, none⟩) S.sess.length S.sess.length) (by omega))
  generalize (w3.setCell ⟨w.heap.size + 1 + 1, 4, none⟩ (.slice (some ⟨gC, 0, none⟩) S.sess.length S.sess.length)) = WD at TD0 PD0 RD0 BD0 zD oRD oTD oSD ⊢
  clear oR oT oS q0 h0 pp PC RC TC BC
  refine (toS_L lv S.lasts WD (hll.ext (ext_below BD0)) hl.lasts).mono ?_
  rintro e w4 ⟨FD, rfl, kD, fD, bD⟩
  have PD := below_blk bD (by omega) PD0
  have RD := below_blk bD (by omega) RD0
  have TD := below_blk bD (by omega) TD0
  have BD := BD0.trans (bD.mono BD0.size)
  have oL : OL w4 WD.heap.size S.lasts := ⟨FD, kD, fD⟩
  have yD := bD.size
  generalize WD.heap.size = gD at zD yD oL ⊢
  have oR := oRD.ext (ext_below bD)
  have oT := oTD.ext (ext_below bD)
  have oS := oSD.ext (ext_below bD)
  clear kD fD bD TD0 PD0 RD0 BD0 oRD oTD oSD
  obtain ⟨q0, h0⟩ := at_block TD 0 _ rfl
  obtain ⟨q1, h1⟩ := at_block TD 1 _ rfl
  obtain ⟨q2, h2⟩ := at_block TD 2 _ rfl
  obtain ⟨q3, h3⟩ := at_block TD 3 _ rfl
  obtain ⟨q4, h4⟩ := at_block TD 4 _ rfl
  obtain ⟨q5, h5⟩ := at_block TD 5 _ rfl
  obtain ⟨r0, y0⟩ := at_block RD 0 _ rfl
  obtain ⟨r1, y1⟩ := at_block RD 1 _ rfl
  obtain ⟨r2, y2⟩ := at_block RD 2 _ rfl
  obtain ⟨r3, y3⟩ := at_block RD 3 _ rfl
  obtain ⟨r4, y4⟩ := at_block RD 4 _ rfl
  obtain ⟨r5, y5⟩ := at_block RD 5 _ rfl
  go_wp2
  refine bodyPost_ret (v := stV (w.heap.size + 1 + 1 + 1) gB gC gD S) (by simp [stV, results, Tryz.results9, go_sem, r0, r1, r2, r3, r4, r5]) rfl ?_
  refine ⟨_, _, _, _, rfl, ⟨⟨by omega, ?_⟩, ⟨by omega, ?_⟩, ⟨by omega, ?_⟩, ⟨by omega, ?_⟩⟩, ?_⟩
  · repeat (refine OR.set ?_ (by omega))
    exact oR
  · repeat (refine OT.set ?_ (by omega))
    exact oT
  · repeat (refine OS.set ?_ (by omega))
    exact oS
  · repeat (refine OL.set ?_ (by omega))
    exact oL
  · repeat (refine Below.setCell ?_ (by simp <;> omega) _)
    exact BD
set_option maxHeartbeats 2000000 in
theorem eqSt (v u : Value) (S : DState) (w : World) (h : VState w v S) (k : VState w u S) (hl : LenSt S 1048576) :
    Calls Tryz.prog 12 #[v, u] w fun e w' => e = .returned (.bool true) ∧ Below w.heap.size w w' := by
  have hE : ∀ w : World, ∀ o, Ext w (w.alloc o) := fun w o => World.grownBy_alloc _ _ _
  have x2 : ∀ a b, Ext w ((w.alloc a).alloc b) := fun a b => (hE _ _).tr (hE _ _)
  have B0 : ∀ a b, Below w.heap.size w ((w.alloc a).alloc b) := fun a b => ((Below.refl _ w).alloc (Nat.le_refl _) _).alloc (by simp) _
  have hl2 := hl.mono (B' := 2097152) (by omega)
  obtain ⟨rv, tv, sv, lv, rfl, hr, ht, hs, hll⟩ := h
  obtain ⟨rv', tv', sv', lv', rfl, hr', ht', hs', hll'⟩ := k
  go_enter Tryz.func12, Tryz.ntmps12
  go_wp2_with fail
  refine (eqS_R rv rv' S.rows _ (hr.ext (x2 _ _)) (hr'.ext (x2 _ _)) hl.rows hl2.row).mono ?_
  rintro e w1 ⟨rfl, b1⟩
  have PA := below_blk (k := w.heap.size) b1 (by simp; omega) ((Below.heap_alloc (w.alloc _) _ w.heap.size (by simp)).trans (heap_alloc_new w _))
  have QA := below_blk b1 (by simp) (heap_alloc_new (w.alloc (.cells #[.int .i64 S.index, rv, tv, .int .i64 S.lost, sv, lv] 48 (0, 0))) (.cells #[.int .i64 S.index, rv', tv', .int .i64 S.lost, sv', lv'] 48 (0, 0)))
  rw [show (w.alloc (.cells #[.int .i64 S.index, rv, tv, .int .i64 S.lost, sv, lv] 48 (0, 0))).heap.size = w.heap.size + 1 by simp] at QA
  have z1 : w.heap.size + 2 ≤ w1.heap.size := by have := b1.size; simp at this; omega
  have B1 := (B0 _ _).trans (b1.mono (by simp; omega))
  clear b1
  have p2 := (at_block PA 2 _ rfl).1
  have q2 := (at_block QA 2 _ rfl).1
  go_wp2_with fail
  refine (eqS_T tv tv' S.tombs _ (ht.ext (ext_below B1)) (ht'.ext (ext_below B1)) hl.tombs hl2.tomb).mono ?_
  rintro e w2 ⟨rfl, b2⟩
  have PB := below_blk b2 (by omega) PA
  have QB := below_blk b2 (by omega) QA
  have B2 := B1.trans (b2.mono B1.size)
  have z2 := Nat.le_trans z1 b2.size
  clear b2 p2 q2
  have p3 := (at_block PB 3 _ rfl).1
  have q3 := (at_block QB 3 _ rfl).1
  have p4 := (at_block PB 4 _ rfl).1
  have q4 := (at_block QB 4 _ rfl).1
  go_wp2_with fail
  refine (eqS_S sv sv' S.sess _ (hs.ext (ext_below B2)) (hs'.ext (ext_below B2)) hl.sess).mono ?_
  rintro e w3 ⟨rfl, b3⟩
  have PC := below_blk b3 (by omega) PB
  have QC := below_blk b3 (by omega) QB
  have B3 := B2.trans (b3.mono B2.size)
  have z3 := Nat.le_trans z2 b3.size
  clear b3 p3 q3 p4 q4
  have p5 := (at_block PC 5 _ rfl).1
  have q5 := (at_block QC 5 _ rfl).1
  go_wp2_with fail
  refine (eqS_L lv lv' S.lasts _ (hll.ext (ext_below B3)) (hll'.ext (ext_below B3)) hl.lasts).mono ?_
  rintro e w4 ⟨rfl, b4⟩
  have PD := below_blk b4 (by omega) PC
  have QD := below_blk b4 (by omega) QC
  have B4 := B3.trans (b4.mono B3.size)
  have z4 := Nat.le_trans z3 b4.size
  clear b4 p5 q5
  go_wp2
  go_ret
  exact ⟨rfl, B4⟩

end Go.Proofs.YtnklnhnjmikooaaGreat

namespace Go.Proofs.YtnklnhnjmikooaaGreat
open Go.RowKit

/-- Of the blocks that lay there only some of those from lo up to hi have turned: rows of bytes (their sizes have not), and the block og. -/
structure Mk (lo hi : Nat) (og : Option Nat) (w w' : World) : Prop where
  os : w'.os = w.os
  tape : w'.tape = w.tape
  output : w'.output = w.output
  size : w.heap.size ≤ w'.heap.size
  out : ∀ k, k < w.heap.size → (k < lo ∨ hi ≤ k) → w'.heap[k]? = w.heap[k]?
  byt : ∀ (k : Nat) (cur : Array Value), w.heap[k]? = some (.cells cur 5 (0, 0)) → ∃ cur' : Array Value, w'.heap[k]? = some (.cells cur' 5 (0, 0)) ∧ cur'.size = cur.size
  oth : ∀ (k : Nat) (cur : Array Value) (t : TypeId), t ≠ 5 → some k ≠ og → w.heap[k]? = some (.cells cur t (0, 0)) → w'.heap[k]? = some (.cells cur t (0, 0))

theorem Mk.re (lo hi : Nat) (og : Option Nat) (w : World) : Mk lo hi og w w := ⟨rfl, rfl, rfl, Nat.le_refl _, fun _ _ _ => rfl, fun _ cur h => ⟨cur, h, rfl⟩, fun _ _ _ _ _ h => h⟩
theorem Mk.tr {lo hi : Nat} {og : Option Nat} {a b c : World} (h : Mk lo hi og a b) (k : Mk lo hi og b c) : Mk lo hi og a c :=
  ⟨k.os.trans h.os, k.tape.trans h.tape, k.output.trans h.output, Nat.le_trans h.size k.size, fun i hi' ho => (k.out i (Nat.lt_of_lt_of_le hi' h.size) ho).trans (h.out i hi' ho),
   fun i cur hc => by
     obtain ⟨c1, h1, s1⟩ := h.byt i cur hc
     obtain ⟨c2, h2, s2⟩ := k.byt i c1 h1
     exact ⟨c2, h2, s2.trans s1⟩,
   fun i cur t ht ho hc => k.oth i cur t ht ho (h.oth i cur t ht ho hc)⟩
theorem Mk.some {lo hi : Nat} {og : Option Nat} {a b : World} (h : Mk lo hi none a b) : Mk lo hi og a b :=
  ⟨h.os, h.tape, h.output, h.size, h.out, h.byt, fun i cur t ht _ hc => h.oth i cur t ht (by simp) hc⟩

theorem mk_set {lo hi x j : Nat} {og : Option Nat} {w : World} {cur : Array Value} {t : TypeId} (u : Value) (hx : w.heap[x]? = some (.cells cur t (0, 0))) (h1 : lo ≤ x) (h2 : x < hi) (ht : t = 5 ∨ some x = og) : Mk lo hi og w (w.setCell ⟨x, j, none⟩ u) := by
  have hg := set_grown w x j u
  refine ⟨hg.os, hg.tape, hg.output, hg.size, fun k hk ho => hg.block k hk (by intro e; cases e; omega), fun k c hc => ?_, fun k c t' ht' ho hc => ?_⟩
  · by_cases e : k = x
    · subst e
      rw [hx] at hc
      cases hc
      exact ⟨_, set_block hx j u, by simp⟩
    · exact ⟨c, set_other x j u e hc, rfl⟩
  · by_cases e : k = x
    · subst e
      rw [hx] at hc
      cases hc
      rcases ht with rfl | rfl
      · exact absurd rfl ht'
      · exact absurd rfl ho
    · exact set_other x j u e hc

/-- A slice of bytes that may be marked: it lies in a block from lo up to hi. -/
def WB (lo hi : Nat) (w : World) (v : Value) : Prop :=
  v = .slice none 0 0 ∨ ∃ (g n cap : Nat) (cur : Array Value), v = .slice (some ⟨g, 0, none⟩) n cap ∧ lo ≤ g ∧ g < hi ∧ n ≤ cap ∧ cur.size = cap ∧ w.heap[g]? = some (.cells cur 5 (0, 0)) ∧ n ≤ 1048576

theorem WB.mk {lo hi : Nat} {og : Option Nat} {w w' : World} {v : Value} (h : WB lo hi w v) (k : Mk lo hi og w w') : WB lo hi w' v := by
  rcases h with h | ⟨g, n, cap, cur, rfl, h1, h2, h3, h4, h5, h6⟩
  · exact .inl h
  · obtain ⟨c', e1, e2⟩ := k.byt g cur h5
    exact .inr ⟨g, n, cap, c', rfl, h1, h2, h3, e2.trans h4, e1, h6⟩
theorem WB.of {lo : Nat} {w : World} {v : Value} {xs : List Int} {base : Nat} (h : Ow w base v xs) (hb : lo ≤ base) (hl : xs.length ≤ 1048576) : WB lo w.heap.size w v := by
  rcases h.2 with ⟨rfl, _⟩ | ⟨g, cap, cur, rfl, h1, h2, h3, h4, h5, _⟩
  · exact .inl rfl
  · exact .inr ⟨g, _, cap, cur, rfl, by omega, (Array.getElem?_eq_some_iff.1 h2).1, h3, by omega, h2, hl⟩
theorem WB.grown {lo hi : Nat} {w w' : World} {v : Value} (h : WB lo hi w v) (k : Ext w w') : WB lo hi w' v := by
  rcases h with h | ⟨g, n, cap, cur, rfl, h1, h2, h3, h4, h5, h6⟩
  · exact .inl h
  · exact .inr ⟨g, n, cap, cur, rfl, h1, h2, h3, h4, (k.block g (Array.getElem?_eq_some_iff.1 h5).1 (by simp)).trans h5, h6⟩

set_option maxHeartbeats 1000000 in
theorem markW (lo hi : Nat) (og : Option Nat) (v : Value) (k : Int) (w : World) (h : WB lo hi w v) (hk0 : 0 ≤ k) (hk : k ≤ 1152921504606846976) :
    Calls Tryz.prog 57 #[v, .int .i64 k] w fun e w' => ∃ n : Nat, n ≤ 1048576 ∧ e = .returned (.int .i64 (k + n)) ∧ Mk lo hi og w w' := by
  rcases h with rfl | ⟨g, n, cap, cur, rfl, h1, h2, h3, h4, h5, h6⟩
  · go_enter Tryz.func57, Tryz.ntmps57
    go_wp2
    refine wp_loop_rounds 1 ?_
    rw [rounds_succ]
    go_wp2
    go_ret
    exact ⟨0, by omega, by simp, Mk.re _ _ _ _⟩
  · have H5 : Hid (w.heap[g]? = some (.cells cur 5 (0, 0))) := h5
    have H4 : Hid (cur.size = cap) := h4
    clear h4 h5
    go_enter Tryz.func57, Tryz.ntmps57
    go_wp2
    go_loopw [1, 5] (fun q i wr => ∃ j : Nat, j ≤ n ∧ i = .int .i64 j ∧ q = .int .i64 (k + j) ∧ Mk lo hi og w wr) (fun _ i _ => n - (intOf i).toNat)
    case atStart => exact ⟨0, Nat.zero_le _, rfl, by go_num, Mk.re _ _ _ _⟩
    case round =>
      obtain ⟨j, hj, rfl, rfl, hm⟩ := hrel
      by_cases hlt : j < n
      · obtain ⟨c', e1, e2⟩ := hm.byt g cur H5.out
        obtain ⟨uu, huu⟩ : ∃ uu, c'[j]? = some uu := ⟨_, Array.getElem?_eq_getElem (by have := H4.out; omega)⟩
        obtain ⟨hu, hf⟩ := at_block e1 j uu huu
        have HM : Hid (∀ u, Mk lo hi og w (wr.setCell ⟨g, j, none⟩ u)) := fun u => hm.tr (mk_set u e1 h1 h2 (.inl rfl))
        clear e1 e2 hm huu
        go_wp2
        go_roundw
        case rel => exact ⟨j + 1, by omega, by go_num, by go_num, HM.out _⟩
        case measure => simp [intOf]; omega
      · have hjn : j = n := by omega
        subst hjn
        go_wp2
        go_ret
        exact ⟨j, h6, rfl, hm⟩

/-- An array of n elements of k cells in the block g; of its cells those of the texts (tx) are known. -/
def Arr (w : World) (g : Nat) (t : TypeId) (k n : Nat) (tx : Nat → Prop) (F : Nat → Nat → Value) : Prop :=
  ∃ cur : Array Value, w.heap[g]? = some (.cells cur t (0, 0)) ∧ cur.size = n * k ∧ ∀ i, i < n → ∀ j, j < k → tx j → cur[i * k + j]? = some (F i j)
theorem Arr.of {w : World} {g : Nat} {t : TypeId} {k n : Nat} {tx : Nat → Prop} {F : Nat → Nat → Value} (h : Blk w g t k n n F) : Arr w g t k n tx F := by
  obtain ⟨cur, h1, h2, h3⟩ := h
  exact ⟨cur, h1, h2, fun i hi j hj _ => h3 i hi j hj⟩
theorem Arr.mk {lo hi : Nat} {og : Option Nat} {w w' : World} {g : Nat} {t : TypeId} {k n : Nat} {tx : Nat → Prop} {F : Nat → Nat → Value} (h : Arr w g t k n tx F) (m : Mk lo hi og w w') (ht : t ≠ 5) (hg : some g ≠ og) : Arr w' g t k n tx F := by
  obtain ⟨cur, h1, h2, h3⟩ := h
  exact ⟨cur, m.oth g cur t ht hg h1, h2, h3⟩
theorem Arr.ext {w w' : World} {g : Nat} {t : TypeId} {k n : Nat} {tx : Nat → Prop} {F : Nat → Nat → Value} (h : Arr w g t k n tx F) (m : Ext w w') : Arr w' g t k n tx F := by
  obtain ⟨cur, h1, h2, h3⟩ := h
  exact ⟨cur, (m.block g (Array.getElem?_eq_some_iff.1 h1).1 (by simp)).trans h1, h2, h3⟩
theorem Arr.cell {w : World} {g : Nat} {t : TypeId} {k n : Nat} {tx : Nat → Prop} {F : Nat → Nat → Value} (h : Arr w g t k n tx F) (i : Nat) (hi : i < n) (j : Nat) (hj : j < k) (ht : tx j) : w.cell? ⟨g, i * k + j, none⟩ = some (F i j) := by
  obtain ⟨cur, h1, h2, h3⟩ := h
  rw [cell_of_row w g _ cur t (0, 0) h1]
  exact h3 i hi j hj ht
theorem Arr.at {w : World} {g : Nat} {t : TypeId} {k n : Nat} {tx : Nat → Prop} {F : Nat → Nat → Value} (h : Arr w g t k n tx F) (x : Nat) (hx : x < n * k) : (∃ u, w.cell? ⟨g, x, none⟩ = some u) ∧ w.frozen? ⟨g, x, none⟩ = false := by
  obtain ⟨cur, h1, h2, _⟩ := h
  have := at_block h1 x cur[x] (Array.getElem?_eq_getElem (by omega))
  exact ⟨⟨_, this.1⟩, this.2⟩
theorem Arr.set {w : World} {g : Nat} {t : TypeId} {k n : Nat} {tx : Nat → Prop} {F : Nat → Nat → Value} (h : Arr w g t k n tx F) (i j : Nat) (hj : j < k) (ht : ¬ tx j) (u : Value) : Arr (w.setCell ⟨g, i * k + j, none⟩ u) g t k n tx F := by
  obtain ⟨cur, h1, h2, h3⟩ := h
  refine ⟨_, set_block h1 _ u, by simp [h2], fun i' hi' j' hj' ht' => ?_⟩
  rw [Array.getElem?_setIfInBounds, if_neg]
  · exact h3 i' hi' j' hj' ht'
  · intro e
    have e1 : (j + i * k) % k = (j' + i' * k) % k := by rw [Nat.add_comm j, Nat.add_comm j', e]
    rw [Nat.add_mul_mod_self_right, Nat.add_mul_mod_self_right, Nat.mod_eq_of_lt hj, Nat.mod_eq_of_lt hj'] at e1
    exact ht (e1 ▸ ht')
theorem Arr.mkset {lo hi : Nat} {w : World} {g : Nat} {t : TypeId} {k n : Nat} {tx : Nat → Prop} {F : Nat → Nat → Value} (h : Arr w g t k n tx F) (h1 : lo ≤ g) (h2 : g < hi) (x : Nat) (u : Value) : Mk lo hi (Option.some g) w (w.setCell ⟨g, x, none⟩ u) := by
  obtain ⟨cur, hc, _, _⟩ := h
  exact mk_set u hc h1 h2 (.inr rfl)

end Go.Proofs.YtnklnhnjmikooaaGreat

namespace Go.Proofs.YtnklnhnjmikooaaGreat
open Go.RowKit

/-- Which cells of an element are texts. -/
def txR : Nat → Prop := fun j => j = 0 ∨ j = 1

set_option maxHeartbeats 4000000 in
theorem markRM (lo hi g n : Nat) (F : Nat → Nat → Value) (k : Int) (w : World) (h : Arr w g 116 4 n txR F) (hw : ∀ i, i < n → WB lo hi w (F i 0) ∧ WB lo hi w (F i 1)) (h1 : lo ≤ g) (h2 : g < hi) (hn : n ≤ 1048576) (hk0 : 0 ≤ k) (hk : k ≤ 70368744177664) :
    Calls Tryz.prog 46 #[.slice (some ⟨g, 0, none⟩) n n, .int .i64 k] w fun e w' => ∃ m : Nat, m ≤ n * 2097154 ∧ e = .returned (.int .i64 (k + m)) ∧ Mk lo hi (some g) w w' := by
  have HW : Hid (∀ i, i < n → WB lo hi w (F i 0) ∧ WB lo hi w (F i 1)) := hw
  have HA : Hid (Arr w g 116 4 n txR F) := h
  have h5 : (116 : TypeId) ≠ 5 := by decide
  have H5 : Hid ((116 : TypeId) ≠ 5) := h5
  clear hw h h5
  go_enter Tryz.func46, Tryz.ntmps46
  go_wp2
  go_loopw [1, 5] (fun q i wr => ∃ j m : Nat, j ≤ n ∧ m ≤ j * 2097154 ∧ i = .int .i64 j ∧ q = .int .i64 (k + m) ∧ Mk lo hi (some g) w wr ∧ Hid (Arr wr g 116 4 n txR F)) (fun _ i _ => n - (intOf i).toNat)
  case atStart => exact ⟨0, 0, Nat.zero_le _, by omega, rfl, by go_num, Mk.re _ _ _ _, HA.out⟩
  case round =>
    obtain ⟨j, m, hj, hmj, rfl, rfl, hm, ha⟩ := hrel
    by_cases hlt : j < n
    · have hlt' : (j : Int) < (n : Int) := by omega
      have HM0 : Hid (Mk lo hi (some g) w wr) := hm
      clear hm
      have d0 := Arr.cell ha.out j hlt 0 (by omega) (by unfold txR; omega)
      rw [Nat.add_zero] at d0
      go_wp2_with fail
      refine (markW lo hi none _ _ wr ((HW.out j hlt).1.mk HM0.out) (by omega) (by omega)).mono ?_
      rintro e w1 ⟨n1, hn1, rfl, M1⟩
      have HM1 : Hid (Mk lo hi (some g) w w1) := (HM0.out).tr M1.some
      have HA1 : Hid (Arr w1 g 116 4 n txR F) := (ha.out).mk M1 H5.out (by simp)
      clear M1 d0
      have d1 := Arr.cell HA1.out j hlt 1 (by omega) (by unfold txR; omega)
      go_wp2_with fail
      refine (markW lo hi none _ _ w1 ((HW.out j hlt).2.mk HM1.out) (by omega) (by omega)).mono ?_
      rintro e w2 ⟨n2, hn2, rfl, M2⟩
      have HM2 : Hid (Mk lo hi (some g) w w2) := (HM1.out).tr M2.some
      have HA2 : Hid (Arr w2 g 116 4 n txR F) := (HA1.out).mk M2 H5.out (by simp)
      clear M2 d1
      obtain ⟨⟨u0, a0⟩, f0⟩ := Arr.at HA2.out (j * 4 + 2) (by omega)
      obtain ⟨⟨u1, a1⟩, f1⟩ := Arr.at HA2.out (j * 4 + 3) (by omega)
      have HZ : Hid (∀ V0 V1 : Value, Mk lo hi (some g) w ((w2.setCell ⟨g, j * 4 + 2, none⟩ V0).setCell ⟨g, j * 4 + 3, none⟩ V1) ∧ Arr ((w2.setCell ⟨g, j * 4 + 2, none⟩ V0).setCell ⟨g, j * 4 + 3, none⟩ V1) g 116 4 n txR F) := fun V0 V1 => ⟨((((HM2.out).tr (Arr.mkset (HA2.out) h1 h2 (j * 4 + 2) V0))).tr (Arr.mkset (((HA2.out).set j 2 (by omega) (by unfold txR; first | omega | simp) V0)) h1 h2 (j * 4 + 3) V1)), ((((HA2.out).set j 2 (by omega) (by unfold txR; first | omega | simp) V0)).set j 3 (by omega) (by unfold txR; first | omega | simp) V1)⟩
      clear ha HM0 HM1 HA1 HM2 HA2
      go_wp2
      go_roundw
      case rel => exact ⟨j + 1, m + n1 + n2 + 2, by omega, by omega, by go_num, by go_num, (HZ.out _ _).1, (HZ.out _ _).2⟩
      case measure => simp [intOf]; omega
    · have hjn : j = n := by omega
      subst hjn
      clear ha
      go_wp2
      go_ret
      exact ⟨m, hmj, rfl, hm⟩

/-- Which cells of an element are texts. -/
def txT : Nat → Prop := fun j => j = 0

set_option maxHeartbeats 4000000 in
theorem markTM (lo hi g n : Nat) (F : Nat → Nat → Value) (k : Int) (w : World) (h : Arr w g 118 2 n txT F) (hw : ∀ i, i < n → WB lo hi w (F i 0)) (h1 : lo ≤ g) (h2 : g < hi) (hn : n ≤ 1048576) (hk0 : 0 ≤ k) (hk : k ≤ 70368744177664) :
    Calls Tryz.prog 47 #[.slice (some ⟨g, 0, none⟩) n n, .int .i64 k] w fun e w' => ∃ m : Nat, m ≤ n * 1048577 ∧ e = .returned (.int .i64 (k + m)) ∧ Mk lo hi (some g) w w' := by
  have HW : Hid (∀ i, i < n → WB lo hi w (F i 0)) := hw
  have HA : Hid (Arr w g 118 2 n txT F) := h
  have h5 : (118 : TypeId) ≠ 5 := by decide
  have H5 : Hid ((118 : TypeId) ≠ 5) := h5
  clear hw h h5
  go_enter Tryz.func47, Tryz.ntmps47
  go_wp2
  go_loopw [1, 5] (fun q i wr => ∃ j m : Nat, j ≤ n ∧ m ≤ j * 1048577 ∧ i = .int .i64 j ∧ q = .int .i64 (k + m) ∧ Mk lo hi (some g) w wr ∧ Hid (Arr wr g 118 2 n txT F)) (fun _ i _ => n - (intOf i).toNat)
  case atStart => exact ⟨0, 0, Nat.zero_le _, by omega, rfl, by go_num, Mk.re _ _ _ _, HA.out⟩
  case round =>
    obtain ⟨j, m, hj, hmj, rfl, rfl, hm, ha⟩ := hrel
    by_cases hlt : j < n
    · have hlt' : (j : Int) < (n : Int) := by omega
      have HM0 : Hid (Mk lo hi (some g) w wr) := hm
      clear hm
      have d0 := Arr.cell ha.out j hlt 0 (by omega) (by unfold txT; omega)
      rw [Nat.add_zero] at d0
      go_wp2_with fail
      refine (markW lo hi none _ _ wr ((HW.out j hlt).mk HM0.out) (by omega) (by omega)).mono ?_
      rintro e w1 ⟨n1, hn1, rfl, M1⟩
      have HM1 : Hid (Mk lo hi (some g) w w1) := (HM0.out).tr M1.some
      have HA1 : Hid (Arr w1 g 118 2 n txT F) := (ha.out).mk M1 H5.out (by simp)
      clear M1 d0
      obtain ⟨⟨u0, a0⟩, f0⟩ := Arr.at HA1.out (j * 2 + 1) (by omega)
      have HZ : Hid (∀ V0 : Value, Mk lo hi (some g) w (w1.setCell ⟨g, j * 2 + 1, none⟩ V0) ∧ Arr (w1.setCell ⟨g, j * 2 + 1, none⟩ V0) g 118 2 n txT F) := fun V0 => ⟨((HM1.out).tr (Arr.mkset (HA1.out) h1 h2 (j * 2 + 1) V0)), ((HA1.out).set j 1 (by omega) (by unfold txT; first | omega | simp) V0)⟩
      clear ha HM0 HM1 HA1
      go_wp2
      go_roundw
      case rel => exact ⟨j + 1, m + n1 + 1, by omega, by omega, by go_num, by go_num, (HZ.out _).1, (HZ.out _).2⟩
      case measure => simp [intOf]; omega
    · have hjn : j = n := by omega
      subst hjn
      clear ha
      go_wp2
      go_ret
      exact ⟨m, hmj, rfl, hm⟩

/-- Which cells of an element are texts. -/
def txS : Nat → Prop := fun _ => False

set_option maxHeartbeats 4000000 in
theorem markSM (lo hi g n : Nat) (F : Nat → Nat → Value) (k : Int) (w : World) (h : Arr w g 121 2 n txS F) (hw : ∀ i, i < n → True) (h1 : lo ≤ g) (h2 : g < hi) (hn : n ≤ 1048576) (hk0 : 0 ≤ k) (hk : k ≤ 70368744177664) :
    Calls Tryz.prog 48 #[.slice (some ⟨g, 0, none⟩) n n, .int .i64 k] w fun e w' => ∃ m : Nat, m ≤ n * 2 ∧ e = .returned (.int .i64 (k + m)) ∧ Mk lo hi (some g) w w' := by
  have HW : Hid (∀ i, i < n → True) := hw
  have HA : Hid (Arr w g 121 2 n txS F) := h
  have h5 : (121 : TypeId) ≠ 5 := by decide
  have H5 : Hid ((121 : TypeId) ≠ 5) := h5
  clear hw h h5
  go_enter Tryz.func48, Tryz.ntmps48
  go_wp2
  go_loopw [1, 5] (fun q i wr => ∃ j m : Nat, j ≤ n ∧ m ≤ j * 2 ∧ i = .int .i64 j ∧ q = .int .i64 (k + m) ∧ Mk lo hi (some g) w wr ∧ Hid (Arr wr g 121 2 n txS F)) (fun _ i _ => n - (intOf i).toNat)
  case atStart => exact ⟨0, 0, Nat.zero_le _, by omega, rfl, by go_num, Mk.re _ _ _ _, HA.out⟩
  case round =>
    obtain ⟨j, m, hj, hmj, rfl, rfl, hm, ha⟩ := hrel
    by_cases hlt : j < n
    · have hlt' : (j : Int) < (n : Int) := by omega
      have HM0 : Hid (Mk lo hi (some g) w wr) := hm
      clear hm
      obtain ⟨⟨u0, a0⟩, f0⟩ := Arr.at ha.out (j * 2 + 0) (by omega)
      rw [Nat.add_zero] at a0 f0
      obtain ⟨⟨u1, a1⟩, f1⟩ := Arr.at ha.out (j * 2 + 1) (by omega)
      have HZ : Hid (∀ V0 V1 : Value, Mk lo hi (some g) w ((wr.setCell ⟨g, j * 2 + 0, none⟩ V0).setCell ⟨g, j * 2 + 1, none⟩ V1) ∧ Arr ((wr.setCell ⟨g, j * 2 + 0, none⟩ V0).setCell ⟨g, j * 2 + 1, none⟩ V1) g 121 2 n txS F) := fun V0 V1 => ⟨((((HM0.out).tr (Arr.mkset (ha.out) h1 h2 (j * 2 + 0) V0))).tr (Arr.mkset (((ha.out).set j 0 (by omega) (by unfold txS; first | omega | simp) V0)) h1 h2 (j * 2 + 1) V1)), ((((ha.out).set j 0 (by omega) (by unfold txS; first | omega | simp) V0)).set j 1 (by omega) (by unfold txS; first | omega | simp) V1)⟩
      clear ha HM0
      go_wp2
      go_roundw
      case rel => exact ⟨j + 1, m + 2, by omega, by omega, by go_num, by go_num, (HZ.out _ _).1, (HZ.out _ _).2⟩
      case measure => simp [intOf]; omega
    · have hjn : j = n := by omega
      subst hjn
      clear ha
      go_wp2
      go_ret
      exact ⟨m, hmj, rfl, hm⟩

/-- Which cells of an element are texts. -/
def txL : Nat → Prop := fun _ => False

set_option maxHeartbeats 4000000 in
theorem markLM (lo hi g n : Nat) (F : Nat → Nat → Value) (k : Int) (w : World) (h : Arr w g 125 4 n txL F) (hw : ∀ i, i < n → True) (h1 : lo ≤ g) (h2 : g < hi) (hn : n ≤ 1048576) (hk0 : 0 ≤ k) (hk : k ≤ 70368744177664) :
    Calls Tryz.prog 49 #[.slice (some ⟨g, 0, none⟩) n n, .int .i64 k] w fun e w' => ∃ m : Nat, m ≤ n * 4 ∧ e = .returned (.int .i64 (k + m)) ∧ Mk lo hi (some g) w w' := by
  have HW : Hid (∀ i, i < n → True) := hw
  have HA : Hid (Arr w g 125 4 n txL F) := h
  have h5 : (125 : TypeId) ≠ 5 := by decide
  have H5 : Hid ((125 : TypeId) ≠ 5) := h5
  clear hw h h5
  go_enter Tryz.func49, Tryz.ntmps49
  go_wp2
  go_loopw [1, 5] (fun q i wr => ∃ j m : Nat, j ≤ n ∧ m ≤ j * 4 ∧ i = .int .i64 j ∧ q = .int .i64 (k + m) ∧ Mk lo hi (some g) w wr ∧ Hid (Arr wr g 125 4 n txL F)) (fun _ i _ => n - (intOf i).toNat)
  case atStart => exact ⟨0, 0, Nat.zero_le _, by omega, rfl, by go_num, Mk.re _ _ _ _, HA.out⟩
  case round =>
    obtain ⟨j, m, hj, hmj, rfl, rfl, hm, ha⟩ := hrel
    by_cases hlt : j < n
    · have hlt' : (j : Int) < (n : Int) := by omega
      have HM0 : Hid (Mk lo hi (some g) w wr) := hm
      clear hm
      obtain ⟨⟨u0, a0⟩, f0⟩ := Arr.at ha.out (j * 4 + 0) (by omega)
      rw [Nat.add_zero] at a0 f0
      obtain ⟨⟨u1, a1⟩, f1⟩ := Arr.at ha.out (j * 4 + 1) (by omega)
      obtain ⟨⟨u2, a2⟩, f2⟩ := Arr.at ha.out (j * 4 + 2) (by omega)
      obtain ⟨⟨u3, a3⟩, f3⟩ := Arr.at ha.out (j * 4 + 3) (by omega)
      have HZ : Hid (∀ V0 V1 V2 V3 : Value, Mk lo hi (some g) w ((((wr.setCell ⟨g, j * 4 + 0, none⟩ V0).setCell ⟨g, j * 4 + 1, none⟩ V1).setCell ⟨g, j * 4 + 2, none⟩ V2).setCell ⟨g, j * 4 + 3, none⟩ V3) ∧ Arr ((((wr.setCell ⟨g, j * 4 + 0, none⟩ V0).setCell ⟨g, j * 4 + 1, none⟩ V1).setCell ⟨g, j * 4 + 2, none⟩ V2).setCell ⟨g, j * 4 + 3, none⟩ V3) g 125 4 n txL F) := fun V0 V1 V2 V3 => ⟨((((((((HM0.out).tr (Arr.mkset (ha.out) h1 h2 (j * 4 + 0) V0))).tr (Arr.mkset (((ha.out).set j 0 (by omega) (by unfold txL; first | omega | simp) V0)) h1 h2 (j * 4 + 1) V1))).tr (Arr.mkset (((((ha.out).set j 0 (by omega) (by unfold txL; first | omega | simp) V0)).set j 1 (by omega) (by unfold txL; first | omega | simp) V1)) h1 h2 (j * 4 + 2) V2))).tr (Arr.mkset (((((((ha.out).set j 0 (by omega) (by unfold txL; first | omega | simp) V0)).set j 1 (by omega) (by unfold txL; first | omega | simp) V1)).set j 2 (by omega) (by unfold txL; first | omega | simp) V2)) h1 h2 (j * 4 + 3) V3)), ((((((((ha.out).set j 0 (by omega) (by unfold txL; first | omega | simp) V0)).set j 1 (by omega) (by unfold txL; first | omega | simp) V1)).set j 2 (by omega) (by unfold txL; first | omega | simp) V2)).set j 3 (by omega) (by unfold txL; first | omega | simp) V3)⟩
      clear ha HM0
      go_wp2
      go_roundw
      case rel => exact ⟨j + 1, m + 4, by omega, by omega, by go_num, by go_num, (HZ.out _ _ _ _).1, (HZ.out _ _ _ _).2⟩
      case measure => simp [intOf]; omega
    · have hjn : j = n := by omega
      subst hjn
      clear ha
      go_wp2
      go_ret
      exact ⟨m, hmj, rfl, hm⟩

/-- Only blocks from lo up to hi have turned. -/
structure Mid (lo hi : Nat) (w w' : World) : Prop where
  os : w'.os = w.os
  tape : w'.tape = w.tape
  output : w'.output = w.output
  size : w.heap.size ≤ w'.heap.size
  out : ∀ k, k < w.heap.size → (k < lo ∨ hi ≤ k) → w'.heap[k]? = w.heap[k]?
theorem Mk.mid {lo hi : Nat} {og : Option Nat} {w w' : World} (h : Mk lo hi og w w') : Mid lo hi w w' := ⟨h.os, h.tape, h.output, h.size, h.out⟩
theorem Mid.tr {lo hi : Nat} {a b c : World} (h : Mid lo hi a b) (k : Mid lo hi b c) : Mid lo hi a c :=
  ⟨k.os.trans h.os, k.tape.trans h.tape, k.output.trans h.output, Nat.le_trans h.size k.size, fun i hi' ho => (k.out i (Nat.lt_of_lt_of_le hi' h.size) ho).trans (h.out i hi' ho)⟩
theorem Mid.ext {lo hi : Nat} {a b : World} (h : Ext a b) : Mid lo hi a b := ⟨h.os, h.tape, h.output, h.size, fun i hi' _ => h.block i hi' (by simp)⟩
theorem Mid.below {lo hi B : Nat} {w0 w w' : World} (hb : Below B w0 w) (hs : B ≤ w.heap.size) (hl : B ≤ lo) (h : Mid lo hi w w') : Below B w0 w' :=
  ⟨h.os.trans hb.os, h.tape.trans hb.tape, h.output.trans hb.output, Nat.le_trans hb.size h.size, fun k hk => (h.out k (by omega) (.inl (by omega))).trans (hb.block k hk)⟩

/-- A state's memory, as far as its marks need it: its four arrays and its texts, all from lo up to hi. -/
def Shp (lo hi : Nat) (w : World) (gr gt gs gl nr nt ns nl : Nat) : Prop :=
  ∃ FR FT FS FL : Nat → Nat → Value, (Arr w gr 116 4 nr txR FR ∧ ∀ i, i < nr → WB lo hi w (FR i 0) ∧ WB lo hi w (FR i 1)) ∧ (Arr w gt 118 2 nt txT FT ∧ ∀ i, i < nt → WB lo hi w (FT i 0)) ∧
    Arr w gs 121 2 ns txS FS ∧ Arr w gl 125 4 nl txL FL ∧ (lo ≤ gr ∧ gr < hi) ∧ (lo ≤ gt ∧ gt < hi) ∧ (lo ≤ gs ∧ gs < hi) ∧ (lo ≤ gl ∧ gl < hi) ∧ nr ≤ 1048576 ∧ nt ≤ 1048576 ∧ ns ≤ 1048576 ∧ nl ≤ 1048576

theorem Shp.ext {lo hi : Nat} {w w' : World} {gr gt gs gl nr nt ns nl : Nat} (h : Shp lo hi w gr gt gs gl nr nt ns nl) (e : Ext w w') : Shp lo hi w' gr gt gs gl nr nt ns nl := by
  obtain ⟨FR, FT, FS, FL, ⟨a1, a2⟩, ⟨b1, b2⟩, c1, d1, r⟩ := h
  exact ⟨FR, FT, FS, FL, ⟨a1.ext e, fun i hi => ⟨(a2 i hi).1.grown e, (a2 i hi).2.grown e⟩⟩, ⟨b1.ext e, fun i hi => (b2 i hi).grown e⟩, c1.ext e, d1.ext e, r⟩

theorem shp_of {w : World} {base gr gt gs gl : Nat} {S : DState} (h : OSt w base gr gt gs gl S) (hl : LenSt S 1048576) : Shp base w.heap.size w gr gt gs gl S.rows.length S.tombs.length S.sess.length S.lasts.length := by
  obtain ⟨⟨b1, FR, r1, r2⟩, ⟨b2, FT, t1, t2⟩, ⟨b3, FS, s1, _⟩, ⟨b4, FL, l1, _⟩⟩ := h
  refine ⟨FR, FT, FS, FL, ⟨Arr.of r1, fun i hi => ?_⟩, ⟨Arr.of t1, fun i hi => ?_⟩, Arr.of s1, Arr.of l1, ⟨b1, blk_lt r1⟩, ⟨b2, blk_lt t1⟩, ⟨b3, blk_lt s1⟩, ⟨b4, blk_lt l1⟩, hl.rows, hl.tombs, hl.sess, hl.lasts⟩
  · obtain ⟨r, hr⟩ : ∃ r, S.rows[i]? = some r := ⟨_, List.getElem?_eq_getElem hi⟩
    obtain ⟨o1, o2, _, _⟩ := r2 i r hr
    exact ⟨WB.of o1 (by omega) (hl.row i r hr).1, WB.of o2 (by omega) (hl.row i r hr).2⟩
  · obtain ⟨r, hr⟩ : ∃ r, S.tombs[i]? = some r := ⟨_, List.getElem?_eq_getElem hi⟩
    exact WB.of (t2 i r hr).1 (by omega) (hl.tomb i r hr)

set_option maxHeartbeats 4000000 in
theorem markStM (lo hi gr gt gs gl nr nt ns nl : Nat) (x0 x3 : Value) (k : Int) (w : World) (h : Shp lo hi w gr gt gs gl nr nt ns nl) (hh : hi ≤ w.heap.size) (hk0 : 0 ≤ k) (hk : k ≤ 1073741824) :
    Calls Tryz.prog 14 #[.agg #[x0, .slice (some ⟨gr, 0, none⟩) nr nr, .slice (some ⟨gt, 0, none⟩) nt nt, x3, .slice (some ⟨gs, 0, none⟩) ns ns, .slice (some ⟨gl, 0, none⟩) nl nl], .int .i64 k] w fun e w' =>
      ∃ k' : Int, 0 ≤ k' ∧ k' ≤ 35184372088832 ∧ e = .returned (.int .i64 k') ∧ Mid lo hi w w' := by
  have hE : ∀ w : World, ∀ o, Ext w (w.alloc o) := fun w o => World.grownBy_alloc _ _ _
  go_enter Tryz.func14, Tryz.ntmps14
  go_wp2_with fail
  have P0 := heap_alloc_new w (.cells #[x0, .slice (some ⟨gr, 0, none⟩) nr nr, .slice (some ⟨gt, 0, none⟩) nt nt, x3, .slice (some ⟨gs, 0, none⟩) ns ns, .slice (some ⟨gl, 0, none⟩) nl nl] 48 (0, 0))
  have E0 := hE w (.cells #[x0, .slice (some ⟨gr, 0, none⟩) nr nr, .slice (some ⟨gt, 0, none⟩) nt nt, x3, .slice (some ⟨gs, 0, none⟩) ns ns, .slice (some ⟨gl, 0, none⟩) nl nl] 48 (0, 0))
  have z0 : w.heap.size < (w.alloc (.cells #[x0, .slice (some ⟨gr, 0, none⟩) nr nr, .slice (some ⟨gt, 0, none⟩) nt nt, x3, .slice (some ⟨gs, 0, none⟩) ns ns, .slice (some ⟨gl, 0, none⟩) nl nl] 48 (0, 0))).heap.size := by simp
  generalize w.alloc (.cells #[x0, .slice (some ⟨gr, 0, none⟩) nr nr, .slice (some ⟨gt, 0, none⟩) nt nt, x3, .slice (some ⟨gs, 0, none⟩) ns ns, .slice (some ⟨gl, 0, none⟩) nl nl] 48 (0, 0)) = W0 at P0 E0 z0 ⊢
  have HS : Hid (Shp lo hi W0 gr gt gs gl nr nt ns nl) := h.ext E0
  have HD : Hid (Mid lo hi w W0) := Mid.ext E0
  clear h E0
  obtain ⟨FR, FT, FS, FL, ⟨a1, a2⟩, ⟨b1, b2⟩, c1, d1, ⟨l1, l1'⟩, ⟨l2, l2'⟩, ⟨l3, l3'⟩, ⟨l4, l4'⟩, n1, n2, n3, n4⟩ := HS.out
  have neq : gr ≠ gt ∧ gr ≠ gs ∧ gr ≠ gl ∧ gt ≠ gs ∧ gt ≠ gl ∧ gs ≠ gl := by
    obtain ⟨u1, e1, _, _⟩ := a1
    obtain ⟨u2, e2, _, _⟩ := b1
    obtain ⟨u3, e3, _, _⟩ := c1
    obtain ⟨u4, e4, _, _⟩ := d1
    refine ⟨?_, ?_, ?_, ?_, ?_, ?_⟩
    · intro e; subst e; rw [e1] at e2; simp at e2
    · intro e; subst e; rw [e1] at e3; simp at e3
    · intro e; subst e; rw [e1] at e4; simp at e4
    · intro e; subst e; rw [e2] at e3; simp at e3
    · intro e; subst e; rw [e2] at e4; simp at e4
    · intro e; subst e; rw [e3] at e4; simp at e4
  have HNE : Hid (gr ≠ gt ∧ gr ≠ gs ∧ gr ≠ gl ∧ gt ≠ gs ∧ gt ≠ gl ∧ gs ≠ gl) := neq
  have HA : Hid (Arr W0 gr 116 4 nr txR FR ∧ ∀ i, i < nr → WB lo hi W0 (FR i 0) ∧ WB lo hi W0 (FR i 1)) := ⟨a1, a2⟩
  have HB : Hid (Arr W0 gt 118 2 nt txT FT ∧ ∀ i, i < nt → WB lo hi W0 (FT i 0)) := ⟨b1, b2⟩
  have HC : Hid (Arr W0 gs 121 2 ns txS FS) := c1
  have HDD : Hid (Arr W0 gl 125 4 nl txL FL) := d1
  clear HS a1 a2 b1 b2 c1 d1 neq
  refine (markRM lo hi gr nr FR k W0 HA.out.1 HA.out.2 l1 l1' n1 hk0 (by omega)).mono ?_
  rintro e W1 ⟨m1, hm1, rfl, M1⟩
  have P1 := (M1.out w.heap.size z0 (.inr hh)).trans P0
  have z1 := Nat.lt_of_lt_of_le z0 M1.size
  have HM1 : Hid (Mk lo hi (some gr) W0 W1) := M1
  clear M1 P0 z0
  obtain ⟨p2, _⟩ := at_block P1 2 _ rfl
  go_wp2_with fail
  refine (markTM lo hi gt nt FT _ W1 (HB.out.1.mk HM1.out (by decide) (by simp [Ne.symm HNE.out.1])) (fun i hi => (HB.out.2 i hi).mk HM1.out) l2 l2' n2 (by omega) (by omega)).mono ?_
  rintro e W2 ⟨m2, hm2, rfl, M2⟩
  have P2 := (M2.out w.heap.size z1 (.inr hh)).trans P1
  have z2 := Nat.lt_of_lt_of_le z1 M2.size
  have HM2 : Hid (Mk lo hi (some gt) W1 W2) := M2
  clear M2 P1 z1 p2
  obtain ⟨p4, _⟩ := at_block P2 4 _ rfl
  go_wp2_with fail
  refine (markSM lo hi gs ns FS _ W2 ((HC.out.mk HM1.out (by decide) (by simp [Ne.symm HNE.out.2.1])).mk HM2.out (by decide) (by simp [Ne.symm HNE.out.2.2.2.1])) (fun _ _ => trivial) l3 l3' n3 (by omega) (by omega)).mono ?_
  rintro e W3 ⟨m3, hm3, rfl, M3⟩
  have P3 := (M3.out w.heap.size z2 (.inr hh)).trans P2
  have z3 := Nat.lt_of_lt_of_le z2 M3.size
  have HM3 : Hid (Mk lo hi (some gs) W2 W3) := M3
  clear M3 P2 z2 p4
  obtain ⟨p5, _⟩ := at_block P3 5 _ rfl
  go_wp2_with fail
  refine (markLM lo hi gl nl FL _ W3 (((HDD.out.mk HM1.out (by decide) (by simp [Ne.symm HNE.out.2.2.1])).mk HM2.out (by decide) (by simp [Ne.symm HNE.out.2.2.2.2.1])).mk HM3.out (by decide) (by simp [Ne.symm HNE.out.2.2.2.2.2])) (fun _ _ => trivial) l4 l4' n4 (by omega) (by omega)).mono ?_
  rintro e W4 ⟨m4, hm4, rfl, M4⟩
  have HM4 : Hid (Mid lo hi w W4) := (((HD.out.tr HM1.out.mid).tr HM2.out.mid).tr HM3.out.mid).tr M4.mid
  clear M4 P3 z3 p5
  go_wp2
  go_ret
  exact ⟨_, by omega, by omega, rfl, HM4.out⟩

end Go.Proofs.YtnklnhnjmikooaaGreat

namespace Go.Proofs.YtnklnhnjmikooaaGreat
open Go.RowKit

set_option maxRecDepth 20000 in
set_option maxHeartbeats 1000000 in
theorem hsOneV (s : DSess) (g : Nat) (id : Int) (w : World) (h : w.cell? ⟨g, 0, none⟩ = some (.int .i64 id)) : Calls Tryz.prog 106 #[.agg #[.int .i64 s.id, .bool s.del], .pointer (some ⟨g, 0, none⟩)] w fun e w' => e = .returned (.bool (decide (s.id = id))) ∧ Below w.heap.size w w' := by
  have hg : g < w.heap.size := World.block_lt_of_cell? w _ h
  have hne : ∀ o, (w.alloc o).cell? ⟨g, 0, none⟩ = some (.int .i64 id) := fun o => World.grownBy.cell (World.grownBy_alloc w o none) h (by simp)
  go_enter Tryz.func106, Tryz.ntmps106
  go_wp2
  go_ret
  exact ⟨by first | rfl | simp, (Below.refl _ w).alloc (Nat.le_refl _) _⟩

set_option maxRecDepth 20000 in
set_option maxHeartbeats 1000000 in
theorem indexSeV (v : Value) (ts : List DSess) (g : Nat) (id : Int) (w : World) (h : VSess w v ts) (hg : w.cell? ⟨g, 0, none⟩ = some (.int .i64 id)) : Calls Tryz.prog 116 #[v, .func (Fn.func 106) #[] #[.pointer (some ⟨g, 0, none⟩)]] w fun e w' => e = .returned (.int .i64 (fnd (fun s : DSess => decide (s.id = id)) ts)) ∧ Below w.heap.size w w' := by
  obtain ⟨C, ⟨a, cap, rfl, h1, h2, h3⟩, hC⟩ := h
  have HC : Hid (∀ (i : Nat) (r : DSess), ts[i]? = some r → C i 0 = Value.int IntKind.i64 r.id ∧ C i 1 = Value.bool r.del) := hC
  clear hC
  have HG : Hid (w.cell? ⟨g, 0, none⟩ = some (.int .i64 id)) := hg
  clear hg
  obtain ⟨n, hn⟩ : ∃ n, n = ts.length := ⟨_, rfl⟩
  rw [← hn] at h1 h3 ⊢
  have HN : Hid (n = ts.length) := hn
  clear hn
  unfold maxLen at h2
  have H3 : Hid (0 < n → ∃ b o, a = some ⟨b, o, none⟩ ∧ b < w.heap.size ∧ ∀ i, i < n → ∀ j, j < 2 → w.cell? ⟨b, o + i * 2 + j, none⟩ = some (C i j)) := h3
  clear h3
  obtain ⟨r, hr⟩ : ∃ r, r = fnd (fun s : DSess => decide (s.id = id)) ts := ⟨_, rfl⟩
  rw [← hr]
  have HR : Hid (r = fnd (fun s : DSess => decide (s.id = id)) ts) := hr
  clear hr
  go_enter Tryz.func116, Tryz.ntmps116
  go_wp2
  go_loopw [8] (fun i wr => ∃ k : Nat, k ≤ n ∧ i = .int .i64 k ∧ Below w.heap.size w wr ∧ Hid (∀ (j : Nat) (u : DSess), j < k → ts[j]? = some u → u.id ≠ id)) (fun i _ => n - (intOf i).toNat)
  case atStart => exact ⟨0, Nat.zero_le _, rfl, Below.refl _ _, fun j u hj => absurd hj (by omega)⟩
  case round =>
    obtain ⟨k, hk, rfl, hb, hall⟩ := hrel
    by_cases hlt : k < n
    · obtain ⟨b, o, rfl, hbl, hc⟩ := H3.out (by omega)
      obtain ⟨s, hs⟩ : ∃ s, ts[k]? = some s := ⟨_, List.getElem?_eq_getElem (by have := HN.out; omega)⟩
      obtain ⟨e0, e1⟩ := HC.out k s hs
      have c0 := World.grownBy.cell (ext_below hb) (hc k hlt 0 (by omega)) (by simp)
      have c1 := World.grownBy.cell (ext_below hb) (hc k hlt 1 (by omega)) (by simp)
      rw [e0, Nat.add_zero] at c0
      rw [e1] at c1
      have HGW := World.grownBy.cell (ext_below hb) HG.out (by simp)
      have hlt' : (k : Int) < (n : Int) := by omega
      clear hc e0 e1
      go_wp2_with fail
      refine (hsOneV s g id _ HGW).mono ?_
      rintro e w2 ⟨rfl, b2⟩
      have hb2 := hb.trans (b2.mono hb.size)
      by_cases he : s.id = id
      · have HK : Hid (r = (k : Int)) := by rw [HR.out]; exact fnd_at (fun i u hi hu => decide_eq_false (hall.out i u hi hu)) hs (decide_eq_true he)
        have he2 : decide (s.id = id) = true := by simpa using he
        rw [he2]
        clear hs hall he he2 c0 c1 HGW
        go_wp2
        go_ret
        exact ⟨by rw [HK.out]; rfl, hb2⟩
      · have HA : Hid (∀ (j : Nat) (u : DSess), j < k + 1 → ts[j]? = some u → u.id ≠ id) := fun j u hj hu => by
          by_cases e : j = k
          · subst e
            rw [hs] at hu
            cases hu
            exact he
          · exact hall.out j u (by omega) hu
        have he2 : decide (s.id = id) = false := by simpa using he
        rw [he2]
        clear hs hall he2 c0 c1 HGW
        go_wp2
        go_roundw
        case rel => exact ⟨k + 1, by omega, by go_num, hb2, HA⟩
        case measure => simp [intOf]; omega
    · have hkn : k = n := by omega
      subst hkn
      have HK : Hid (r = -1) := by
        rw [HR.out]
        exact fnd_none fun i t ht => decide_eq_false (hall.out i t (by have := (List.getElem?_eq_some_iff.1 ht).1; have := HN.out; omega) ht)
      clear hall
      go_wp2
      go_ret
      exact ⟨by rw [HK.out]; rfl, hb⟩


/-- There is a session of this id. -/
def hasI (ss : List DSess) (id : Int) : Bool := decide (0 ≤ fnd (fun s : DSess => decide (s.id = id)) ss)
set_option maxRecDepth 20000 in
set_option maxHeartbeats 1000000 in
theorem hasSessV (v : Value) (ss : List DSess) (id : Int) (w : World) (h : VSess w v ss) : Calls Tryz.prog 83 #[v, .int .i64 id] w fun e w' => e = .returned (.bool (hasI ss id)) ∧ Below w.heap.size w w' := by
  have hv := h
  obtain ⟨C, ⟨a, cap, rfl, h1, h2, h3⟩, hC⟩ := h
  clear h1 h2 h3 hC
  have HCF : Hid (∀ (V : World) g, Ext w V → V.cell? ⟨g, 0, none⟩ = some (.int .i64 id) → Calls Tryz.prog 105 #[.slice a ss.length cap, .func (Fn.func 106) #[] #[.pointer (some ⟨g, 0, none⟩)]] V fun e w' => e = .returned (.bool (hasI ss id)) ∧ Below V.heap.size V w') := fun V g e hg => by
    have HI := Lib.hid (indexSeV _ ss g id V (hv.ext e) hg)
    obtain ⟨r, hr⟩ : ∃ r, r = fnd (fun s : DSess => decide (s.id = id)) ss := ⟨_, rfl⟩
    have HR : Hid (hasI ss id = decide (0 ≤ r)) := by show _ = _; rw [hr]; rfl
    rw [← hr] at HI
    clear hr
    go_enter Tryz.func105, Tryz.ntmps105
    go_wp2_with fail
    refine HI.out.mono ?_
    rintro e w1 ⟨rfl, b1⟩
    go_wp2
    go_ret
    exact ⟨by rw [HR.out]; first | rfl | simp, b1⟩
  clear hv
  go_enter Tryz.func83, Tryz.ntmps83
  go_wp2_with fail
  refine (HCF.out _ w.heap.size (World.grownBy_alloc _ _ _) (at_block (heap_alloc_new w (.cells #[.int .i64 id] 3 (0, 0))) 0 _ rfl).1).mono ?_
  rintro e w1 ⟨rfl, b1⟩
  go_wp2
  go_ret
  exact ⟨rfl, ((Below.refl _ w).alloc (Nat.le_refl _) _).trans (b1.mono (by simp))⟩

end Go.Proofs.YtnklnhnjmikooaaGreat

namespace Go.Proofs.YtnklnhnjmikooaaGreat
open Go.RowKit

/-- The slice v reads as the list xs, each shown by f in a cell of its own. -/
def VL {α : Type} (f : α → Value) (w : World) (v : Value) (xs : List α) : Prop :=
  ∃ a cap, v = .slice a xs.length cap ∧ xs.length ≤ cap ∧ cap ≤ maxLen ∧ (0 < xs.length → ∃ b o, a = some ⟨b, o, none⟩ ∧ b < w.heap.size ∧ ∀ (i : Nat) (x : α), xs[i]? = some x → w.cell? ⟨b, o + i, none⟩ = some (f x))
theorem VL.ext {α : Type} {f : α → Value} {w w' : World} {v : Value} {xs : List α} (h : VL f w v xs) (e : Ext w w') : VL f w' v xs := by
  obtain ⟨a, cap, hv, h1, h2, h3⟩ := h
  refine ⟨a, cap, hv, h1, h2, fun hn => ?_⟩
  obtain ⟨b, o, ha, hb, hc⟩ := h3 hn
  exact ⟨b, o, ha, Nat.lt_of_lt_of_le hb e.size, fun i x hx => World.grownBy.cell e (hc i x hx) (by simp)⟩
def fI (x : Int) : Value := .int .i64 x
def fB (x : Bool) : Value := .bool x
/-- A block that a call made holds just this list. -/
def OVL {α : Type} (f : α → Value) (t : TypeId) (w : World) (g : Nat) (xs : List α) : Prop := w.heap[g]? = some (.cells (xs.map f).toArray t (0, 0))
theorem OVL.v {α : Type} {f : α → Value} {t : TypeId} {w : World} {g : Nat} {xs : List α} (h : OVL f t w g xs) (hm : xs.length ≤ 1048576) : VL f w (.slice (some ⟨g, 0, none⟩) xs.length xs.length) xs := by
  refine ⟨_, xs.length, rfl, Nat.le_refl _, by unfold maxLen; omega, fun _ => ⟨g, 0, rfl, (Array.getElem?_eq_some_iff.1 h).1, fun i x hx => ?_⟩⟩
  rw [Nat.zero_add, cell_of_row w g _ _ t (0, 0) h]
  simp [hx]
theorem vl_shape {α : Type} {f : α → Value} {w : World} {v : Value} {xs : List α} (h : VL f w v xs) : ∃ a cap, v = .slice a xs.length cap := by
  obtain ⟨a, cap, rfl, _⟩ := h
  exact ⟨a, cap, rfl⟩

end Go.Proofs.YtnklnhnjmikooaaGreat

namespace Go.Proofs.YtnklnhnjmikooaaGreat
open Go.RowKit

/-- v owns the numbers xs, in a row from block base on. -/
def OwI (w : World) (base : Nat) (v : Value) (xs : List Int) : Prop := w.ownsRow base 3 1 v xs.length (xs.map fI)
theorem OwI.ext {w w' : World} {base : Nat} {v : Value} {xs : List Int} (h : OwI w base v xs) (e : Ext w w') : OwI w' base v xs := h.kept e (by cases hv : v.ownBlock <;> simp)
theorem OwI.vl {w : World} {base : Nat} {v : Value} {xs : List Int} (h : OwI w base v xs) : VL fI w v xs := by
  rcases h.2 with ⟨rfl, h0⟩ | ⟨g, cap, cur, rfl, hb, hg, hnc, hcm, hcs, htake⟩
  · have : xs = [] := List.eq_nil_of_length_eq_zero h0
    subst this
    exact ⟨none, 0, rfl, Nat.le_refl _, Nat.zero_le _, fun h => absurd h (by simp)⟩
  · refine ⟨_, cap, rfl, hnc, hcm, fun _ => ⟨g, 0, rfl, (Array.getElem?_eq_some_iff.1 hg).1, fun i x hx => ?_⟩⟩
    rw [Nat.zero_add, h.cellAt i (by have := (List.getElem?_eq_some_iff.1 hx).1; omega)]
    simp [hx]

end Go.Proofs.YtnklnhnjmikooaaGreat

namespace Go.Proofs.YtnklnhnjmikooaaGreat
open Go.RowKit

theorem info_3 : (Tryz.prog.info? 3).map (fun i => (i.zero, i.size, i.bytes)) = some (some (.int .i64 0), 1, 8) := by kernel_rfl
/-- 'append(out, x)' of numbers, out the call's own. -/
theorem wpList_append_i1 (w : World) {ops : Array Oper} {rest : List Oper} {o : Oper} {a : Act} {Q : Exit → Act → World → Prop} (hgd : o.guard = none) (s x : Operand)
    (ho : o.op = .call { callee := .builtin .append, args := #[s, x], argTypes := #[90, 90] })
    (base : Nat) (v : Value) (xs : List Int) (hs : a.eval s = v) (hown : OwI w base v xs) (g : Nat) (y : Int) (hx : a.eval x = .slice (some ⟨g, 0, none⟩) 1 1) (hc : w.cell? ⟨g, 0, none⟩ = some (.int .i64 y))
    (hb : xs.length ≤ 2097152) (hbase : base ≤ w.heap.size)
    (h : ∀ v' w', OwI w' base v' (xs ++ [y]) → w.grownBy w' v.ownBlock → wpList Tryz.prog ops Q rest (a.put o.dst v') w') : wpList Tryz.prog ops Q (o :: rest) a w := by
  obtain ⟨i0, hi, hz0, hz1, hz2⟩ := info_parts info_3
  obtain ⟨v', w', hrun, r1, r2, _, r4⟩ := run_append_own_at (P := Tryz.prog) w base 90 o.type 3 i0 _ 1 8 Tryz.underlying90 hi hz0 hz1 hz2 rfl (by decide) v xs.length (xs.map fI) hown ⟨g, 0, none⟩ 1 1 [.int .i64 y] rfl (fun j u hj => by
    have : j = 0 := by have := (List.getElem?_eq_some_iff.1 hj).1; simpa using this
    subst this
    simp only [List.getElem?_cons_zero, Option.some.injEq] at hj
    subst hj
    rw [Addr.add_lit]
    exact hc) (by simp [Value.oneCell']) (by unfold maxLen; omega) (by omega) hbase
  refine wpList_plain hgd fun K hK => ?_
  unfold Oper.wp execOp
  simp only [ho, resolve, invoke, builtin, Sem.run_bind, Sem.run_pure, Result.andThen_ok, List.map_toArray, List.map_cons, List.map_nil, hs, hx, hrun]
  refine hK _ _ (h v' w' ?_ r2)
  unfold OwI
  rw [List.map_append, List.length_append]
  exact r1
theorem OwI.base {w : World} {b b' : Nat} {v : Value} {xs : List Int} (o : OwI w b v xs) (hb : b' ≤ b) : OwI w b' v xs := by
  obtain ⟨hl, hh⟩ := o
  refine ⟨hl, ?_⟩
  rcases hh with hh | ⟨k, c, cur, hv, hb', hr⟩
  · exact .inl hh
  · exact .inr ⟨k, c, cur, hv, Nat.le_trans hb hb', hr⟩
theorem OwI.shape {w : World} {base : Nat} {v : Value} {xs : List Int} (o : OwI w base v xs) : ∃ a c, v = .slice a xs.length c := vl_shape o.vl

end Go.Proofs.YtnklnhnjmikooaaGreat

namespace Go.Proofs.YtnklnhnjmikooaaGreat
open Go.RowKit

/-- The wheel so many moments later, and what rang. -/
def tickD (c : Bool) (D : DWheel) (n : Int) : DWheel × List Int := if c then (if decide (0 ≤ n) && decide (n ≤ 1000000 - D.now) then (⟨D.now + n, D.tms.filter fun t => decide (D.now + n < t.due)⟩, (D.tms.filter fun t => decide (t.due ≤ D.now + n)).map fun t => t.id) else (D, [])) else (⟨0, []⟩, [])
/-- A wheel and numbers, in memory of their own. -/
def ResK (R : DWheel × List Int) (w : World) (e : Ending) (w' : World) : Prop := ∃ tv rv, e = .returned (.tuple #[.agg #[.int .i64 R.1.now, tv], rv]) ∧ OwT w' w.heap.size tv R.1.tms ∧ OwI w' w.heap.size rv R.2 ∧ Below w.heap.size w w'

theorem SortT.filter {ts : List DTim} (h : SortT ts) (p : DTim → Bool) : SortT (ts.filter p) := List.Pairwise.sublist List.filter_sublist h
theorem till_tk {moment : Int} {ts tk cur : List DTim} (hs : SortT ts) (hg : GoodT ts) (h : Till moment ts tk cur) (hc : ∀ y ∈ cur, moment < y.due) : tk = ts.filter (fun t => decide (t.due ≤ moment)) := by
  have h1 := h.perm.filter (fun t => decide (t.due ≤ moment))
  rw [List.filter_append] at h1
  have e1 : tk.filter (fun t => decide (t.due ≤ moment)) = tk := List.filter_eq_self.2 (fun x hx => by simpa using h.due x hx)
  have e2 : cur.filter (fun t => decide (t.due ≤ moment)) = [] := List.filter_eq_nil_iff.2 (fun x hx => by have := hc x hx; simp; omega)
  rw [e1, e2, List.append_nil] at h1
  exact sort_uniq h.sort (hs.filter _) (fun x hx => hg x (h.perm.mem_iff.1 (by simp [hx]))) h1
theorem till_cur {moment : Int} {ts tk cur tk2 : List DTim} (hs : SortT ts) (hg : GoodT ts) (h : Till moment ts tk cur) (hc : ∀ y ∈ cur, moment < y.due) (hs2 : SortT tk2) (hp2 : tk2.Perm cur) : tk2 = ts.filter (fun t => decide (moment < t.due)) := by
  have h1 := h.perm.filter (fun t => decide (moment < t.due))
  rw [List.filter_append] at h1
  have e1 : tk.filter (fun t => decide (moment < t.due)) = [] := List.filter_eq_nil_iff.2 (fun x hx => by have := h.due x hx; simp; omega)
  have e2 : cur.filter (fun t => decide (moment < t.due)) = cur := List.filter_eq_self.2 (fun x hx => by simpa using hc x hx)
  rw [e1, e2, List.nil_append] at h1
  exact sort_uniq hs2 (hs.filter _) (fun x hx => hg x (h.perm.mem_iff.1 (by simp [hp2.mem_iff.1 hx]))) (hp2.trans h1)

set_option maxRecDepth 20000 in
set_option maxHeartbeats 8000000 in
theorem iTickV (v : Value) (D : DWheel) (n : Int) (w : World) (h : VWheel w v D) (hl : D.tms.length ≤ 1048576) : Calls Tryz.prog 94 #[v, .int .i64 n] w (ResK (tickD (tB (WheelP D)) D n) w) := by
  have HV0 : Hid (VWheel w v D) := h
  obtain ⟨tv, rfl, h⟩ := h
  obtain ⟨ta, tc', rfl⟩ := h.shape
  obtain ⟨m, hn⟩ : ∃ m, m = D.tms.length := ⟨_, rfl⟩
  rw [← hn] at HV0 ⊢
  clear h hn
  cases hok : tB (WheelP D) with
  | false =>
    have HOK : Hid (tB (WheelP D) = false) := hok
    clear hok
    go_enter Tryz.func94, Tryz.ntmps94
    go_wp2_with fail
    generalize hW : World.alloc (World.alloc w _) _ = W
    have BW : Below w.heap.size w W := by rw [← hW]; exact ((Below.refl _ w).alloc (Nat.le_refl _) _).alloc (by simp) _
    have PR : W.heap[w.heap.size + 1]? = some (.cells #[.int .i64 0, .slice none 0 0] 37 (0, 0)) := by rw [← hW]; simpa using heap_alloc_new (World.alloc w (.cells #[.int .i64 D.now, .slice ta m tc'] 37)) (.cells #[.int .i64 0, .slice none 0 0] 37)
    clear hW
    refine (iWheelOkV _ D W (HV0.out.ext (ext_below BW))).mono ?_
    rintro e w1 ⟨rfl, b1⟩
    rw [HOK.out]
    have PR1 := below_blk b1 (Array.getElem?_eq_some_iff.1 PR).1 PR
    have HB1 : Hid (Below w.heap.size w w1) := BW.trans (b1.mono BW.size)
    obtain ⟨z0, y0⟩ := at_block PR1 0 _ rfl
    obtain ⟨z1, y1⟩ := at_block PR1 1 _ rfl
    clear b1 PR PR1 BW
    go_wp2
    refine bodyPost_ret (v := .tuple #[.agg #[.int .i64 0, .slice none 0 0], .slice none 0 0]) (by simp [results, Tryz.results94, go_sem, *]) rfl ?_
    refine ⟨_, _, rfl, World.ownsRow_nil _ _ _ _, World.ownsRow_nil _ _ _ _, ?_⟩
    first | exact HB1.out | exact HB1.out.setCell (by simp) _ | exact (HB1.out.setCell (by simp) _).setCell (by simp) _
  | true =>
    have HOK : Hid (tB (WheelP D) = true) := hok
    have HD : Hid (WheelP D) := tB_iff.1 hok
    have HL : Hid (D.tms.length ≤ 1048576) := hl
    have hnow := HD.out.1
    obtain ⟨hnow0, hnow1⟩ := hnow
    clear hok
    go_enter Tryz.func94, Tryz.ntmps94
    go_wp2_with fail
    generalize hW : World.alloc (World.alloc w _) _ = W
    have BW : Below w.heap.size w W := by rw [← hW]; exact ((Below.refl _ w).alloc (Nat.le_refl _) _).alloc (by simp) _
    have PB : W.heap[w.heap.size]? = some (.cells #[.int .i64 D.now, .slice ta m tc'] 37 (0, 0)) := by rw [← hW, Below.heap_alloc _ _ _ (by simp)]; exact heap_alloc_new w _
    have PR : W.heap[w.heap.size + 1]? = some (.cells #[.int .i64 0, .slice none 0 0] 37 (0, 0)) := by rw [← hW]; simpa using heap_alloc_new (World.alloc w (.cells #[.int .i64 D.now, .slice ta m tc'] 37)) (.cells #[.int .i64 0, .slice none 0 0] 37)
    clear hW
    refine (iWheelOkV _ D W (HV0.out.ext (ext_below BW))).mono ?_
    rintro e w1 ⟨rfl, b1⟩
    rw [HOK.out]
    have hbl := (Array.getElem?_eq_some_iff.1 PB).1
    have hrl := (Array.getElem?_eq_some_iff.1 PR).1
    have PB1 := below_blk b1 hbl PB
    have PR1 := below_blk b1 hrl PR
    have hrl1 := (Array.getElem?_eq_some_iff.1 PR1).1
    have HB1 : Hid (Below w.heap.size w w1) := BW.trans (b1.mono BW.size)
    obtain ⟨z0, y0⟩ := at_block PB1 0 _ rfl
    obtain ⟨z1, y1⟩ := at_block PB1 1 _ rfl
    clear b1 PR PB BW hbl hrl
    go_wp2_with fail
    refine (alarmsOfV _ D w1 (HV0.out.ext (ext_below HB1.out)) HL.out).mono ?_
    rintro e w2 ⟨b, a, cap, rfl, p2, b2⟩
    have HP2 : Hid (HP w2 w1.heap.size b a cap D.tms) := p2
    have HB2 : Hid (Below w1.heap.size w1 w2) := b2
    have PB2 := below_blk b2 (by omega) PB1
    clear p2 b2 z0 y0 z1 y1
    obtain ⟨z0, y0⟩ := at_block PB2 0 _ rfl
    by_cases i1 : inB n 0 (1000000 - D.now) = true
    case neg =>
      have i1 : inB n 0 (1000000 - D.now) = false := by simpa using i1
      have HBAD : Hid ((decide (0 ≤ n) && decide (n ≤ 1000000 - D.now)) = false) := i1
      go_wp2_with (go_at_call 53; refine (withinV _ _ _ _).mono ?_; rintro e w7 ⟨rfl, rfl⟩; rw [i1])
      refine (wheelV b w1.heap.size cap a D.tms D.now _ HP2.out (wheel_good HD.out) (by have := HD.out.2.1; omega) (wheel_heap HD.out) (wheel_due HD.out)).mono ?_
      rintro e w9 ⟨v9, tk, rfl, o9, hs9, hp9, t9⟩
      have HB9 : Hid (Below w1.heap.size w1 w9) := HB2.out.trans (t9.below HB2.out.size HP2.out.low (fun k hk => (HP2.out.blk.2 k hk).1))
      have PR9 := below_blk HB9.out hrl1 PR1
      have HEQ : Hid (tickD true D n = (⟨D.now, tk⟩, [])) := by
        unfold tickD
        rw [if_pos rfl, HBAD.out, sort_uniq hs9 (wheel_sort HD.out) ((wheel_good HD.out).perm hp9) hp9]
        exact rfl
      obtain ⟨va, vc, rfl⟩ := o9.v.shape
      have HO9 : Hid (OwT w9 w.heap.size (.slice va tk.length vc) tk) := o9.base (by have := HB1.out.size; have := HB2.out.size; omega)
      have HNV : Hid ((Value.slice va tk.length vc).ownBlock = none ∨ (Value.slice va tk.length vc).ownBlock ≠ some (w.heap.size + 1)) := by
        right
        intro e
        have h1 := (World.ownsRow.lt o9 _ e).1
        have := HB2.out.size
        omega
      obtain ⟨x0, f0⟩ := at_block PR9 0 _ rfl
      obtain ⟨x1, f1⟩ := at_block PR9 1 _ rfl
      have HBF : Hid (Below w.heap.size w w9) := HB1.out.trans (HB9.out.mono HB1.out.size)
      clear o9 hs9 hp9 t9 PR9 z0 y0
      go_wp2
      refine bodyPost_ret (v := .tuple #[.agg #[.int .i64 D.now, .slice va tk.length vc], .slice none 0 0]) (by simp [results, Tryz.results94, go_sem, *]) rfl ?_
      rw [HEQ.out]
      exact ⟨_, _, rfl, (HO9.out.kept (set_grown _ _ _ _) HNV.out).kept (set_grown _ _ _ _) HNV.out, World.ownsRow_nil _ _ _ _, (HBF.out.setCell (by simp) _).setCell (by simp) _⟩
    have hin : 0 ≤ n ∧ n ≤ 1000000 - D.now := by simpa [inB] using i1
    obtain ⟨hin0, hin1⟩ := hin
    have HGO : Hid ((decide (0 ≤ n) && decide (n ≤ 1000000 - D.now)) = true) := i1
    go_wp2_with (go_at_call 53; refine (withinV _ _ _ _).mono ?_; rintro e w7 ⟨rfl, rfl⟩; rw [i1])
    clear i1
    refine (takeV b w1.heap.size cap a D.tms (D.now + n) _ HP2.out (wheel_good HD.out) (by have := HD.out.2.1; omega) (wheel_heap HD.out)).mono ?_
    rintro e w3 ⟨v3, tk, cur, rfl, o3, ht, hc, p3, t3⟩
    have HB3 : Hid (Below w1.heap.size w1 w3) := HB2.out.trans (t3.below HB2.out.size HP2.out.low (fun k hk => (HP2.out.blk.2 k hk).1))
    have HP3 : Hid (HP w3 w1.heap.size b a cap cur) := p3
    have HT : Hid (Till (D.now + n) D.tms tk cur) := ht
    have HC : Hid (∀ y ∈ cur, D.now + n < y.due) := hc
    have HO3 : Hid (OwT w3 w1.heap.size v3 tk) := o3.base (by have := HB2.out.size; omega)
    have HTK : Hid (tk = D.tms.filter fun t => decide (t.due ≤ D.now + n)) := till_tk (wheel_sort HD.out) (wheel_good HD.out) ht hc
    have HLN := ht.len
    have h40 := HD.out.2.1
    obtain ⟨va, vc, rfl⟩ := o3.v.shape
    obtain ⟨lt, hlt0⟩ : ∃ lt, lt = tk.length := ⟨_, rfl⟩
    have HLT : Hid (lt = tk.length) := hlt0
    rw [← hlt0] at HO3 ⊢
    have hlt1 : (lt : Int) ≤ 40 := by omega
    have HCL : Hid (cur.length ≤ 40) := by show _ ≤ _; omega
    clear o3 ht hc p3 t3 z0 y0 HLN h40 hlt0
    go_wp2_with fail
    go_loopw [8, 35] (fun rv i wr => ∃ k : Nat, k ≤ lt ∧ i = .int .i64 k ∧ Hid (OwI wr w3.heap.size rv ((tk.take k).map fun t => t.id)) ∧ Hid (Below w3.heap.size w3 wr)) (fun _ i _ => lt - (intOf i).toNat)
    case atStart => exact ⟨0, Nat.zero_le _, rfl, World.ownsRow_nil _ _ _ _, Below.refl _ _⟩
    case round =>
      obtain ⟨k, hk, rfl, HOI, HBR⟩ := hrel
      obtain ⟨ra, rc, hrv⟩ := HOI.out.shape
      obtain ⟨lr, hlr0⟩ : ∃ lr, lr = ((tk.take k).map fun t => t.id).length := ⟨_, rfl⟩
      rw [← hlr0] at hrv
      subst hrv
      have HLR : Hid (lr = ((tk.take k).map fun t => t.id).length ∧ lr ≤ 100) := ⟨hlr0, by rw [hlr0]; have := HLT.out; simp; omega⟩
      clear hlr0
      by_cases hlt : k < lt
      · obtain ⟨s, hs⟩ : ∃ s, tk[k]? = some s := ⟨_, List.getElem?_eq_getElem (by have := HLT.out; omega)⟩
        obtain ⟨g3, ha3⟩ : ∃ g3, va = some ⟨g3, 0, none⟩ := by
          rcases HO3.out.2 with ⟨_, h0⟩ | ⟨g, c, cur', hv, _⟩
          · have := HLT.out; omega
          · simp only [Value.slice.injEq] at hv
            exact ⟨g, hv.1⟩
        subst ha3
        have HOR : Hid (OwT wr w1.heap.size (.slice (some ⟨g3, 0, none⟩) lt vc) tk) := HO3.out.kept (ext_below HBR.out) (by simp [Value.ownBlock])
        obtain ⟨c0, c1, _, _⟩ := HOR.out.cells HLT.out hs
        have HSN : Hid ((tk.take (k + 1)).map (fun t => t.id) = (tk.take k).map (fun t => t.id) ++ [s.id]) := by
          obtain ⟨hl', rfl⟩ := List.getElem?_eq_some_iff.1 hs
          rw [List.take_succ_eq_append_getElem hl', List.map_append]
          exact rfl
        have hlt' : (k : Int) < (lt : Int) := by omega
        have HBS : Hid (w3.heap.size ≤ wr.heap.size) := HBR.out.size
        clear hs
        go_wp2_with (at_builtin; refine wpList_append_i1 _ rfl (.tmp 39) (.tmp 42) rfl w3.heap.size (.slice ra lr rc) ((tk.take k).map fun t => t.id) rfl ((HOI.out.ext (World.grownBy_alloc wr _ none)).ext (World.grownBy_alloc _ _ none)) (wr.heap.size + 1) s.id (by first | rfl | simp) (by simp [go_sem]) (by have := HLR.out; omega) (by have := HBS.out; simp; omega) ?_; intro v5 w5 o5 g5)
        have HO5 : Hid (OwI w5 w3.heap.size v5 ((tk.take (k + 1)).map fun t => t.id)) := by rw [HSN.out]; exact o5
        have HB5 : Hid (Below w3.heap.size w3 w5) := ((HBR.out.alloc HBR.out.size _).alloc (by have := HBS.out; simp; omega) _).grown g5 (by have := HBS.out; simp; omega) (fun k hk => (World.ownsRow.lt HOI.out k hk).1)
        clear o5 g5
        go_roundw
        case rel => exact ⟨k + 1, by omega, by go_num, HO5, HB5⟩
        case measure => simp [intOf]; omega
      · have hkn : k = lt := by omega
        have HRI : Hid ((tk.take k).map (fun t => t.id) = tk.map fun t => t.id) := by rw [List.take_of_length_le (by have := HLT.out; omega)]; exact rfl
        have HPR : Hid (HP wr w1.heap.size b a cap cur) := HP3.out.below HBR.out
        have HBW : Hid (Below w1.heap.size w1 wr) := HB3.out.trans (HBR.out.mono HB3.out.size)
        clear hkn
        go_wp2_with fail
        refine (wheelV b w1.heap.size cap a cur (D.now + n) _ HPR.out (fun x hx => wheel_good HD.out x (HT.out.perm.mem_iff.1 (by simp [hx]))) (by have := HCL.out; omega) HT.out.heap (fun x hx => wheel_due HD.out x (HT.out.perm.mem_iff.1 (by simp [hx])))).mono ?_
        rintro e w9 ⟨v9, tk2, rfl, o9, hs9, hp9, t9⟩
        have HB9 : Hid (Below w1.heap.size w1 w9) := HBW.out.trans (t9.below HBW.out.size HPR.out.low (fun k hk => (HPR.out.blk.2 k hk).1))
        have PR9 := below_blk HB9.out hrl1 PR1
        have HEQ : Hid (tickD true D n = (⟨D.now + n, tk2⟩, (tk.take k).map fun t => t.id)) := by
          unfold tickD
          rw [if_pos rfl, HGO.out, till_cur (wheel_sort HD.out) (wheel_good HD.out) HT.out HC.out hs9 hp9, HRI.out, HTK.out]
          exact rfl
        have HRV : Hid (OwI w9 w.heap.size (.slice ra lr rc) ((tk.take k).map fun t => t.id)) := by
          have hkeep : OwI w9 w3.heap.size (.slice ra lr rc) ((tk.take k).map fun t => t.id) := by
            obtain ⟨hl', hh⟩ := HOI.out
            refine ⟨hl', ?_⟩
            rcases hh with hh | ⟨kk', c', cur', hv, hb', hg, hr⟩
            · exact .inl hh
            · refine .inr ⟨kk', c', cur', hv, hb', ?_, hr⟩
              rw [t9.block kk' (Array.getElem?_eq_some_iff.1 hg).1 (by have := HP3.out.blk.1; omega) (fun e => by
                have h1 := (HP3.out.blk.2 kk' e.symm).2
                omega)]
              exact hg
          exact hkeep.base (by have := HB1.out.size; have := HB3.out.size; omega)
        obtain ⟨xa, xc, rfl⟩ := o9.v.shape
        have HO9 : Hid (OwT w9 w.heap.size (.slice xa tk2.length xc) tk2) := o9.base (by have := HB1.out.size; have := HBW.out.size; omega)
        have HNV : Hid ((Value.slice xa tk2.length xc).ownBlock = none ∨ (Value.slice xa tk2.length xc).ownBlock ≠ some (w.heap.size + 1)) := by
          right
          intro e
          have h1 := (World.ownsRow.lt o9 _ e).1
          have := HBW.out.size
          omega
        have HNR : Hid ((Value.slice ra lr rc).ownBlock = none ∨ (Value.slice ra lr rc).ownBlock ≠ some (w.heap.size + 1)) := by
          right
          intro e
          have h1 := (World.ownsRow.lt HOI.out _ e).1
          have := HB3.out.size
          omega
        obtain ⟨x0, f0⟩ := at_block PR9 0 _ rfl
        obtain ⟨x1, f1⟩ := at_block PR9 1 _ rfl
        have HBF : Hid (Below w.heap.size w w9) := HB1.out.trans (HB9.out.mono HB1.out.size)
        clear o9 hs9 hp9 t9 PR9
        go_wp2
        refine bodyPost_ret (v := .tuple #[.agg #[.int .i64 (D.now + n), .slice xa tk2.length xc], .slice ra lr rc]) (by simp [results, Tryz.results94, go_sem, *]) rfl ?_
        rw [HEQ.out]
        exact ⟨_, _, rfl, (HO9.out.kept (set_grown _ _ _ _) HNV.out).kept (set_grown _ _ _ _) HNV.out, World.ownsRow.kept (World.ownsRow.kept HRV.out (set_grown _ _ _ _) HNR.out) (set_grown _ _ _ _) HNR.out, (HBF.out.setCell (by simp) _).setCell (by simp) _⟩

end Go.Proofs.YtnklnhnjmikooaaGreat

namespace Go.Proofs.YtnklnhnjmikooaaGreat
open Go.RowKit

/-- A wheel that may be, said of all its timers at once. -/
structure WQ (D : DWheel) : Prop where
  now : 0 ≤ D.now ∧ D.now ≤ 1000000
  len : D.tms.length ≤ 40
  all : ∀ t ∈ D.tms, (0 ≤ t.id ∧ t.id ≤ 2147483647) ∧ (D.now + 1 ≤ t.due ∧ t.due ≤ 2000000)
  sort : SortT D.tms
  ids : (D.tms.map fun t => t.id).Nodup
theorem WQ.good {D : DWheel} (h : WQ D) : GoodT D.tms := fun t ht => (h.all t ht).1
theorem wq_of {D : DWheel} (h : WheelP D) : WQ D := by
  refine ⟨h.1, h.2.1, fun t ht => ?_, wheel_sort h, ?_⟩
  · obtain ⟨i, hi⟩ := List.getElem?_of_mem ht
    have := h.2.2 i (List.getElem?_eq_some_iff.1 hi).1 t hi
    exact ⟨this.1, this.2.1⟩
  · unfold List.Nodup
    rw [List.pairwise_map, List.pairwise_iff_getElem]
    intro i j hi hj hij
    exact (h.2.2 j hj _ (List.getElem?_eq_getElem hj)).2.2.2 i _ hij (List.getElem?_eq_getElem hi)
theorem wq_to {D : DWheel} (h : WQ D) : WheelP D := by
  have hp := h.ids
  unfold List.Nodup at hp
  rw [List.pairwise_map, List.pairwise_iff_getElem] at hp
  have hs := h.sort
  unfold SortT at hs
  rw [List.pairwise_iff_getElem] at hs
  refine ⟨h.now, h.len, fun i hi t ht => ?_⟩
  obtain ⟨_, rfl⟩ := List.getElem?_eq_some_iff.1 ht
  have ha := h.all _ (List.getElem_mem hi)
  refine ⟨ha.1, ha.2, fun p hi0 hpp => ?_, fun j p hj hpp => ?_⟩
  · obtain ⟨hl, rfl⟩ := List.getElem?_eq_some_iff.1 hpp
    have hb := h.all _ (List.getElem_mem hl)
    rw [ahead_k hb.1 ha.1]
    have h1 := hs (i - 1) i hl hi (by omega)
    have h2 := hp (i - 1) i hl hi (by omega)
    have h3 : kT D.tms[i - 1] ≠ kT D.tms[i] := fun e => h2 (congrArg DTim.id (kT_inj hb.1 ha.1 e))
    simp only [decide_eq_true_eq]
    omega
  · obtain ⟨hl, rfl⟩ := List.getElem?_eq_some_iff.1 hpp
    exact hp j i hl hi hj
theorem wq_empty : WheelP ⟨0, []⟩ := wq_to ⟨by simp, by simp, fun t ht => by simp at ht, List.Pairwise.nil, by simp⟩

theorem nodup_inj {ts : List DTim} (h : (ts.map fun t => t.id).Nodup) {s t : DTim} (hs : s ∈ ts) (ht : t ∈ ts) (e : s.id = t.id) : s = t := by
  obtain ⟨i, hi⟩ := List.getElem?_of_mem hs
  obtain ⟨j, hj⟩ := List.getElem?_of_mem ht
  obtain ⟨hil, rfl⟩ := List.getElem?_eq_some_iff.1 hi
  obtain ⟨hjl, rfl⟩ := List.getElem?_eq_some_iff.1 hj
  unfold List.Nodup at h
  rw [List.pairwise_map, List.pairwise_iff_getElem] at h
  rcases Nat.lt_trichotomy i j with hij | hij | hij
  · exact absurd e (h i j hil hjl hij)
  · subst hij; rfl
  · exact absurd e.symm (h j i hjl hil hij)
theorem place_mem {ts : List DTim} {id : Int} (h : placeT ts id < 0) : ∀ t ∈ ts, t.id ≠ id := by
  intro t ht
  rcases placeT_cases ts id with ⟨_, h2⟩ | ⟨i, s, _, _, _, h4⟩
  · obtain ⟨i, hi⟩ := List.getElem?_of_mem ht
    exact h2 i t hi
  · omega
theorem place_of {ts : List DTim} {t : DTim} (hn : (ts.map fun t => t.id).Nodup) (ht : t ∈ ts) : ∃ i : Nat, placeT ts t.id = (i : Int) ∧ ts[i]? = some t := by
  rcases placeT_cases ts t.id with ⟨_, h2⟩ | ⟨i, s, h1, h2, _, h4⟩
  · obtain ⟨i, hi⟩ := List.getElem?_of_mem ht
    exact absurd rfl (h2 i t hi)
  · refine ⟨i, h4, ?_⟩
    rw [h1, nodup_inj hn (List.mem_of_getElem? h1) ht h2]
theorem lessT_no {ts : List DTim} (hn : (ts.map fun t => t.id).Nodup) (id : Int) : ∀ t ∈ lessT ts id, t.id ≠ id := by
  intro t ht
  unfold lessT at ht
  split at ht
  · rename_i h
    exact place_mem h t ht
  · rename_i h
    rcases placeT_cases ts id with ⟨h1, _⟩ | ⟨i, s, h1, h2, _, h4⟩
    · omega
    · rw [h4, Int.toNat_natCast] at ht
      intro e
      have hst : t = s := nodup_inj hn (List.mem_of_mem_eraseIdx ht) (List.mem_of_getElem? h1) (e.trans h2.symm)
      subst hst
      obtain ⟨hil, hsi⟩ := List.getElem?_eq_some_iff.1 h1
      rw [List.mem_eraseIdx_iff_getElem] at ht
      obtain ⟨j, hj, hne, hjt⟩ := ht
      unfold List.Nodup at hn
      rw [List.pairwise_map, List.pairwise_iff_getElem] at hn
      rcases Nat.lt_trichotomy i j with hij | hij | hij
      · exact hn i j hil hj hij (by rw [hsi, hjt])
      · omega
      · exact hn j i hj hil hij (by rw [hsi, hjt])
theorem lessT_nodup {ts : List DTim} (hn : (ts.map fun t => t.id).Nodup) (id : Int) : ((lessT ts id).map fun t => t.id).Nodup := by
  unfold lessT
  split
  · exact hn
  · exact List.Nodup.sublist ((List.eraseIdx_sublist ts _).map _) hn
theorem lessT_len {ts : List DTim} {id : Int} (h : ¬ (placeT ts id < 0 ∧ 40 ≤ ts.length)) (hl : ts.length ≤ 40) : (lessT ts id).length ≤ 39 := by
  unfold lessT
  split
  · omega
  · rcases placeT_cases ts id with ⟨h1, _⟩ | ⟨i, s, h1, h2, _, h4⟩
    · omega
    · have := (List.getElem?_eq_some_iff.1 h1).1
      rw [h4, Int.toNat_natCast, List.length_eraseIdx, if_pos this]
      omega
/-- A wheel in which a timer was set. -/
theorem wq_set {D : DWheel} {id after : Int} (h : WQ D) (hb : badS D id after = false) : WQ ⟨D.now, insT (lessT D.tms id) ⟨id, D.now + after⟩⟩ := by
  have hb' : (0 ≤ id ∧ id ≤ 2147483647) ∧ (1 ≤ after ∧ after ≤ 1000000) ∧ ¬ (placeT D.tms id < 0 ∧ 40 ≤ D.tms.length) := by
    simp only [badS, Bool.or_eq_false_iff, Bool.and_eq_false_iff, decide_eq_false_iff_not] at hb
    omega
  obtain ⟨hid, haf, hfull⟩ := hb'
  have hp := insT_perm (lessT D.tms id) ⟨id, D.now + after⟩
  have gl : GoodT (lessT D.tms id) := fun x hx => h.good x (lessT_sub id x hx)
  refine ⟨h.now, ?_, fun t ht => ?_, insT_sort (lessT_sort id h.sort) gl hid, ?_⟩
  · show (insT _ _).length ≤ 40
    rw [hp.length_eq]
    have := lessT_len hfull h.len
    simp
    omega
  · have := hp.mem_iff.1 ht
    rcases List.mem_append.1 this with h1 | h1
    · exact h.all t (lessT_sub id t h1)
    · have e : t = ⟨id, D.now + after⟩ := by simpa using h1
      subst e
      have := h.now
      exact ⟨hid, by simp only; omega⟩
  · have hp2 := hp.map (fun t => t.id)
    rw [hp2.nodup_iff, List.map_append]
    refine List.nodup_append.2 ⟨lessT_nodup h.ids id, by simp, fun a ha b hb => ?_⟩
    obtain ⟨t, ht, rfl⟩ := List.mem_map.1 ha
    have e : b = id := by simpa using hb
    subst e
    exact lessT_no h.ids b t ht
theorem set_mem (D : DWheel) (id after : Int) : DTim.mk id (D.now + after) ∈ insT (lessT D.tms id) ⟨id, D.now + after⟩ := (insT_perm _ _).mem_iff.2 (by simp)
/-- A wheel that went on. -/
theorem wq_tick {D : DWheel} {n : Int} (h : WQ D) (h0 : 0 ≤ n) (h1 : n ≤ 1000000 - D.now) : WQ ⟨D.now + n, D.tms.filter fun t => decide (D.now + n < t.due)⟩ := by
  have hn := h.now
  refine ⟨by simp only; omega, Nat.le_trans (List.length_filter_le _ _) h.len, fun t ht => ?_, h.sort.filter _, List.Nodup.sublist (List.filter_sublist.map _) h.ids⟩
  obtain ⟨h2, h3⟩ := List.mem_filter.1 ht
  have := h.all t h2
  simp only [decide_eq_true_eq] at h3
  refine ⟨this.1, ?_⟩
  simp only
  omega
theorem split_due {ts : List DTim} (hs : SortT ts) (hg : GoodT ts) (x : Int) : ts.filter (fun t => decide (t.due ≤ x)) ++ ts.filter (fun t => decide (x < t.due)) = ts := by
  have hneg : (fun t : DTim => decide (x < t.due)) = fun t => !decide (t.due ≤ x) := by
    funext t
    by_cases h : t.due ≤ x
    · first | (simp [h]; done) | (simp [h]; omega)
    · first | (simp [h]; done) | (simp [h]; omega)
  have hp : (ts.filter (fun t => decide (t.due ≤ x)) ++ ts.filter (fun t => decide (x < t.due))).Perm ts := by
    rw [hneg]
    exact List.filter_append_perm _ _
  refine sort_uniq (List.pairwise_append.2 ⟨hs.filter _, hs.filter _, fun a ha b hb => ?_⟩) hs (hg.perm hp) hp
  obtain ⟨a1, a2⟩ := List.mem_filter.1 ha
  obtain ⟨b1, b2⟩ := List.mem_filter.1 hb
  simp only [decide_eq_true_eq] at a2 b2
  have := hg a a1
  have := hg b b1
  unfold kT
  omega
/-- Moments one by one ring like many at once. -/
theorem tick_two {ts : List DTim} (hs : SortT ts) (hg : GoodT ts) {x y : Int} (hxy : x ≤ y) : (ts.filter (fun t => decide (x < t.due))).filter (fun t => decide (y < t.due)) = ts.filter (fun t => decide (y < t.due)) ∧ ts.filter (fun t => decide (t.due ≤ x)) ++ (ts.filter (fun t => decide (x < t.due))).filter (fun t => decide (t.due ≤ y)) = ts.filter (fun t => decide (t.due ≤ y)) := by
  refine ⟨?_, ?_⟩
  · rw [List.filter_filter]
    refine List.filter_congr fun t _ => ?_
    by_cases h : y < t.due
    · have : x < t.due := by omega
      simp [h, this]
    · simp [h]
  · have h1 := congrArg (List.filter fun t => decide (t.due ≤ y)) (split_due hs hg x)
    rw [List.filter_append] at h1
    rw [← h1]
    congr 1
    rw [List.filter_filter]
    refine List.filter_congr fun t _ => ?_
    by_cases h : t.due ≤ x
    · have : t.due ≤ y := by omega
      simp [h, this]
    · simp [h]

end Go.Proofs.YtnklnhnjmikooaaGreat

namespace Go.Proofs.YtnklnhnjmikooaaGreat
open Go.RowKit

/-- The wheel D with this timer set. -/
def setW (D : DWheel) (id after : Int) : DWheel := ⟨D.now, insT (lessT D.tms id) ⟨id, D.now + after⟩⟩
theorem bad_no {D : DWheel} {id after : Int} (hb : badS D id after = false) : (0 ≤ id ∧ id ≤ 2147483647) ∧ (1 ≤ after ∧ after ≤ 1000000) := by
  simp only [badS, Bool.or_eq_false_iff, Bool.and_eq_false_iff, decide_eq_false_iff_not] at hb
  omega
theorem set_good {D : DWheel} {id after : Int} (hb : badS D id after = false) : setD true D id after = (setW D id after, true) := by
  unfold setD
  rw [if_pos rfl, hb]
  exact rfl
theorem set_bad {D : DWheel} {id after : Int} (hb : badS D id after = true) : setD true D id after = (D, false) := by
  unfold setD
  rw [if_pos rfl, hb]
  exact rfl
theorem setW_p {D : DWheel} {id after : Int} (h : WheelP D) (hb : badS D id after = false) : WheelP (setW D id after) := wq_to (wq_set (wq_of h) hb)
theorem setW_left {D : DWheel} {id after : Int} (h : WheelP D) (hb : badS D id after = false) : leftB true (setW D id after) id = (after, true) := by
  obtain ⟨i, h1, h2⟩ := place_of (wq_set (wq_of h) hb).ids (set_mem D id after)
  simp only at h1
  unfold leftB setW
  simp only [if_true]
  rw [h1, if_neg (by omega), Int.toNat_natCast, h2]
  simp only [Prod.mk.injEq, and_true]
  omega
theorem setW_next {D : DWheel} {id after : Int} (h : WheelP D) (hb : badS D id after = false) : ∃ nx, nextB true (setW D id after) = (nx, true) ∧ nx ≤ after ∧ 1 ≤ nx := by
  have hq := wq_set (wq_of h) hb
  have hm := set_mem D id after
  obtain ⟨j, hj⟩ := List.getElem?_of_mem hm
  have hjl := (List.getElem?_eq_some_iff.1 hj).1
  obtain ⟨t, ht⟩ : ∃ t, (insT (lessT D.tms id) ⟨id, D.now + after⟩)[0]? = some t := ⟨_, List.getElem?_eq_getElem (by omega)⟩
  have htm := List.mem_of_getElem? ht
  have hk : kT t ≤ kT ⟨id, D.now + after⟩ := by
    have hs := hq.sort
    unfold SortT at hs
    rw [List.pairwise_iff_getElem] at hs
    obtain ⟨h0l, h0e⟩ := List.getElem?_eq_some_iff.1 ht
    obtain ⟨_, hje⟩ := List.getElem?_eq_some_iff.1 hj
    by_cases e : j = 0
    · subst e
      rw [ht] at hj
      cases hj
      omega
    · have := hs 0 j h0l hjl (by omega)
      rw [h0e, hje] at this
      exact this
  have hd := kT_due (hq.all t htm).1 (hq.all _ hm).1 hk
  refine ⟨t.due - D.now, ?_, ?_, ?_⟩
  · unfold nextB setW
    simp only [if_true]
    rw [ht]
  · simp only at hd
    omega
  · have := (hq.all t htm).2.1
    simp only at this
    omega
theorem lessT_at {X : List DTim} {id : Int} {i : Nat} (h : placeT X id = (i : Int)) : lessT X id = X.eraseIdx i := by
  unfold lessT
  rw [h, if_neg (by omega), Int.toNat_natCast]
theorem setW_stop {D : DWheel} {id after : Int} (h : WheelP D) (hb : badS D id after = false) : ∃ S, stopD true (setW D id after) id = (S, true) ∧ ∀ c, leftB c S id = (0, false) := by
  have hq := wq_set (wq_of h) hb
  obtain ⟨i, h1, h2⟩ := place_of hq.ids (set_mem D id after)
  simp only at h1
  refine ⟨⟨D.now, (insT (lessT D.tms id) ⟨id, D.now + after⟩).eraseIdx i⟩, ?_, fun c => ?_⟩
  · unfold stopD setW
    simp only [if_true]
    rw [h1, if_neg (by omega), Int.toNat_natCast]
  · have hno := lessT_no hq.ids id
    have hl := lessT_at h1
    simp only at hno
    have hp : placeT ((insT (lessT D.tms id) ⟨id, D.now + after⟩).eraseIdx i) id = -1 := placeT_none fun j t ht => by
      refine hno t ?_
      show t ∈ lessT (insT (lessT D.tms id) ⟨id, D.now + after⟩) id
      rw [hl]
      exact List.mem_of_getElem? ht
    cases c with
    | false => rfl
    | true =>
      unfold leftB
      simp only [if_true]
      rw [hp, if_pos (by omega)]
/-- Moments one by one and at once. -/
theorem setW_tick {D : DWheel} {id after n : Int} (h : WheelP D) (hb : badS D id after = false) (hf : after ≤ 1000000 - D.now) (h0 : 0 ≤ n) (h1 : n < after) :
    ∃ Y A B C Z, tickD true (setW D id after) n = (Y, A) ∧ WheelP Y ∧ tickD true Y (after - n) = (Z, B) ∧ tickD true (setW D id after) after = (Z, C) ∧ A ++ B = C ∧ id ∈ C ∧ id ∉ A ∧ C.length ≤ 40 ∧ Z.tms.length ≤ 40 := by
  have hq := wq_set (wq_of h) hb
  have hm := set_mem D id after
  obtain ⟨X, hX⟩ : ∃ X, X = insT (lessT D.tms id) ⟨id, D.now + after⟩ := ⟨_, rfl⟩
  have hqX : WQ ⟨D.now, X⟩ := by rw [hX]; exact hq
  rw [← hX] at hm
  have hY := wq_tick hqX h0 (by simp only; omega)
  have t1 : tickD true ⟨D.now, X⟩ n = (⟨D.now + n, X.filter fun t => decide (D.now + n < t.due)⟩, (X.filter fun t => decide (t.due ≤ D.now + n)).map fun t => t.id) := by
    unfold tickD
    rw [if_pos rfl, if_pos (by simp only [Bool.and_eq_true, decide_eq_true_eq]; omega)]
  have t3 : tickD true ⟨D.now, X⟩ after = (⟨D.now + after, X.filter fun t => decide (D.now + after < t.due)⟩, (X.filter fun t => decide (t.due ≤ D.now + after)).map fun t => t.id) := by
    unfold tickD
    rw [if_pos rfl, if_pos (by simp only [Bool.and_eq_true, decide_eq_true_eq]; omega)]
  obtain ⟨e1, e2⟩ := tick_two hqX.sort hqX.good (x := D.now + n) (y := D.now + after) (by omega)
  have t2 : tickD true ⟨D.now + n, X.filter fun t => decide (D.now + n < t.due)⟩ (after - n) = (⟨D.now + after, X.filter fun t => decide (D.now + after < t.due)⟩, ((X.filter fun t => decide (D.now + n < t.due)).filter fun t => decide (t.due ≤ D.now + after)).map fun t => t.id) := by
    unfold tickD
    rw [if_pos rfl, if_pos (by simp only [Bool.and_eq_true, decide_eq_true_eq]; omega)]
    simp only
    rw [show D.now + n + (after - n) = D.now + after by omega, e1]
  have eS : setW D id after = ⟨D.now, X⟩ := by unfold setW; rw [hX]
  rw [eS]
  refine ⟨_, _, _, _, _, t1, wq_to hY, t2, t3, ?_, ?_, ?_, ?_, Nat.le_trans (List.length_filter_le _ _) hqX.len⟩
  · rw [← List.map_append, e2]
  · exact List.mem_map.2 ⟨⟨id, D.now + after⟩, List.mem_filter.2 ⟨hm, by simp⟩, rfl⟩
  · intro hin
    obtain ⟨t, ht, hid⟩ := List.mem_map.1 hin
    obtain ⟨ht1, ht2⟩ := List.mem_filter.1 ht
    have : t = ⟨id, D.now + after⟩ := nodup_inj hqX.ids ht1 hm hid
    subst this
    simp only [decide_eq_true_eq] at ht2
    omega
  · rw [List.length_map]
    exact Nat.le_trans (List.length_filter_le _ _) hqX.len

end Go.Proofs.YtnklnhnjmikooaaGreat

namespace Go.Proofs.YtnklnhnjmikooaaGreat
open Go.RowKit

/-- The timers whose sessions are there. -/
def keepT (ss : List DSess) (ts : List DTim) : List DTim := ts.filter (fun t => hasI ss t.id)
/-- One timer more for each session that has none, and whether any came. -/
def addS (ttl : Int) (ss : List DSess) (W : DWheel) (b : Bool) : DWheel × Bool := ss.foldl (fun p s => if placeT p.1.tms s.id < 0 then ((setD true p.1 s.id ttl).1, true) else p) (W, b)
def goneT (ss : List DSess) (ts : List DTim) : Bool := ts.any (fun t => !hasI ss t.id)
def syncW (D : DDuty) (ss : List DSess) : DWheel × Bool := addS D.ttl ss ⟨D.wh.now, keepT ss D.wh.tms⟩ (goneT ss D.wh.tms)

theorem wheel_sub {now : Int} {ts ts' : List DTim} (h : WheelP ⟨now, ts⟩) (s : ts'.Sublist ts) : WheelP ⟨now, ts'⟩ := by
  have q := wq_of h
  refine wq_to ⟨q.now, Nat.le_trans s.length_le q.len, fun t ht => q.all t (s.mem ht), q.sort.sublist s, ?_⟩
  exact q.ids.sublist (s.map _)
theorem stop_mid {now : Int} {A B : List DTim} {t : DTim} (h : WheelP ⟨now, A ++ t :: B⟩) : stopD true ⟨now, A ++ t :: B⟩ t.id = (⟨now, A ++ B⟩, true) := by
  have q := (wq_of h).ids
  have hA : ∀ s ∈ A, s.id ≠ t.id := fun s hs e => by
    simp only [List.map_append, List.map_cons] at q
    have := (List.nodup_append.1 q).2.2
    exact this s.id (List.mem_map_of_mem hs) t.id (by simp) e
  have hp : placeT (A ++ t :: B) t.id = (A.length : Int) := placeT_some (t := t) (by simp) rfl (fun j u hj hu => by
    rw [List.getElem?_append_left hj] at hu
    exact hA u (List.mem_of_getElem? hu))
  unfold stopD
  rw [if_pos rfl]
  simp only [hp]
  rw [if_neg (by omega), Int.toNat_natCast, List.eraseIdx_append_of_length_le (Nat.le_refl _), Nat.sub_self]
  rfl
theorem keep_sub (ss : List DSess) (ts : List DTim) (j : Nat) : (keepT ss (ts.take j) ++ ts.drop j).Sublist ts := by
  have h : ts = ts.take j ++ ts.drop j := (List.take_append_drop j ts).symm
  have h2 : (keepT ss (ts.take j) ++ ts.drop j).Sublist (ts.take j ++ ts.drop j) := (List.filter_sublist).append_right _
  rw [← h] at h2
  exact h2
theorem keep_next {ss : List DSess} {ts : List DTim} {j : Nat} {t : DTim} (h : ts[j]? = some t) : keepT ss (ts.take (j + 1)) = keepT ss (ts.take j) ++ (if hasI ss t.id then [t] else []) := by
  have : ts.take (j + 1) = ts.take j ++ [t] := by rw [List.take_add_one, h]; rfl
  rw [this]
  unfold keepT
  rw [List.filter_append]
  congr 1
  cases hq : hasI ss t.id <;> simp [hq]
theorem gone_next {ss : List DSess} {ts : List DTim} {j : Nat} {t : DTim} (h : ts[j]? = some t) : goneT ss (ts.take (j + 1)) = (goneT ss (ts.take j) || !hasI ss t.id) := by
  have : ts.take (j + 1) = ts.take j ++ [t] := by rw [List.take_add_one, h]; rfl
  rw [this]
  unfold goneT
  simp
theorem drop_next {ts : List DTim} {j : Nat} {t : DTim} (h : ts[j]? = some t) : ts.drop j = t :: ts.drop (j + 1) := by
  obtain ⟨hl, rfl⟩ := List.getElem?_eq_some_iff.1 h
  exact List.drop_eq_getElem_cons hl
theorem addS_next {ttl : Int} {ss : List DSess} {W : DWheel} {b : Bool} {j : Nat} {s : DSess} (h : ss[j]? = some s) : addS ttl (ss.take (j + 1)) W b = if placeT (addS ttl (ss.take j) W b).1.tms s.id < 0 then ((setD true (addS ttl (ss.take j) W b).1 s.id ttl).1, true) else addS ttl (ss.take j) W b := by
  have : ss.take (j + 1) = ss.take j ++ [s] := by rw [List.take_add_one, h]; rfl
  rw [this]
  unfold addS
  rw [List.foldl_append]
  rfl
theorem setD_now (W : DWheel) (id after : Int) : (setD true W id after).1.now = W.now := by
  cases hb : badS W id after
  · rw [set_good hb]; rfl
  · rw [set_bad hb]
theorem setD_p {W : DWheel} {id after : Int} (h : WheelP W) : WheelP (setD true W id after).1 := by
  cases hb : badS W id after
  · rw [set_good hb]; exact setW_p h hb
  · rw [set_bad hb]; exact h
theorem addS_p (ttl : Int) (ss : List DSess) : ∀ {W : DWheel} {b : Bool}, WheelP W → WheelP (addS ttl ss W b).1 ∧ (addS ttl ss W b).1.now = W.now := by
  induction ss with
  | nil => exact fun h => ⟨h, rfl⟩
  | cons s ss ih =>
    intro W b h
    have e : addS ttl (s :: ss) W b = if placeT W.tms s.id < 0 then addS ttl ss (setD true W s.id ttl).1 true else addS ttl ss W b := by
      unfold addS
      rw [List.foldl_cons]
      split <;> rfl
    rw [e]
    split
    · have h2 := ih (W := (setD true W s.id ttl).1) (b := true) (setD_p h)
      exact ⟨h2.1, h2.2.trans (setD_now _ _ _)⟩
    · exact ih h
theorem syncW_p {D : DDuty} (ss : List DSess) (h : WheelP D.wh) : WheelP (syncW D ss).1 ∧ (syncW D ss).1.now = D.wh.now :=
  addS_p D.ttl ss (wheel_sub (now := D.wh.now) (ts := D.wh.tms) h List.filter_sublist)

set_option maxRecDepth 20000 in
set_option maxHeartbeats 2000000 in
theorem kStopV (h base cap : Nat) (ttl now : Int) (a : Option Addr) (ts : List DTim) (id : Int) (w : World) (p : KB w base h ttl now a cap ts) (hb : base ≤ w.heap.size) (hl : ts.length ≤ 1048576) :
    Calls Tryz.prog 84 #[.pointer (some ⟨h, 0, none⟩), .int .i64 id] w fun e w' => e = .returned (.tuple #[]) ∧ KSet base h ttl (stopD (tB (WheelP ⟨now, ts⟩)) ⟨now, ts⟩ id).1 w w' := by
  obtain ⟨c0, c1, _, _, _⟩ := p.cells
  have HP : Hid (KB w base h ttl now a cap ts) := p
  have HBB : Hid (base ≤ w.heap.size) := hb
  have HL : Hid (ts.length ≤ 1048576) := hl
  obtain ⟨n, hn⟩ : ∃ n, n = ts.length := ⟨_, rfl⟩
  rw [← hn] at c1
  have HV : Hid (VTims w (.slice a n cap) ts) := by rw [hn]; exact p.row.v
  obtain ⟨⟨R, rb⟩, hR⟩ : ∃ R, R = stopD (tB (WheelP ⟨now, ts⟩)) ⟨now, ts⟩ id := ⟨_, rfl⟩
  rw [← hR]
  have HR : Hid ((R, rb) = stopD (tB (WheelP ⟨now, ts⟩)) ⟨now, ts⟩ id) := hR
  clear hn p hR hb hl
  go_enter Tryz.func84, Tryz.ntmps84
  go_wp2_with fail
  refine (iStopV _ ⟨now, ts⟩ id w ⟨_, rfl, HV.out⟩ HL.out).mono ?_
  rintro e w1 ⟨tv, rfl, o1, b1⟩
  rw [← HR.out] at o1 ⊢
  obtain ⟨m, hm⟩ : ∃ m, m = R.tms.length := ⟨_, rfl⟩
  obtain ⟨a1, c1', rfl⟩ := o1.v.shape
  have HO : Hid (OwT w1 w.heap.size (.slice a1 R.tms.length c1') R.tms) := o1
  have HM : Hid (m = R.tms.length) := hm
  rw [← hm]
  have P1 := below_blk b1 (Array.getElem?_eq_some_iff.1 HP.out.box).1 HP.out.box
  obtain ⟨x0, f0⟩ := at_block P1 0 _ rfl
  obtain ⟨x1, f1⟩ := at_block P1 1 _ rfl
  have HB1 := hideD b1
  clear o1 hm b1 P1 c0 c1
  go_wp2
  go_end0
  refine ⟨rfl, a1, c1', ?_⟩
  rw [HM.out]
  exact HP.out.put HB1.out HBB.out HO.out _ _ rfl rfl

end Go.Proofs.YtnklnhnjmikooaaGreat

namespace Go.Proofs.YtnklnhnjmikooaaGreat
open Go.RowKit

theorem KSet.trans {base h : Nat} {ttl : Int} {R : DWheel} {w w1 w2 : World} (g : w.grownBy w1 (some h)) (k : KSet base h ttl R w1 w2) : KSet base h ttl R w w2 := by
  obtain ⟨a, c, k1, k2⟩ := k
  exact ⟨a, c, k1, g.trans k2⟩

set_option maxRecDepth 20000 in
set_option maxHeartbeats 4000000 in
theorem ksyncV (h base cap : Nat) (ttl now : Int) (a : Option Addr) (ts : List DTim) (sv : Value) (ss : List DSess) (w0 w : World) (p : KB w base h ttl now a cap ts) (hb : base ≤ w.heap.size) (hp : WheelP ⟨now, ts⟩) (hv : VSess w0 sv ss) (hx : Below w0.heap.size w0 w) (hh : w0.heap.size ≤ h) (hl : ss.length ≤ 1000000) :
    Calls Tryz.prog 38 #[.pointer (some ⟨h, 0, none⟩), sv] w fun e w' => e = .returned (.bool (syncW ⟨ttl, ⟨now, ts⟩⟩ ss).2) ∧ KSet base h ttl (syncW ⟨ttl, ⟨now, ts⟩⟩ ss).1 w w' := by
  have hE : ∀ w : World, ∀ o, Ext w (w.alloc o) := fun w o => World.grownBy_alloc _ _ _
  obtain ⟨C, ⟨sa, sc, rfl, h1, h2, h3⟩, hC⟩ := hv
  obtain ⟨m, hm⟩ : ∃ m, m = ss.length := ⟨_, rfl⟩
  have HVS : Hid (VSess w0 (.slice sa m sc) ss) := ⟨C, ⟨sa, sc, by rw [hm], h1, h2, h3⟩, hC⟩
  have HC : Hid (∀ (i : Nat) (r : DSess), ss[i]? = some r → C i 0 = .int .i64 r.id ∧ C i 1 = .bool r.del) := hC
  rw [← hm] at h1 h3 ⊢
  have H3 : Hid (0 < m → ∃ b o, sa = some ⟨b, o, none⟩ ∧ b < w0.heap.size ∧ ∀ i, i < m → ∀ j, j < 2 → w0.cell? ⟨b, o + i * 2 + j, none⟩ = some (C i j)) := h3
  have HMM := hideD hm
  have HX := hideD hx
  have HH := hideD hh
  have HBB := hideD hb
  have HWP := hideD hp
  have hml : (m : Int) ≤ 1000000 := by omega
  obtain ⟨n, hn⟩ : ∃ n, n = ts.length := ⟨_, rfl⟩
  have HN := hideD hn
  have HP : Hid (KB w base h ttl now a cap ts) := p
  obtain ⟨c0, c1, c2, _, _⟩ := p.cells
  have HNR : Hid (some h ≠ (Value.slice a n cap).ownBlock) := by rw [hn]; exact ne_row p.row p.box (by decide)
  rw [← hn] at c1
  have hnl : n ≤ 40 := by rw [hn]; exact hp.2.1
  have HV : Hid (∀ W, w.grownBy W (some h) → VTims W (.slice a n cap) ts) := fun W g => by
    rw [hn]
    exact OwT.v (p.row.kept g (by
      have := HNR.out
      rw [hn] at this
      cases hv : (Value.slice a ts.length cap).ownBlock with
      | none => exact .inl rfl
      | some k => exact .inr (fun e => by rw [hv] at this; exact this e.symm)))
  obtain ⟨R, hR⟩ : ∃ R, R = syncW ⟨ttl, ⟨now, ts⟩⟩ ss := ⟨_, rfl⟩
  rw [← hR]
  have HR : Hid (R = syncW ⟨ttl, ⟨now, ts⟩⟩ ss) := hR
  unfold maxLen at h2
  clear hC hm hx hh hb hp hn p h3 hR
  go_enter Tryz.func38, Tryz.ntmps38
  go_wp2_with fail
  go_loopw [5, 16] (fun b i wr => ∃ j : Nat, j ≤ n ∧ b = .bool (goneT ss (ts.take j)) ∧ i = .int .i64 j ∧ Hid (KSet base h ttl ⟨now, keepT ss (ts.take j) ++ ts.drop j⟩ w wr)) (fun _ i _ => n - (intOf i).toNat)
  case atStart => exact ⟨0, Nat.zero_le _, rfl, rfl, a, cap, HP.out, World.grownBy.refl _ _⟩
  case round =>
    obtain ⟨j, hj, rfl, rfl, HK⟩ := hrel
    clear c0 c1 c2
    obtain ⟨HG, HKB⟩ : Hid (w.grownBy wr (some h)) ∧ Hid (∃ a2 cap2, KB wr base h ttl now a2 cap2 (keepT ss (ts.take j) ++ ts.drop j)) := by
      obtain ⟨a2, cap2, k1, k2⟩ := HK.out
      exact ⟨k2, a2, cap2, k1⟩
    have HB0 : Hid (Below w0.heap.size w0 wr) := HX.out.grown HG.out HX.out.size (fun k hk => by cases hk; exact HH.out)
    have HSZ := hideD HG.out.size
    by_cases hlt : j < n
    · obtain ⟨t, ht⟩ : ∃ t, ts[j]? = some t := ⟨_, List.getElem?_eq_getElem (by have := HN.out; omega)⟩
      obtain ⟨C1, ⟨a1, cap1, e1, q1, q2, q3⟩, hC1⟩ := HV.out wr HG.out
      rw [← HN.out] at e1 q1 q3
      injection e1 with e2 _ e3
      obtain ⟨b, o, ha, hbl, hc⟩ := q3 (by omega)
      rw [← e2] at ha
      subst ha
      obtain ⟨f0, f1⟩ := hC1 j t ht
      have x0 := hc j hlt 0 (by omega)
      have x1 := hc j hlt 1 (by omega)
      rw [f0, Nat.add_zero] at x0
      rw [f1] at x1
      have HT := hideD ht
      have hlt' : (j : Int) < (n : Int) := by omega
      have hcl : cap ≤ 9223372036854775807 := by rw [e3]; unfold maxLen at q2; omega
      have hcn : n ≤ cap := by rw [e3]; exact q1
      clear e2 e3 q1 q2 q3 hC1 f0 f1 hc ht HK hcl hcn
      go_wp2_with fail
      generalize hW : wr.alloc _ = W1
      have XW : Ext wr W1 := by rw [← hW]; exact hE _ _
      have P7 : W1.heap[wr.heap.size]? = some (.cells #[.int .i64 t.id, .int .i64 t.due] 114 (0, 0)) := by rw [← hW]; exact heap_alloc_new _ _
      clear hW
      refine (hasSessV _ ss t.id W1 ((HVS.out.ext (ext_below HB0.out)).ext XW)).mono ?_
      rintro e w2 ⟨rfl, b2⟩
      have X2 : Ext wr w2 := XW.trans (ext_below b2)
      have P72 := below_blk b2 (Array.getElem?_eq_some_iff.1 P7).1 P7
      obtain ⟨z0, _⟩ := at_block P72 0 _ rfl
      have HX2 := hideD X2
      have HP72 := hideD P72
      clear x0 x1 b2 P7 XW X2 P72
      cases hh : hasI ss t.id
      · have HGN : Hid (goneT ss (ts.take (j + 1)) = true) := by show _ = _; rw [gone_next HT.out, hh]; simp
        have HKN : Hid (keepT ss (ts.take (j + 1)) = keepT ss (ts.take j)) := by show _ = _; rw [keep_next HT.out, hh]; simp
        have HST : Hid (∀ q, Calls Tryz.prog 84 #[.pointer (some ⟨h, 0, none⟩), .int .i64 t.id] (w2.drewN q) fun e w' => e = .returned (.tuple #[]) ∧ w'.cell? ⟨wr.heap.size, 0, none⟩ = some (.int .i64 t.id) ∧ Hid (KSet base h ttl ⟨now, keepT ss (ts.take (j + 1)) ++ ts.drop (j + 1)⟩ w w')) := fun q => by
          obtain ⟨a2, cap2, kb⟩ := HKB.out
          have hwp := wheel_sub HWP.out (keep_sub ss ts j)
          have hkb := kb.below (ext_bel (HX2.out.trans (ext_drewN w2 q)))
          refine (kStopV h base cap2 ttl now a2 _ t.id (w2.drewN q) hkb (Nat.le_trans HBB.out (Nat.le_trans HSZ.out (by have := HX2.out.size; exact this))) (Nat.le_trans (show _ ≤ 40 from hwp.2.1) (by omega))).mono ?_
          rintro e w' ⟨rfl, k⟩
          rw [tB_true hwp] at k
          rw [drop_next HT.out] at hwp k
          rw [stop_mid hwp] at k
          obtain ⟨a3, cap3, k1, k2⟩ := k
          refine ⟨rfl, ?_, ?_⟩
          · refine k2.cell (show (w2.drewN q).cell? _ = _ from (at_block HP72.out 0 _ rfl).1) ?_
            have := (Array.getElem?_eq_some_iff.1 kb.box).1
            simp
            omega
          · rw [HKN.out]
            exact ⟨a3, cap3, k1, (HG.out.trans ((grown_below (ext_bel (HX2.out.trans (ext_drewN w2 q))) (some h)))).trans k2⟩
        clear hh
        go_wp2_with fail
        go_region_held3 (fun w' => w'.cell? ⟨wr.heap.size, 0, none⟩ = some (.int .i64 t.id)) (simp [*]) (first | (go_at_call 84; refine (HST.out 1).mono ?_; rintro e w3 ⟨rfl, z3, K3⟩))
        all_goals
          go_wp2
          go_roundw
          case rel => exact ⟨j + 1, by omega, by rw [HGN.out], by go_num, K3⟩
          case measure => simp [intOf]; omega
      · have HGN : Hid (goneT ss (ts.take (j + 1)) = goneT ss (ts.take j)) := by show _ = _; rw [gone_next HT.out, hh]; simp
        have HKS : Hid (KSet base h ttl ⟨now, keepT ss (ts.take (j + 1)) ++ ts.drop (j + 1)⟩ w w2) := by
          obtain ⟨a2, cap2, kb⟩ := HKB.out
          refine ⟨a2, cap2, ?_, HG.out.trans (grown_below (ext_bel HX2.out) _)⟩
          have e : keepT ss (ts.take (j + 1)) ++ ts.drop (j + 1) = keepT ss (ts.take j) ++ ts.drop j := by
            rw [keep_next HT.out, hh, if_pos rfl, drop_next HT.out]
            simp
          have := kb.below (ext_bel HX2.out)
          rw [← e] at this
          exact this
        clear hh
        go_wp2
        go_roundw
        case rel => exact ⟨j + 1, by omega, by rw [HGN.out], by go_num, HKS⟩
        case measure => simp [intOf]; omega
    · have hjn : j = n := by omega
      subst hjn
      obtain ⟨wo, hwo⟩ : ∃ wo, wo = wr := ⟨_, rfl⟩
      subst hwo
      have hE1 : keepT ss (ts.take j) ++ ts.drop j = keepT ss ts := by rw [List.take_of_length_le (by have := HN.out; omega), List.drop_of_length_le (by have := HN.out; omega), List.append_nil]
      have hE2 : goneT ss (ts.take j) = goneT ss ts := by rw [List.take_of_length_le (by have := HN.out; omega)]
      rw [hE1] at HK
      rw [hE2]
      obtain ⟨W0, hW0⟩ : ∃ W0, W0 = (⟨now, keepT ss ts⟩ : DWheel) := ⟨_, rfl⟩
      obtain ⟨b0, hb0⟩ : ∃ b0, b0 = goneT ss ts := ⟨_, rfl⟩
      have HW0 : Hid (WheelP W0) := by rw [hW0]; exact wheel_sub HWP.out List.filter_sublist
      have HRR : Hid (R = addS ttl ss W0 b0) := by show _ = _; rw [HR.out, hW0, hb0]; rfl
      rw [← hW0] at HK
      rw [← hb0]
      clear hE1 hE2 hW0 hb0 HKB HB0 HG hlt hj
      go_wp2
      go_loopw [5, 34] (fun b i wr => ∃ j : Nat, j ≤ m ∧ b = .bool (addS ttl (ss.take j) W0 b0).2 ∧ i = .int .i64 j ∧ Hid (KSet base h ttl (addS ttl (ss.take j) W0 b0).1 w wr)) (fun _ i _ => m - (intOf i).toNat)
      case atStart => exact ⟨0, Nat.zero_le _, rfl, rfl, HK⟩
      case round =>
        clear HK
        obtain ⟨j, hj, rfl, rfl, HK⟩ := hrel
        obtain ⟨⟨W, fl⟩, hWf⟩ : ∃ p, p = addS ttl (ss.take j) W0 b0 := ⟨_, rfl⟩
        have HWF : Hid ((W, fl) = addS ttl (ss.take j) W0 b0) := hWf
        rw [← hWf] at HK ⊢
        have HWP2 : Hid (WheelP W) := by have := (addS_p ttl (ss.take j) (b := b0) HW0.out).1; rw [← hWf] at this; exact this
        clear hWf
        obtain ⟨HG, HKB⟩ : Hid (w.grownBy wr (some h)) ∧ Hid (∃ a2 cap2, KB wr base h ttl W.now a2 cap2 W.tms) := by
          obtain ⟨a2, cap2, k1, k2⟩ := HK.out
          exact ⟨k2, a2, cap2, k1⟩
        have HB0 : Hid (Below w0.heap.size w0 wr) := HX.out.grown HG.out HX.out.size (fun k hk => by cases hk; exact HH.out)
        have HSZ := hideD HG.out.size
        by_cases hlt : j < m
        · obtain ⟨s, hs⟩ : ∃ s, ss[j]? = some s := ⟨_, List.getElem?_eq_getElem (by have := HMM.out; omega)⟩
          obtain ⟨b, o, ha, hbl, hc⟩ := H3.out (by omega)
          subst ha
          obtain ⟨f0, f1⟩ := HC.out j s hs
          have x0 := World.grownBy.cell (ext_below HB0.out) (hc j hlt 0 (by omega)) (by simp)
          have x1 := World.grownBy.cell (ext_below HB0.out) (hc j hlt 1 (by omega)) (by simp)
          rw [f0, Nat.add_zero] at x0
          rw [f1] at x1
          have HS := hideD hs
          have hlt' : (j : Int) < (m : Int) := by omega
          clear hbl f0 f1 hc hs HK
          go_upto_region 12 with fail
          generalize hW : wr.alloc _ = W1
          have XW : Ext wr W1 := by rw [← hW]; exact hE _ _
          have P7 : W1.heap[wr.heap.size]? = some (.cells #[.int .i64 s.id, .bool s.del] 121 (0, 0)) := by rw [← hW]; exact heap_alloc_new _ _
          clear hW x0 x1
          have HXW := hideD XW
          have HP7 := hideD P7
          have HHAS : Hid (∀ q, Calls Tryz.prog 85 #[.pointer (some ⟨h, 0, none⟩), .int .i64 s.id] (W1.drewN q) fun e w' => e = .returned (.bool (!decide (placeT W.tms s.id < 0))) ∧ w'.cell? ⟨wr.heap.size, 0, none⟩ = some (.int .i64 s.id) ∧ Hid (Ext wr w') ∧ Hid (w'.heap[wr.heap.size]? = some (.cells #[.int .i64 s.id, .bool s.del] 121 (0, 0)))) := fun q => by
            obtain ⟨a2, cap2, kb⟩ := HKB.out
            refine (hasV h base cap2 ttl W.now a2 W.tms s.id (W1.drewN q) (kb.below (ext_bel (HXW.out.trans (ext_drewN W1 q)))) HWP2.out).mono ?_
            rintro e w' ⟨rfl, b⟩
            have P9 := below_blk b (show wr.heap.size < (W1.drewN q).heap.size from (Array.getElem?_eq_some_iff.1 HP7.out).1) (show (W1.drewN q).heap[wr.heap.size]? = _ from HP7.out)
            exact ⟨rfl, (at_block P9 0 _ rfl).1, (HXW.out.trans (ext_drewN W1 q)).trans (ext_below b), P9⟩
          obtain ⟨z0, _⟩ := at_block P7 0 _ rfl
          clear XW P7
          obtain ⟨pn, hpn⟩ : ∃ pn, pn = decide (placeT W.tms s.id < 0) := ⟨_, rfl⟩
          have HPN := hideD hpn
          rw [← hpn] at HHAS
          clear hpn
          go_cut [44] from 38 to 44 (fun c wx => ∃ wy, wx = wy ∧ c = .bool pn ∧ Hid (Ext wr wy) ∧ Hid (wy.heap[wr.heap.size]? = some (.cells #[.int .i64 s.id, .bool s.del] 121 (0, 0))))
          case first =>
            go_region_held3 (fun w' => w'.cell? ⟨wr.heap.size, 0, none⟩ = some (.int .i64 s.id)) (simp [*]) (first | (go_at_call 85; refine (HHAS.out 1).mono ?_; rintro e w3 ⟨rfl, z3, X3, P3⟩))
            all_goals
              go_wp2_with fail
              go_meet
              exact ⟨_, rfl, by simp, X3, P3⟩
          obtain ⟨wy, hwy, rfl, HXY, HPY⟩ := hcut
          have hwy' := hwy.symm
          clear hwy
          subst hwy'
          obtain ⟨y0, _⟩ := at_block HPY.out 0 _ rfl
          clear HHAS z0
          have HNX : Hid (addS ttl (ss.take (j + 1)) W0 b0 = if pn = true then ((setD true W s.id ttl).1, true) else (W, fl)) := by
            show _ = _
            rw [addS_next HS.out, ← HWF.out, HPN.out]
            simp
          cases pn
          · have HKN : Hid (KSet base h ttl (addS ttl (ss.take (j + 1)) W0 b0).1 w wy) := by
              obtain ⟨a2, cap2, kb⟩ := HKB.out
              rw [HNX.out, if_neg (by simp)]
              exact ⟨a2, cap2, kb.below (ext_bel HXY.out), HG.out.trans (grown_below (ext_bel HXY.out) _)⟩
            have HFN : Hid ((addS ttl (ss.take (j + 1)) W0 b0).2 = fl) := by show _ = _; rw [HNX.out, if_neg (by simp)]
            go_wp2
            go_roundw
            case rel => exact ⟨j + 1, by omega, by rw [HFN.out], by go_num, HKN⟩
            case measure => simp [intOf]; omega
          · have HFN : Hid ((addS ttl (ss.take (j + 1)) W0 b0).2 = true) := by show _ = _; rw [HNX.out, if_pos rfl]
            have HREN : Hid (Calls Tryz.prog 55 #[.pointer (some ⟨h, 0, none⟩), .int .i64 s.id] wy fun e w' => e = .returned (.tuple #[]) ∧ Hid (KSet base h ttl (addS ttl (ss.take (j + 1)) W0 b0).1 w w')) := by
              obtain ⟨a2, cap2, kb⟩ := HKB.out
              refine (renewV h base cap2 ttl W.now a2 W.tms s.id wy (kb.below (ext_bel HXY.out)) (Nat.le_trans HBB.out (Nat.le_trans HSZ.out HXY.out.size)) (Nat.le_trans HWP2.out.2.1 (by omega))).mono ?_
              rintro e w' ⟨rfl, k⟩
              rw [tB_true (show WheelP ⟨W.now, W.tms⟩ from HWP2.out)] at k
              refine ⟨rfl, ?_⟩
              rw [HNX.out, if_pos rfl]
              exact KSet.trans (HG.out.trans (grown_below (ext_bel HXY.out) _)) k
            go_wp2_with fail
            refine HREN.out.mono ?_
            rintro e w5 ⟨rfl, K5⟩
            go_wp2
            go_roundw
            case rel => exact ⟨j + 1, by omega, by rw [HFN.out], by go_num, K5⟩
            case measure => simp [intOf]; omega
        · have hjm : j = m := by omega
          subst hjm
          have HKN : Hid (R = (W, fl)) := by
            show _ = _
            rw [HRR.out, HWF.out, List.take_of_length_le (by have := HMM.out; omega)]
          clear HKB HB0 HG
          go_wp2
          go_ret
          rw [HKN.out]
          exact ⟨rfl, HK.out⟩

end Go.Proofs.YtnklnhnjmikooaaGreat

namespace Go.Proofs.YtnklnhnjmikooaaGreat
open Go.RowKit

/-- The duty synced with these sessions (c: it may be a duty; d: the state may be one). -/
def syncX (c d : Bool) (D : DDuty) (ss : List DSess) : DDuty × Bool := if c then (if d then (⟨D.ttl, (syncW D ss).1⟩, (syncW D ss).2) else (⟨0, ⟨0, []⟩⟩, false)) else (⟨0, ⟨0, []⟩⟩, false)
theorem al3a (w : World) (a b c : Obj) : (((w.alloc a).alloc b).alloc c).heap[w.heap.size]? = some a := by
  rw [Below.heap_alloc _ _ _ (by simp; omega), Below.heap_alloc _ _ _ (by simp)]
  exact heap_alloc_new w a
theorem al3b (w : World) (a b c : Obj) : (((w.alloc a).alloc b).alloc c).heap[w.heap.size + 1]? = some b := by
  rw [Below.heap_alloc _ _ _ (by simp)]
  simpa using heap_alloc_new (w.alloc a) b
theorem al3c (w : World) (a b c : Obj) : (((w.alloc a).alloc b).alloc c).heap[w.heap.size + 2]? = some c := by simpa using heap_alloc_new ((w.alloc a).alloc b) c

set_option maxRecDepth 20000 in
set_option maxHeartbeats 4000000 in
theorem iDutySyncV (v sv : Value) (D : DDuty) (S : DState) (w : World) (h : VDuty w v D) (hs : VState w sv S) (hl : D.wh.tms.length ≤ 1048576) :
    Calls Tryz.prog 10 #[v, sv] w (ResD (syncX (tB (DutyP D)) (tB (StP S)) D S.sess) w) := by
  have HV0 : Hid (VDuty w v D) := h
  have HS0 : Hid (VState w sv S) := hs
  have HL : Hid (D.wh.tms.length ≤ 1048576) := hl
  obtain ⟨tv, rfl, h⟩ := h
  obtain ⟨ta, tc', rfl⟩ := h.shape
  obtain ⟨n, hn⟩ : ∃ n, n = D.wh.tms.length := ⟨_, rfl⟩
  rw [← hn] at HV0 ⊢
  obtain ⟨rv, uv, sev, lv, rfl, hr, ht, hse, hla⟩ := hs
  have HSE : Hid (VSess w sev S.sess) := hse
  obtain ⟨sea, sec, hsev⟩ : ∃ a c, sev = .slice a S.sess.length c := by
    obtain ⟨C, ⟨a, c, e, _⟩, _⟩ := hse
    exact ⟨a, c, e⟩
  obtain ⟨sm, hsm⟩ : ∃ m, m = S.sess.length := ⟨_, rfl⟩
  rw [← hsm] at hsev
  subst hsev
  clear h hn hl hr ht hse hla hsm
  obtain ⟨c, hc⟩ : ∃ c, c = tB (DutyP D) := ⟨_, rfl⟩
  obtain ⟨d, hd⟩ : ∃ d, d = tB (StP S) := ⟨_, rfl⟩
  have HC : Hid (c = tB (DutyP D)) := hc
  have HD : Hid (d = tB (StP S)) := hd
  rw [← hc, ← hd]
  clear hc hd
  have HSO : Hid (∀ V, Ext w V → Calls Tryz.prog 36 #[.agg #[.int .i64 S.index, rv, uv, .int .i64 S.lost, .slice sea sm sec, lv]] V fun e w' => e = .returned (.bool d) ∧ Below V.heap.size V w') := fun V e => by rw [HD.out]; exact iStateOkV _ S V (HS0.out.ext e)
  have HDO : Hid (∀ V, Ext w V → Calls Tryz.prog 35 #[.agg #[.int .i64 D.ttl, .int .i64 D.wh.now, .slice ta n tc']] V fun e w' => e = .returned (.bool c) ∧ Below V.heap.size V w') := fun V e => by rw [HC.out]; exact iDutyOkV _ D V (HV0.out.ext e)
  obtain ⟨R, hR⟩ : ∃ R, R = syncX c d D S.sess := ⟨_, rfl⟩
  have HR : Hid (R = syncX c d D S.sess) := hR
  rw [← hR]
  clear hR
  go_enter Tryz.func10, Tryz.ntmps10
  go_upto_region 1 with fail
  have PA := al3a w (.cells #[.int .i64 D.ttl, .int .i64 D.wh.now, .slice ta n tc'] 39 (0, 0)) (.cells #[.int .i64 S.index, rv, uv, .int .i64 S.lost, .slice sea sm sec, lv] 48 (0, 0)) (.cells #[.int .i64 0, .int .i64 0, .slice none 0 0] 39 (0, 0))
  have PB := al3b w (.cells #[.int .i64 D.ttl, .int .i64 D.wh.now, .slice ta n tc'] 39 (0, 0)) (.cells #[.int .i64 S.index, rv, uv, .int .i64 S.lost, .slice sea sm sec, lv] 48 (0, 0)) (.cells #[.int .i64 0, .int .i64 0, .slice none 0 0] 39 (0, 0))
  have PR := al3c w (.cells #[.int .i64 D.ttl, .int .i64 D.wh.now, .slice ta n tc'] 39 (0, 0)) (.cells #[.int .i64 S.index, rv, uv, .int .i64 S.lost, .slice sea sm sec, lv] 48 (0, 0)) (.cells #[.int .i64 0, .int .i64 0, .slice none 0 0] 39 (0, 0))
  generalize hW : World.alloc (World.alloc (World.alloc w _) _) _ = W at PA PB PR ⊢
  have BW : Below w.heap.size w W := by rw [← hW]; exact (((Below.refl _ w).alloc (Nat.le_refl _) _).alloc (by simp) _).alloc (by simp; omega) _
  clear hW
  obtain ⟨x0, _⟩ := at_block PA 0 _ rfl
  obtain ⟨x1, _⟩ := at_block PA 1 _ rfl
  obtain ⟨x2, _⟩ := at_block PA 2 _ rfl
  go_wp2_with fail
  refine (HDO.out W (ext_below BW)).mono ?_
  rintro e w1 ⟨rfl, b1⟩
  have PA1 := below_blk b1 (Array.getElem?_eq_some_iff.1 PA).1 PA
  have PB1 := below_blk b1 (Array.getElem?_eq_some_iff.1 PB).1 PB
  have PR1 := below_blk b1 (Array.getElem?_eq_some_iff.1 PR).1 PR
  have HB1 : Hid (Below w.heap.size w w1) := BW.trans (b1.mono BW.size)
  clear b1 PA PB PR BW x0 x1 x2
  cases c
  · have HRZ : Hid (R = (⟨0, ⟨0, []⟩⟩, false)) := HR.out
    obtain ⟨z0, y0⟩ := at_block PR1 0 _ rfl
    obtain ⟨z1, y1⟩ := at_block PR1 1 _ rfl
    obtain ⟨z2, y2⟩ := at_block PR1 2 _ rfl
    clear PA1 PB1 PR1
    go_wp2
    refine bodyPost_ret (v := .tuple #[.agg #[.int .i64 0, .int .i64 0, .slice none 0 0], .bool false]) (by simp [results, Tryz.results10, go_sem, *]) rfl ?_
    rw [HRZ.out]
    refine ⟨_, rfl, World.ownsRow_nil _ _ _ _, ?_⟩
    repeat (first | exact HB1.out | (refine Below.setCell ?_ (by simp <;> omega) _))
  obtain ⟨x0, _⟩ := at_block PB1 0 _ rfl
  obtain ⟨x1, _⟩ := at_block PB1 1 _ rfl
  obtain ⟨x2, _⟩ := at_block PB1 2 _ rfl
  obtain ⟨x3, _⟩ := at_block PB1 3 _ rfl
  obtain ⟨x4, _⟩ := at_block PB1 4 _ rfl
  obtain ⟨x5, _⟩ := at_block PB1 5 _ rfl
  go_wp2_with fail
  refine (HSO.out w1 (ext_below HB1.out)).mono ?_
  rintro e w2 ⟨rfl, b2⟩
  have PA2 := below_blk b2 (Array.getElem?_eq_some_iff.1 PA1).1 PA1
  have PB2 := below_blk b2 (Array.getElem?_eq_some_iff.1 PB1).1 PB1
  have PR2 := below_blk b2 (Array.getElem?_eq_some_iff.1 PR1).1 PR1
  have HB2 : Hid (Below w.heap.size w w2) := HB1.out.trans (b2.mono HB1.out.size)
  clear b2 PA1 PB1 PR1 x0 x1 x2 x3 x4 x5 HB1
  cases d
  · have HRZ : Hid (R = (⟨0, ⟨0, []⟩⟩, false)) := HR.out
    obtain ⟨z0, y0⟩ := at_block PR2 0 _ rfl
    obtain ⟨z1, y1⟩ := at_block PR2 1 _ rfl
    obtain ⟨z2, y2⟩ := at_block PR2 2 _ rfl
    clear PA2 PB2 PR2
    go_wp2
    refine bodyPost_ret (v := .tuple #[.agg #[.int .i64 0, .int .i64 0, .slice none 0 0], .bool false]) (by simp [results, Tryz.results10, go_sem, *]) rfl ?_
    rw [HRZ.out]
    refine ⟨_, rfl, World.ownsRow_nil _ _ _ _, ?_⟩
    repeat (first | exact HB2.out | (refine Below.setCell ?_ (by simp <;> omega) _))
  have HDP : Hid (DutyP D) := tB_iff.1 HC.out.symm
  have HSP : Hid (StP S) := tB_iff.1 HD.out.symm
  have HRZ : Hid (R = (⟨D.ttl, (syncW D S.sess).1⟩, (syncW D S.sess).2)) := HR.out
  obtain ⟨⟨Q, qb⟩, hQ⟩ : ∃ q, q = syncW D S.sess := ⟨_, rfl⟩
  have HQ : Hid ((Q, qb) = syncW D S.sess) := hQ
  rw [← hQ] at HRZ
  clear hQ
  obtain ⟨x0, _⟩ := at_block PA2 0 _ rfl
  obtain ⟨x1, _⟩ := at_block PA2 1 _ rfl
  obtain ⟨x2, _⟩ := at_block PA2 2 _ rfl
  have HPB2 := hideD PB2
  have HPR2 := hideD PR2
  clear PA2 PB2 PR2
  go_wp2_with fail
  refine (keeperV _ D w2 (HV0.out.ext (ext_below HB2.out)) HL.out).mono ?_
  rintro e w3 ⟨k, a3, c3, rfl, K3, b3⟩
  have HK3 := hideD K3
  have HPB3 := hideD (ext_blk (ext_below b3) HPB2.out)
  have HPR3 := hideD (ext_blk (ext_below b3) HPR2.out)
  have HB3 : Hid (Below w.heap.size w w3) := HB2.out.trans (b3.mono HB2.out.size)
  have HLO := hideD (Array.getElem?_eq_some_iff.1 HPR2.out).1
  have HZ3 := hideD b3.size
  obtain ⟨x4, _⟩ := at_block HPB3.out 4 _ rfl
  clear x0 x1 x2 K3 b3 HPB2 HPR2
  go_wp2_with fail
  refine (ksyncV k w2.heap.size c3 D.ttl D.wh.now a3 D.wh.tms _ S.sess w w3 HK3.out HZ3.out HDP.out.2.1 HSE.out HB3.out (by have := HK3.out.low; have := HB2.out.size; omega) (by have := HSP.out.2.2.1.1; omega)).mono ?_
  rintro e w4 ⟨rfl, a4, c4, K4, g4⟩
  rw [show (⟨D.ttl, ⟨D.wh.now, D.wh.tms⟩⟩ : DDuty) = D from rfl, ← HQ.out] at K4 ⊢
  have HK4 : Hid (KB w4 w2.heap.size k D.ttl Q.now a4 c4 Q.tms) := K4
  have HPR4 : Hid (w4.heap[w.heap.size + 2]? = some (.cells #[.int .i64 0, .int .i64 0, .slice none 0 0] 39 (0, 0))) := (g4.block _ (Array.getElem?_eq_some_iff.1 HPR3.out).1 (by have := HK3.out.low; have := HLO.out; simp; omega)).trans HPR3.out
  have HB4 : Hid (Below w.heap.size w w4) := HB3.out.grown g4 HB3.out.size (fun k' hk => by cases hk; exact Nat.le_trans HB2.out.size HK3.out.low)
  clear K4 g4 x4 HK3 HPB3 HPR3 HB3
  go_wp2_with fail
  refine (dutyV k w2.heap.size c4 D.ttl Q.now a4 Q.tms w4 HK4.out).mono ?_
  rintro e w5 ⟨rfl, b5⟩
  obtain ⟨x0, f0⟩ := at_block (ext_blk (ext_below b5) HPR4.out) 0 _ rfl
  obtain ⟨x1, f1⟩ := at_block (ext_blk (ext_below b5) HPR4.out) 1 _ rfl
  obtain ⟨x2, f2⟩ := at_block (ext_blk (ext_below b5) HPR4.out) 2 _ rfl
  have HK5 := hideD (HK4.out.below b5)
  have HB5 : Hid (Below w.heap.size w w5) := HB4.out.trans (b5.mono HB4.out.size)
  have HNV : Hid ((Value.slice a4 Q.tms.length c4).ownBlock = none ∨ (Value.slice a4 Q.tms.length c4).ownBlock ≠ some (w.heap.size + 2)) := by
    right
    intro e
    have h1 := (World.ownsRow.lt HK5.out.row _ e).1
    have h2 := HLO.out
    omega
  clear b5
  go_wp2
  refine bodyPost_ret (v := .tuple #[.agg #[.int .i64 D.ttl, .int .i64 Q.now, .slice a4 Q.tms.length c4], .bool qb]) (by simp [results, Tryz.results10, go_sem, *]) rfl ?_
  rw [HRZ.out]
  refine ⟨_, rfl, baseT ((((HK5.out.row.kept (set_grown _ _ _ _) HNV.out).kept (set_grown _ _ _ _) HNV.out).kept (set_grown _ _ _ _) HNV.out)) HB2.out.size, ?_⟩
  repeat (first | exact HB5.out | (refine Below.setCell ?_ (by simp <;> omega) _))

end Go.Proofs.YtnklnhnjmikooaaGreat

namespace Go.Proofs.YtnklnhnjmikooaaGreat
open Go.RowKit

theorem Shp.frame {lo hi : Nat} {w w' : World} {gr gt gs gl nr nt ns nl : Nat} (h : Shp lo hi w gr gt gs gl nr nt ns nl) (e : ∀ k, lo ≤ k → k < hi → k < w.heap.size → w'.heap[k]? = w.heap[k]?) : Shp lo hi w' gr gt gs gl nr nt ns nl := by
  obtain ⟨FR, FT, FS, FL, ⟨a1, a2⟩, ⟨b1, b2⟩, c1, d1, r1, r2, r3, r4, r⟩ := h
  have ar : ∀ {g : Nat} {t : TypeId} {k n : Nat} {tx : Nat → Prop} {F : Nat → Nat → Value}, Arr w g t k n tx F → lo ≤ g ∧ g < hi → Arr w' g t k n tx F := fun ⟨cur, h1, h2, h3⟩ hg => ⟨cur, (e _ hg.1 hg.2 (Array.getElem?_eq_some_iff.1 h1).1).trans h1, h2, h3⟩
  have wb : ∀ {v : Value}, WB lo hi w v → WB lo hi w' v := fun h => by
    rcases h with h | ⟨g, n, cap, cur, rfl, h1, h2, h3, h4, h5, h6⟩
    · exact .inl h
    · exact .inr ⟨g, n, cap, cur, rfl, h1, h2, h3, h4, (e g h1 h2 (Array.getElem?_eq_some_iff.1 h5).1).trans h5, h6⟩
  exact ⟨FR, FT, FS, FL, ⟨ar a1 r1, fun i hi => ⟨wb (a2 i hi).1, wb (a2 i hi).2⟩⟩, ⟨ar b1 r2, fun i hi => wb (b2 i hi)⟩, ar c1 r3, ar d1 r4, r1, r2, r3, r4, r⟩

/-- A duty that a call answered lies in a box, and owns its timers. -/
def BoxD (w1 : World) (R : DDuty) (m bs : Nat) (sa : Option Addr) (sc : Nat) (W : World) : Prop :=
  W.heap[bs]? = some (.cells #[.int .i64 R.ttl, .int .i64 R.wh.now, .slice sa m sc] 39 (0, 0)) ∧ Ext w1 W ∧ OwT W w1.heap.size (.slice sa m sc) R.wh.tms ∧ w1.heap.size ≤ bs
theorem boxd_new {w1 z : World} {R : DDuty} {m sc base : Nat} {sa : Option Addr} (X : Ext w1 z) (o : OwT z base (.slice sa m sc) R.wh.tms) (hb : w1.heap.size ≤ base) : BoxD w1 R m z.heap.size sa sc (z.alloc (.cells #[.int .i64 R.ttl, .int .i64 R.wh.now, .slice sa m sc] 39 (0, 0))) :=
  ⟨heap_alloc_new z _, X.trans (World.grownBy_alloc _ _ _), (baseT o hb).alloc _, X.size⟩
theorem boxd_set {w1 z : World} {R : DDuty} {m sc base bs : Nat} {sa : Option Addr} {c0 c1 c2 : Value} (X : Ext w1 z) (o : OwT z base (.slice sa m sc) R.wh.tms) (hb : w1.heap.size ≤ base) (P : z.heap[bs]? = some (.cells #[c0, c1, c2] 39 (0, 0))) (hs : w1.heap.size ≤ bs) :
    BoxD w1 R m bs sa sc (((z.setCell ⟨bs, 0, none⟩ (.int .i64 R.ttl)).setCell ⟨bs, 1, none⟩ (.int .i64 R.wh.now)).setCell ⟨bs, 2, none⟩ (.slice sa m sc)) := by
  have P1 : (z.setCell ⟨bs, 0, none⟩ (.int .i64 R.ttl)).heap[bs]? = some (.cells #[.int .i64 R.ttl, c1, c2] 39 (0, 0)) := by rw [set_block P 0]; simp
  have P2 : ((z.setCell ⟨bs, 0, none⟩ (.int .i64 R.ttl)).setCell ⟨bs, 1, none⟩ (.int .i64 R.wh.now)).heap[bs]? = some (.cells #[.int .i64 R.ttl, .int .i64 R.wh.now, c2] 39 (0, 0)) := by rw [set_block P1 1]; simp
  have nb : (Value.slice sa m sc).ownBlock = none ∨ (Value.slice sa m sc).ownBlock ≠ some bs := .inr (Ne.symm (ne_row o P (by decide)))
  have hbl : Below w1.heap.size w1 (((z.setCell ⟨bs, 0, none⟩ (.int .i64 R.ttl)).setCell ⟨bs, 1, none⟩ (.int .i64 R.wh.now)).setCell ⟨bs, 2, none⟩ (.slice sa m sc)) := (((ext_bel X).setCell hs _).setCell hs _).setCell hs _
  exact ⟨by rw [set_block P2 2]; simp, ext_below hbl, ((baseT o hb).kept (set_grown _ _ _ _) nb |>.kept (set_grown _ _ _ _) nb).kept (set_grown _ _ _ _) nb, hs⟩

/-- What is carried: the arguments' boxes, the specification's answer (of the world Ws), the program's arguments (the state's rows lie from lo up to hi) and its answer. -/
structure LSy (w Ws W : World) (D R : DDuty) (AD AS YS : Array Value) (sv xv gv : Value) (zs zx zy zg xb gb lo hi : Nat) (X G : List DTim) : Prop where
  low : Below w.heap.size w W
  sB : Below Ws.heap.size Ws W
  sV : VTims Ws sv R.wh.tms
  aD : W.heap[w.heap.size]? = some (.cells AD 26 (0, 0))
  aS : W.heap[w.heap.size + 1]? = some (.cells AS 32 (0, 0))
  s : W.heap[zs]? = some (.cells #[.int .i64 R.ttl, .int .i64 R.wh.now, sv] 39 (0, 0))
  x : W.heap[zx]? = some (.cells #[.int .i64 D.ttl, .int .i64 D.wh.now, xv] 39 (0, 0))
  y : W.heap[zy]? = some (.cells YS 48 (0, 0))
  g : W.heap[zg]? = some (.cells #[.int .i64 R.ttl, .int .i64 R.wh.now, gv] 39 (0, 0))
  xO : OwT W xb xv X
  gO : OwT W gb gv G
  xl : ∀ k, xv.ownBlock = some k → k < lo
  ord : w.heap.size + 1 < Ws.heap.size ∧ Ws.heap.size ≤ xb ∧ Ws.heap.size ≤ lo ∧ zs < lo ∧ zx < lo ∧ lo ≤ hi ∧ hi ≤ zy ∧ hi ≤ zg ∧ hi ≤ gb
section
variable {w Ws W W' : World} {D R : DDuty} {AD AS YS : Array Value} {sv xv gv : Value} {zs zx zy zg xb gb lo hi : Nat} {X X' G G' : List DTim}
theorem LSy.grow (h : LSy w Ws W D R AD AS YS sv xv gv zs zx zy zg xb gb lo hi X G) (b : Below W.heap.size W W') : LSy w Ws W' D R AD AS YS sv xv gv zs zx zy zg xb gb lo hi X G :=
  ⟨h.low.trans (b.mono h.low.size), h.sB.trans (b.mono h.sB.size), h.sV, ext_blk (ext_below b) h.aD, ext_blk (ext_below b) h.aS, ext_blk (ext_below b) h.s, ext_blk (ext_below b) h.x, ext_blk (ext_below b) h.y, ext_blk (ext_below b) h.g, h.xO.kept (ext_below b) (by cases xv.ownBlock <;> simp), h.gO.kept (ext_below b) (by cases gv.ownBlock <;> simp), h.xl, h.ord⟩
/-- The timers of its argument have turned. -/
theorem LSy.turnX (h : LSy w Ws W D R AD AS YS sv xv gv zs zx zy zg xb gb lo hi X G) (t : W.grownBy W' xv.ownBlock) (o : OwT W' xb xv X') : LSy w Ws W' D R AD AS YS sv xv gv zs zx zy zg xb gb lo hi X' G := by
  have hr : ∀ k, xv.ownBlock = some k → Ws.heap.size ≤ k := fun k hk => Nat.le_trans h.ord.2.1 (World.ownsRow.lt h.xO k hk).1
  have kp : ∀ (b : Nat) (cs : Array Value) (t' : TypeId), W.heap[b]? = some (.cells cs t' (0, 0)) → t' ≠ 114 → W'.heap[b]? = some (.cells cs t' (0, 0)) := fun b cs t' hbb ht => (t.block b (Array.getElem?_eq_some_iff.1 hbb).1 (ne_row h.xO hbb ht)).trans hbb
  refine ⟨h.low.grown t h.low.size (fun k hk => by have := hr k hk; have := h.ord; omega), h.sB.grown t h.sB.size hr, h.sV, kp _ _ _ h.aD (by decide), kp _ _ _ h.aS (by decide), kp _ _ _ h.s (by decide), kp _ _ _ h.x (by decide), kp _ _ _ h.y (by decide), kp _ _ _ h.g (by decide), o, h.gO.kept t ?_, h.xl, h.ord⟩
  cases hg : gv.ownBlock with
  | none => exact .inl rfl
  | some k =>
    right
    intro e
    have h1 := h.xl k e.symm
    have h2 := (World.ownsRow.lt h.gO k hg).1
    have := h.ord
    omega
/-- The state's memory has turned. -/
theorem LSy.turnS (h : LSy w Ws W D R AD AS YS sv xv gv zs zx zy zg xb gb lo hi X G) (t : Mid lo hi W W') : LSy w Ws W' D R AD AS YS sv xv gv zs zx zy zg xb gb lo hi X G := by
  have o := h.ord
  have kp : ∀ (b : Nat) (ob : Obj), W.heap[b]? = some ob → (b < lo ∨ hi ≤ b) → W'.heap[b]? = some ob := fun b ob hb hn => (t.out b (Array.getElem?_eq_some_iff.1 hb).1 hn).trans hb
  have row : ∀ {base : Nat} {v : Value} {ts : List DTim}, OwT W base v ts → (∀ k, v.ownBlock = some k → k < lo ∨ hi ≤ k) → OwT W' base v ts := fun {base v ts} ho hn => by
    obtain ⟨h1, h2⟩ := ho
    refine ⟨h1, ?_⟩
    rcases h2 with h2 | ⟨k, c, cur, hv, hb, hg, r⟩
    · exact .inl h2
    · exact .inr ⟨k, c, cur, hv, hb, kp k _ hg (hn k (by rw [hv]; rfl)), r⟩
  exact ⟨Mid.below h.low h.low.size (by omega) t, Mid.below h.sB h.sB.size (by omega) t, h.sV, kp _ _ h.aD (.inl (by omega)), kp _ _ h.aS (.inl (by omega)), kp _ _ h.s (.inl (by omega)), kp _ _ h.x (.inl (by omega)), kp _ _ h.y (.inr (by omega)), kp _ _ h.g (.inr (by omega)), row h.xO (fun k hk => .inl (h.xl k hk)), row h.gO (fun k hk => .inr (Nat.le_trans o.2.2.2.2.2.2.2.2 (World.ownsRow.lt h.gO k hk).1)), h.xl, h.ord⟩
/-- The timers of its answer have turned. -/
theorem LSy.turnG (h : LSy w Ws W D R AD AS YS sv xv gv zs zx zy zg xb gb lo hi X G) (t : W.grownBy W' gv.ownBlock) (o : OwT W' gb gv G') : LSy w Ws W' D R AD AS YS sv xv gv zs zx zy zg xb gb lo hi X G' := by
  have hr : ∀ k, gv.ownBlock = some k → hi ≤ k := fun k hk => Nat.le_trans h.ord.2.2.2.2.2.2.2.2 (World.ownsRow.lt h.gO k hk).1
  have kp : ∀ (b : Nat) (cs : Array Value) (t' : TypeId), W.heap[b]? = some (.cells cs t' (0, 0)) → t' ≠ 114 → W'.heap[b]? = some (.cells cs t' (0, 0)) := fun b cs t' hbb ht => (t.block b (Array.getElem?_eq_some_iff.1 hbb).1 (ne_row h.gO hbb ht)).trans hbb
  refine ⟨h.low.grown t h.low.size (fun k hk => by have := hr k hk; have := h.ord; omega), h.sB.grown t h.sB.size (fun k hk => by have := hr k hk; have := h.ord; omega), h.sV, kp _ _ _ h.aD (by decide), kp _ _ _ h.aS (by decide), kp _ _ _ h.s (by decide), kp _ _ _ h.x (by decide), kp _ _ _ h.y (by decide), kp _ _ _ h.g (by decide), h.xO.kept t ?_, o, h.xl, h.ord⟩
  cases hx : xv.ownBlock with
  | none => exact .inl rfl
  | some k =>
    right
    intro e
    have h1 := h.xl k hx
    have h2 := hr k e.symm
    have := h.ord
    omega
theorem LSy.sW (h : LSy w Ws W D R AD AS YS sv xv gv zs zx zy zg xb gb lo hi X G) : VDuty W (.agg #[.int .i64 R.ttl, .int .i64 R.wh.now, sv]) R := ⟨sv, rfl, h.sV.ext (ext_below h.sB)⟩
end

end Go.Proofs.YtnklnhnjmikooaaGreat

namespace Go.Proofs.YtnklnhnjmikooaaGreat
open Go.RowKit

set_option maxHeartbeats 4000000 in
set_option maxRecDepth 100000 in
theorem sStateB (S : DState) (w : World) (rv tv sv lv : Value) (hr : VRows w rv S.rows) (ht : VTombs w tv S.tombs) (hs : VSess w sv S.sess) (hl : VLasts w lv S.lasts)
    (hbad : ¬ ((0 ≤ S.index ∧ S.index ≤ 1000000) ∧ (0 ≤ S.lost ∧ S.lost ≤ S.index) ∧ S.rows.length ≤ 20 ∧ S.tombs.length ≤ 10 ∧ S.sess.length ≤ 8 ∧ S.lasts.length ≤ 4)) :
    Calls Tryz.prog 27 #[.agg #[.int .i64 S.index, rv, tv, .int .i64 S.lost, sv, lv]] w fun e w' => e = .returned (.bool false) ∧ Below w.heap.size w w' := by
  have hB : ∀ w : World, ∀ o, Below w.heap.size w (w.alloc o) := fun w o => (Below.refl _ w).alloc (Nat.le_refl _) _
  obtain ⟨idx, rows, tombs, lost, sess, lasts⟩ := S
  simp only at hr ht hs hl hbad ⊢
  obtain ⟨_, ⟨a, cap, rfl, _, _, _⟩, _⟩ := hr
  obtain ⟨_, ⟨a1, capt, rfl, _, _, _⟩, _⟩ := ht
  obtain ⟨_, ⟨a2, caps, rfl, _, _, _⟩, _⟩ := hs
  obtain ⟨_, ⟨a3, capl, rfl, _, _, _⟩, _⟩ := hl
  generalize rows.length = n at hbad ⊢
  generalize tombs.length = m at hbad ⊢
  generalize sess.length = p at hbad ⊢
  generalize lasts.length = q at hbad ⊢
  have HBAD : Hid (¬ ((0 ≤ idx ∧ idx ≤ 1000000) ∧ (0 ≤ lost ∧ lost ≤ idx) ∧ n ≤ 20 ∧ m ≤ 10 ∧ p ≤ 8 ∧ q ≤ 4)) := hbad
  clear hbad
  cases e7 : (decide (0 ≤ idx) && decide (idx ≤ 1000000))
  · clear HBAD
    go_enter Tryz.func27, Tryz.ntmps27
    go_wp2_with (go_at_call 63; refine (l2indexV _ _).mono ?_; rintro e w1 ⟨rfl, rfl⟩; rw [e7])
    go_ret
    exact ⟨rfl, hB _ _⟩
  have HI : Hid (0 ≤ idx ∧ idx ≤ 1000000) := by
    have : decide (0 ≤ idx) = true ∧ decide (idx ≤ 1000000) = true := by simpa using e7
    exact ⟨of_decide_eq_true this.1, of_decide_eq_true this.2⟩
  cases e1 : decide ((20 : Int) < (n : Int))
  case true =>
    clear HBAD
    go_enter Tryz.func27, Tryz.ntmps27
    go_wp2_with (go_at_call 63; refine (l2indexV _ _).mono ?_; rintro e w1 ⟨rfl, rfl⟩; rw [e7])
    go_ret
    exact ⟨rfl, hB _ _⟩
  cases e2 : decide ((10 : Int) < (m : Int))
  case true =>
    clear HBAD
    go_enter Tryz.func27, Tryz.ntmps27
    go_wp2_with (go_at_call 63; refine (l2indexV _ _).mono ?_; rintro e w1 ⟨rfl, rfl⟩; rw [e7])
    go_ret
    exact ⟨rfl, hB _ _⟩
  cases e5 : decide (lost < 0)
  case true =>
    clear HBAD
    go_enter Tryz.func27, Tryz.ntmps27
    go_wp2_with (go_at_call 63; refine (l2indexV _ _).mono ?_; rintro e w1 ⟨rfl, rfl⟩; rw [e7])
    go_ret
    exact ⟨rfl, hB _ _⟩
  cases e6 : decide (idx < lost)
  case true =>
    clear HBAD
    go_enter Tryz.func27, Tryz.ntmps27
    go_wp2_with (go_at_call 63; refine (l2indexV _ _).mono ?_; rintro e w1 ⟨rfl, rfl⟩; rw [e7])
    go_ret
    exact ⟨rfl, hB _ _⟩
  cases e3 : decide ((8 : Int) < (p : Int))
  case true =>
    clear HBAD
    go_enter Tryz.func27, Tryz.ntmps27
    go_wp2_with (go_at_call 63; refine (l2indexV _ _).mono ?_; rintro e w1 ⟨rfl, rfl⟩; rw [e7])
    go_ret
    exact ⟨rfl, hB _ _⟩
  cases e4 : decide ((4 : Int) < (q : Int))
  case true =>
    clear HBAD
    go_enter Tryz.func27, Tryz.ntmps27
    go_wp2_with (go_at_call 63; refine (l2indexV _ _).mono ?_; rintro e w1 ⟨rfl, rfl⟩; rw [e7])
    go_ret
    exact ⟨rfl, hB _ _⟩
  exact absurd (⟨HI.out, ⟨by have := of_decide_eq_false e5; omega, by have := of_decide_eq_false e6; omega⟩, by have := of_decide_eq_false e1; omega, by have := of_decide_eq_false e2; omega, by have := of_decide_eq_false e3; omega, by have := of_decide_eq_false e4; omega⟩) HBAD.out

theorem sStateOkV (v : Value) (S : DState) (w : World) (h : VState w v S) :
    Calls Tryz.prog 27 #[v] w fun e w' => e = .returned (.bool (tB (StP S))) ∧ Below w.heap.size w w' := by
  obtain ⟨rv, tv, sv, lv, rfl, hr, ht, hs, hl⟩ := h
  by_cases hk : (0 ≤ S.index ∧ S.index ≤ 1000000) ∧ (0 ≤ S.lost ∧ S.lost ≤ S.index) ∧ S.rows.length ≤ 20 ∧ S.tombs.length ≤ 10 ∧ S.sess.length ≤ 8 ∧ S.lasts.length ≤ 4
  · exact sStateX S w rv tv sv lv hr ht hs hl hk.1 hk.2.1 hk.2.2.1 hk.2.2.2.1 hk.2.2.2.2.1 hk.2.2.2.2.2
  · rw [tB_false (fun h : StP S => hk ⟨h.1, h.2.1, h.2.2.2.1.1, h.2.2.2.2.1.1, h.2.2.1.1, h.2.2.2.2.2.1⟩)]
    exact sStateB S w rv tv sv lv hr ht hs hl hk

end Go.Proofs.YtnklnhnjmikooaaGreat

namespace Go.Proofs.YtnklnhnjmikooaaGreat
open Go.RowKit

/-- What a call that turns the duty's wheel leaves: its box holds this wheel now. -/
def DSet (base h : Nat) (ttl : Int) (R : DWheel) (w : World) (w' : World) : Prop := ∃ a cap, DB w' base h ttl R.now a cap R.tms ∧ w.grownBy w' (some h)
theorem DB.blk {w : World} {base h cap : Nat} {ttl now : Int} {a : Option Addr} {ts : List DTim} (p : DB w base h ttl now a cap ts) : h < w.heap.size := (Array.getElem?_eq_some_iff.1 p.box).1

set_option maxRecDepth 20000 in
set_option maxHeartbeats 4000000 in
theorem ssyncV (h base cap : Nat) (ttl now : Int) (a : Option Addr) (ts : List DTim) (v : Value) (S : DState) (w0 w : World) (p : DB w base h ttl now a cap ts) (hb : base ≤ w.heap.size) (hp : WheelP ⟨now, ts⟩) (hv : VState w0 v S) (hx : Below w0.heap.size w0 w) (hh : w0.heap.size ≤ h) (hl : S.sess.length ≤ 1000000) :
    Calls Tryz.prog 29 #[.pointer (some ⟨h, 0, none⟩), v] w fun e w' => e = .returned (.bool (syncW ⟨ttl, ⟨now, ts⟩⟩ S.sess).2) ∧ DSet base h ttl (syncW ⟨ttl, ⟨now, ts⟩⟩ S.sess).1 w w' := by
  have hE : ∀ w : World, ∀ o, Ext w (w.alloc o) := fun w o => World.grownBy_alloc _ _ _
  have HVS0 : Hid (VState w0 v S) := hv
  obtain ⟨rv, uv, sev, lv, rfl, hr, ht, hse, hla⟩ := hv
  have HSE : Hid (VSess w0 sev S.sess) := hse
  obtain ⟨ss, hss⟩ : ∃ ss, ss = S.sess := ⟨_, rfl⟩
  have HSS := hideD hss
  rw [← hss] at HSE hl ⊢
  obtain ⟨C, ⟨sa, sc, rfl, h1, h2, h3⟩, hC⟩ := HSE.out
  obtain ⟨m, hm⟩ : ∃ m, m = ss.length := ⟨_, rfl⟩
  have HMM := hideD hm
  have HC : Hid (∀ (i : Nat) (r : DSess), ss[i]? = some r → C i 0 = .int .i64 r.id ∧ C i 1 = .bool r.del) := hC
  have HSL : S.sess.length = m := by rw [hm, hss]
  have HSLh := hideD HSL
  rw [← hm] at h1 h3 HSE HVS0 ⊢
  have H3 : Hid (0 < m → ∃ b o, sa = some ⟨b, o, none⟩ ∧ b < w0.heap.size ∧ ∀ i, i < m → ∀ j, j < 2 → w0.cell? ⟨b, o + i * 2 + j, none⟩ = some (C i j)) := h3
  have HX := hideD hx
  have HH := hideD hh
  have HBB := hideD hb
  have HWP := hideD hp
  have hml : (m : Int) ≤ 1000000 := by omega
  have HP : Hid (DB w base h ttl now a cap ts) := p
  obtain ⟨n, hn⟩ : ∃ n, n = ts.length := ⟨_, rfl⟩
  have HN := hideD hn
  have hnl : n ≤ 40 := by rw [hn]; exact hp.2.1
  have hhw : h < w.heap.size := p.blk
  obtain ⟨R, hR⟩ : ∃ R, R = syncW ⟨ttl, ⟨now, ts⟩⟩ ss := ⟨_, rfl⟩
  rw [← hR]
  have HR : Hid (R = syncW ⟨ttl, ⟨now, ts⟩⟩ ss) := hR
  have hscl : sc ≤ 9223372036854775807 := by unfold maxLen at h2; omega
  clear hC hm hx hh hb hp hn p h3 hR hss HSL hr ht hse hla h2
  go_enter Tryz.func29, Tryz.ntmps29
  go_upto_region 1 with fail
  generalize hW : w.alloc _ = W
  have PS : W.heap[w.heap.size]? = some (.cells #[.int .i64 S.index, rv, uv, .int .i64 S.lost, .slice sa m sc, lv] 48 (0, 0)) := by rw [← hW]; exact heap_alloc_new _ _
  have XW : Ext w W := by rw [← hW]; exact hE _ _
  clear hW
  have HPS := hideD PS
  have HXW := hideD XW
  have HK0 : Hid (DSet base h ttl ⟨now, ts⟩ W W) := ⟨a, cap, HP.out.below (ext_bel XW), World.grownBy.refl _ _⟩
  have HBW := hideD (HX.out.trans ((ext_bel XW).mono HX.out.size))
  have HBB2 : Hid (base ≤ W.heap.size) := Nat.le_trans HBB.out XW.size
  have HNE : Hid (h ≠ w.heap.size) := by show _ ≠ _; omega
  clear PS XW
  go_wp2_with fail
  go_loopg [5, 6] n (fun gk b i wr => ∃ j : Nat, j ≤ n ∧ n - j ≤ gk ∧ b = .bool (goneT ss (ts.take j)) ∧ i = .int .i64 ((keepT ss (ts.take j)).length : Nat) ∧ Hid (DSet base h ttl ⟨now, keepT ss (ts.take j) ++ ts.drop j⟩ W wr))
  case atStart => exact ⟨0, Nat.zero_le _, Nat.le_refl _, rfl, rfl, HK0⟩
  case round =>
    obtain ⟨j, hj, hgk, rfl, rfl, HK⟩ := hrel
    obtain ⟨HG, HKB⟩ : Hid (W.grownBy wr (some h)) ∧ Hid (∃ a2 cap2, DB wr base h ttl now a2 cap2 (keepT ss (ts.take j) ++ ts.drop j)) := by
      obtain ⟨a2, cap2, k1, k2⟩ := HK.out
      exact ⟨k2, a2, cap2, k1⟩
    have HB0 : Hid (Below w0.heap.size w0 wr) := HBW.out.grown HG.out HBW.out.size (fun k hk => by cases hk; exact HH.out)
    have HPSR : Hid (wr.heap[w.heap.size]? = some (.cells #[.int .i64 S.index, rv, uv, .int .i64 S.lost, .slice sa m sc, lv] 48 (0, 0))) := (HG.out.block _ (Array.getElem?_eq_some_iff.1 HPS.out).1 (fun e => HNE.out (by cases e; rfl))).trans HPS.out
    obtain ⟨q, hq⟩ : ∃ q, q = (keepT ss (ts.take j)).length := ⟨_, rfl⟩
    have HQ := hideD hq
    have hqn : q ≤ j := by rw [hq]; exact Nat.le_trans (List.length_filter_le _ _) (by simp; omega)
    rw [← hq]
    clear hq
    obtain ⟨L, hL⟩ : ∃ L, L = keepT ss (ts.take j) ++ ts.drop j := ⟨_, rfl⟩
    have HL := hideD hL
    have hLl : L.length = q + (n - j) := by rw [hL, List.length_append, ← HQ.out, List.length_drop, ← HN.out]
    obtain ⟨l, hl⟩ : ∃ l, l = L.length := ⟨_, rfl⟩
    have HLL := hideD hl
    have hlq : l = q + (n - j) := by omega
    rw [← hL] at HKB
    obtain ⟨a2, cap2, kb⟩ := HKB.out
    obtain ⟨e0, e1, _⟩ := kb.cells
    rw [← hl] at e1
    have HKX := hideD kb
    have hlx : (l : Int) ≤ 40 := by omega
    by_cases hlt : j < n
    · obtain ⟨t, ht⟩ : ∃ t, ts[j]? = some t := ⟨_, List.getElem?_eq_getElem (by have := HN.out; omega)⟩
      have hLt : L[q]? = some t := by rw [hL, List.getElem?_append_right (by rw [HQ.out]; exact Nat.le_refl _), ← HQ.out, Nat.sub_self, List.getElem?_drop, Nat.add_zero]; exact ht
      obtain ⟨g, ha2⟩ : ∃ g, a2 = some ⟨g, 0, none⟩ := by
        rcases kb.row.2 with ⟨_, h0⟩ | ⟨g, c, cur, hv, _⟩
        · omega
        · simp only [Value.slice.injEq] at hv
          exact ⟨g, hv.1⟩
      subst ha2
      obtain ⟨f0, f1, _, _⟩ := OwT.cells kb.row rfl hLt
      have zs0 := bw_cell (at_block HPSR.out 0 _ rfl).1
      have zs1 := bw_cell (at_block HPSR.out 1 _ rfl).1
      have zs2 := bw_cell (at_block HPSR.out 2 _ rfl).1
      have zs3 := bw_cell (at_block HPSR.out 3 _ rfl).1
      have zs4 := bw_cell (at_block HPSR.out 4 _ rfl).1
      have zs5 := bw_cell (at_block HPSR.out 5 _ rfl).1
      have z1 := bw_cell e1
      have zt := bw_cell f0
      have nonV := bw_ne wr
      have HT := hideD ht
      have HLT := hideD hLt
      have hlt' : (q : Int) < (l : Int) := by omega
      have hlp : (0 : Int) ≤ (q : Int) := by omega
      obtain ⟨r, hr⟩ : ∃ r, r = fnd (fun s : DSess => decide (s.id = t.id)) ss := ⟨_, rfl⟩
      have HHR : Hid (hasI ss t.id = decide (0 ≤ r)) := by show _ = _; rw [hr]; rfl
      have HSES : Hid (∀ z : BW wr, Calls Tryz.prog 66 #[.agg #[.int .i64 S.index, rv, uv, .int .i64 S.lost, .slice sa m sc, lv], .int .i64 t.id] z.u fun e w' => e = .returned (.int .i64 r) ∧ Below z.u.heap.size z.u w') := fun z => by
        rw [hr]
        exact sl2sessV _ _ _ _ _ _ ss t.id z.u ((HSE.out.ext (ext_below HB0.out)).ext (bw_ext z))
      clear HK HKB ht hLt kb f0 f1 hr hL hl
      by_cases hneg : r < 0
      · have hneg' : decide (r < 0) = true := decide_eq_true hneg
        have HHS : Hid (hasI ss t.id = false) := by show _ = _; rw [HHR.out]; exact decide_eq_false (by omega)
        have HGN : Hid (goneT ss (ts.take (j + 1)) = true) := by show _ = _; rw [gone_next HT.out, HHS.out]; simp
        have HKN : Hid (keepT ss (ts.take (j + 1)) = keepT ss (ts.take j)) := by show _ = _; rw [keep_next HT.out, HHS.out]; simp
        have HST : Hid (∀ V, Ext wr V → Calls Tryz.prog 70 #[.pointer (some ⟨h, 1, none⟩), .int .i64 t.id] V fun e w' => ∃ bb, e = .returned (.bool bb) ∧ Hid (DSet base h ttl ⟨now, keepT ss (ts.take (j + 1)) ++ ts.drop (j + 1)⟩ W w')) := fun V hV => by
          have hwp := wheel_sub HWP.out (keep_sub ss ts j)
          have hkb := HKX.out.below (ext_bel hV)
          refine (sstopVD h base cap2 ttl now _ L t.id V hkb (by have := HLL.out; omega) (Nat.le_trans HBB2.out (Nat.le_trans HG.out.size hV.size))).mono ?_
          rintro e w' ⟨b, a3, cap3, ts', rfl, hq, k1, k2⟩
          refine ⟨b, rfl, a3, cap3, ?_, (HG.out.trans (grown_below (ext_bel hV) _)).trans k2⟩
          have hst : stopD true ⟨now, L⟩ t.id = (⟨now, ts'⟩, b) := by
            unfold stopD
            rcases hq with ⟨q1, q2, q3⟩ | ⟨q1, i, q2, q3, q4⟩
            · rw [if_pos rfl, q2, if_pos (by omega), q1, q3]
            · rw [if_pos rfl, q2, if_neg (by omega), q1, q4, Int.toNat_natCast]
          rw [HL.out, drop_next HT.out] at hst
          rw [drop_next HT.out] at hwp
          rw [stop_mid hwp] at hst
          injection hst with q1 _
          injection q1 with _ q2
          rw [HKN.out, q2]
          exact k1
        go_wp2_with fail
        refine wp_region_bw (by kernel_rfl) (by kernel_rfl) ?_
        repeat (go_big_quiet_step ((go_at_call 66; exact bw_below (HSES.out _))))
        refine wpQuiet_nil ?_
        intro _ hw'
        obtain ⟨z, hw''⟩ := hw'
        subst hw''
        have y1 := z1 z
        have yt := zt z
        have HXZ := hideD (bw_ext z)
        generalize z.u = Z at *
        clear zs0 zs1 zs2 zs3 zs4 zs5 z1 zt nonV HSES e0 e1
        go_wp2_with fail
        go_region_law (first | (go_simp; go_at_call 70; refine (HST.out _ ?_).mono ?_; exact HXZ.out.trans (ext_drewN _ 1); rintro e w3 ⟨bb, rfl, K3⟩))
        all_goals
          have hw1 : IntKind.i64.wrap ((q : Int) - 1) = (q : Int) - 1 := by rw [IntKind.wrap_i64]; omega
          have hw2 : IntKind.i64.wrap ((q : Int) - 1 + 1) = (q : Int) := by rw [IntKind.wrap_i64]; omega
          go_wp2
          go_roundg (n - (j + 1))
          case measure => omega
          case rel => exact ⟨j + 1, by omega, Nat.le_refl _, by rw [HGN.out], by rw [HKN.out, ← HQ.out], K3⟩
      · have hneg' : decide (r < 0) = false := decide_eq_false hneg
        have HHS : Hid (hasI ss t.id = true) := by show _ = _; rw [HHR.out]; exact decide_eq_true (by omega)
        have HGN : Hid (goneT ss (ts.take (j + 1)) = goneT ss (ts.take j)) := by show _ = _; rw [gone_next HT.out, HHS.out]; simp
        have HKN : Hid ((keepT ss (ts.take (j + 1))).length = q + 1) := by show _ = _; rw [keep_next HT.out, HHS.out, if_pos rfl, List.length_append, ← HQ.out]; rfl
        have HKS : Hid (∀ V, Ext wr V → DSet base h ttl ⟨now, keepT ss (ts.take (j + 1)) ++ ts.drop (j + 1)⟩ W V) := fun V hV => by
          have e : keepT ss (ts.take (j + 1)) ++ ts.drop (j + 1) = L := by
            rw [HL.out, keep_next HT.out, HHS.out, if_pos rfl, drop_next HT.out]
            simp
          rw [e]
          exact ⟨some ⟨g, 0, none⟩, cap2, HKX.out.below (ext_bel hV), HG.out.trans (grown_below (ext_bel hV) _)⟩
        go_wp2_with fail
        refine wp_region_bw (by kernel_rfl) (by kernel_rfl) ?_
        repeat (go_big_quiet_step ((go_at_call 66; exact bw_below (HSES.out _))))
        refine wpQuiet_nil ?_
        intro _ hw'
        obtain ⟨z, hw''⟩ := hw'
        subst hw''
        have HKZ := hideD (HKS.out _ (bw_ext z))
        generalize z.u = Z at *
        clear zs0 zs1 zs2 zs3 zs4 zs5 z1 zt nonV HSES e0 e1 HKS
        have hw1 : IntKind.i64.wrap ((q : Int) + 1) = (q : Int) + 1 := by rw [IntKind.wrap_i64]; omega
        go_wp2
        go_roundg (n - (j + 1))
        case measure => omega
        case rel => exact ⟨j + 1, by omega, Nat.le_refl _, by rw [HGN.out], by rw [HKN.out]; go_num, HKZ⟩
    · have hjn : j = n := by omega
      subst hjn
      obtain ⟨wo, hwo⟩ : ∃ wo, wo = wr := ⟨_, rfl⟩
      subst hwo
      have hlq' : ¬ ((q : Int) < (l : Int)) := by omega
      have hlqd : decide ((q : Int) < (l : Int)) = false := decide_eq_false hlq'
      have hE1 : L = keepT ss ts := by rw [HL.out, List.take_of_length_le (by have := HN.out; omega), List.drop_of_length_le (by have := HN.out; omega), List.append_nil]
      have hE2 : goneT ss (ts.take j) = goneT ss ts := by rw [List.take_of_length_le (by have := HN.out; omega)]
      rw [← HL.out, hE1] at HK
      rw [hE2]
      obtain ⟨W0, hW0⟩ : ∃ W0, W0 = (⟨now, keepT ss ts⟩ : DWheel) := ⟨_, rfl⟩
      obtain ⟨b0, hb0⟩ : ∃ b0, b0 = goneT ss ts := ⟨_, rfl⟩
      have HW0 : Hid (WheelP W0) := by rw [hW0]; exact wheel_sub HWP.out List.filter_sublist
      have HRR : Hid (R = addS ttl ss W0 b0) := by show _ = _; rw [HR.out, hW0, hb0]; rfl
      rw [← hW0] at HK
      rw [← hb0]
      have HKI := HK
      obtain ⟨s4, _⟩ := at_block HPSR.out 4 _ rfl
      clear hE1 hE2 hW0 hb0 HKB HB0 HG hlt hj hgk hL hl hLl hlq kb HKX HL HLL HQ hqn hlx
      go_wp2_with fail
      go_loopw [5, 7] (fun b i wr => ∃ j : Nat, j ≤ m ∧ b = .bool (addS ttl (ss.take j) W0 b0).2 ∧ i = .int .i64 j ∧ Hid (DSet base h ttl (addS ttl (ss.take j) W0 b0).1 W wr)) (fun _ i _ => m - (intOf i).toNat)
      case atStart => exact ⟨0, Nat.zero_le _, rfl, rfl, HKI⟩
      case round =>
        clear HK HKI e0 e1 s4 HPSR
        obtain ⟨j, hj, rfl, rfl, HK⟩ := hrel
        obtain ⟨⟨V, fl⟩, hWf⟩ : ∃ p, p = addS ttl (ss.take j) W0 b0 := ⟨_, rfl⟩
        have HWF : Hid ((V, fl) = addS ttl (ss.take j) W0 b0) := hWf
        rw [← hWf] at HK ⊢
        have HWP2 : Hid (WheelP V) := by have := (addS_p ttl (ss.take j) (b := b0) HW0.out).1; rw [← hWf] at this; exact this
        clear hWf
        obtain ⟨HG, HKB⟩ : Hid (W.grownBy wr (some h)) ∧ Hid (∃ a2 cap2, DB wr base h ttl V.now a2 cap2 V.tms) := by
          obtain ⟨a2, cap2, k1, k2⟩ := HK.out
          exact ⟨k2, a2, cap2, k1⟩
        have HB0 : Hid (Below w0.heap.size w0 wr) := HBW.out.grown HG.out HBW.out.size (fun k hk => by cases hk; exact HH.out)
        have HPSR : Hid (wr.heap[w.heap.size]? = some (.cells #[.int .i64 S.index, rv, uv, .int .i64 S.lost, .slice sa m sc, lv] 48 (0, 0))) := (HG.out.block _ (Array.getElem?_eq_some_iff.1 HPS.out).1 (fun e => HNE.out (by cases e; rfl))).trans HPS.out
        obtain ⟨s4, _⟩ := at_block HPSR.out 4 _ rfl
        by_cases hlt : j < m
        · obtain ⟨s, hs⟩ : ∃ s, ss[j]? = some s := ⟨_, List.getElem?_eq_getElem (by have := HMM.out; omega)⟩
          obtain ⟨b, o, ha, hbl, hc⟩ := H3.out (by omega)
          subst ha
          obtain ⟨f0, f1⟩ := HC.out j s hs
          have x0 := World.grownBy.cell (ext_below HB0.out) (hc j hlt 0 (by omega)) (by simp)
          rw [f0, Nat.add_zero] at x0
          have HS := hideD hs
          have hlt' : (j : Int) < (m : Int) := by omega
          obtain ⟨a2, cap2, kb⟩ := HKB.out
          have ktt := (at_block kb.box 0 _ rfl).1
          obtain ⟨e0, e1, _⟩ := kb.cells
          obtain ⟨l, hl⟩ : ∃ l, l = V.tms.length := ⟨_, rfl⟩
          have HLL := hideD hl
          have HVT : Hid (VTims wr (.slice a2 l cap2) V.tms) := by rw [hl]; exact kb.row.v
          rw [← hl] at e1
          have HKX := hideD kb
          have z1 := bw_cell e1
          have z4 := bw_cell s4
          have zx := bw_cell x0
          have nonV := bw_ne wr
          obtain ⟨r, hr⟩ : ∃ r, r = placeT V.tms s.id := ⟨_, rfl⟩
          have HPR := hideD hr
          have HF : Hid (∀ z : BW wr, Calls Tryz.prog 71 #[.slice a2 l cap2, .int .i64 s.id] z.u fun e w' => e = .returned (.int .i64 r) ∧ w' = z.u) := fun z => by
            rw [hr]
            exact sfindV _ _ _ _ (HVT.out.ext (bw_ext z))
          have HNX : Hid (addS ttl (ss.take (j + 1)) W0 b0 = if r < 0 then ((setD true V s.id ttl).1, true) else (V, fl)) := by
            show _ = _
            rw [addS_next HS.out, ← HWF.out, hr]
          clear HK HKB hbl f0 f1 hc hs kb hr hl e0
          by_cases hneg : r < 0
          · have hneg' : decide (r < 0) = true := decide_eq_true hneg
            have HFN : Hid ((addS ttl (ss.take (j + 1)) W0 b0).2 = true) := by show _ = _; rw [HNX.out, if_pos hneg]
            have HST : Hid (∀ Z, Ext wr Z → Calls Tryz.prog 52 #[.pointer (some ⟨h, 1, none⟩), .int .i64 s.id, .int .i64 ttl] Z fun e w' => ∃ bb, e = .returned (.bool bb) ∧ Hid (DSet base h ttl (addS ttl (ss.take (j + 1)) W0 b0).1 W w')) := fun Z hZ => by
              have hw2 := HWP2.out
              refine (ssetVD h base cap2 ttl V.now a2 V.tms s.id ttl Z (HKX.out.below (ext_bel hZ)) (Nat.le_trans hw2.2.1 (by omega)) (Nat.le_trans HBB2.out (Nat.le_trans HG.out.size hZ.size)) hw2.1.1 hw2.1.2).mono ?_
              rintro e w' ⟨b, a3, cap3, ts', rfl, hq, k1, k2⟩
              refine ⟨b, rfl, ?_⟩
              have hst : setD true V s.id ttl = (⟨V.now, ts'⟩, b) := by
                rcases hq with ⟨q1, q2, q3⟩ | ⟨q1, q2, q3⟩
                · rw [q1, q3]
                  exact set_bad q2
                · rw [q1, q3]
                  exact set_good q2
              rw [HNX.out, if_pos hneg, hst]
              exact ⟨a3, cap3, k1, (HG.out.trans (grown_below (ext_bel hZ) _)).trans k2⟩
            go_wp2_with fail
            refine wp_region_bw (by kernel_rfl) (by kernel_rfl) ?_
            repeat (go_big_quiet_step ((go_at_call 71; exact bw_same (HF.out _))))
            refine wpQuiet_nil ?_
            intro _ hw'
            obtain ⟨z, hw''⟩ := hw'
            subst hw''
            have y1 := z1 z
            have y4 := z4 z
            have yx := zx z
            have yt := bw_cell ktt z
            have HXZ := hideD (bw_ext z)
            generalize z.u = Z at *
            clear z1 z4 zx nonV HF ktt e1 s4 x0
            go_wp2_with fail
            go_region_law (first | (go_simp; go_at_call 52; refine (HST.out _ ?_).mono ?_; exact HXZ.out.trans (ext_drewN _ 1); rintro e w3 ⟨bb, rfl, K3⟩))
            all_goals
              go_wp2
              go_roundw
              case rel => exact ⟨j + 1, by omega, by rw [HFN.out], by go_num, K3⟩
              case measure => simp [intOf]; omega
          · have hneg' : decide (r < 0) = false := decide_eq_false hneg
            have HFN : Hid ((addS ttl (ss.take (j + 1)) W0 b0).2 = fl) := by show _ = _; rw [HNX.out, if_neg hneg]
            have HKS : Hid (∀ Z, Ext wr Z → DSet base h ttl (addS ttl (ss.take (j + 1)) W0 b0).1 W Z) := fun Z hZ => by
              rw [HNX.out, if_neg hneg]
              exact ⟨a2, cap2, HKX.out.below (ext_bel hZ), HG.out.trans (grown_below (ext_bel hZ) _)⟩
            go_wp2_with fail
            refine wp_region_bw (by kernel_rfl) (by kernel_rfl) ?_
            repeat (go_big_quiet_step ((go_at_call 71; exact bw_same (HF.out _))))
            refine wpQuiet_nil ?_
            intro _ hw'
            obtain ⟨z, hw''⟩ := hw'
            subst hw''
            have HKZ := hideD (HKS.out _ (bw_ext z))
            generalize z.u = Z at *
            clear z1 z4 zx nonV HF HKS ktt e1 s4 x0
            go_wp2
            go_roundw
            case rel => exact ⟨j + 1, by omega, by rw [HFN.out], by go_num, HKZ⟩
            case measure => simp [intOf]; omega
        · have hjm : j = m := by omega
          subst hjm
          have HKN : Hid (R = (V, fl)) := by
            show _ = _
            rw [HRR.out, HWF.out, List.take_of_length_le (by have := HMM.out; omega)]
          have HKF : Hid (DSet base h ttl V w wr) := by
            obtain ⟨a2, cap2, k1, k2⟩ := HK.out
            exact ⟨a2, cap2, k1, (grown_below (ext_bel HXW.out) _).trans k2⟩
          clear HKB HB0 HG HK
          go_wp2
          go_ret
          rw [HKN.out]
          exact ⟨rfl, HKF.out⟩

end Go.Proofs.YtnklnhnjmikooaaGreat

namespace Go.Proofs.YtnklnhnjmikooaaGreat
open Go.RowKit

set_option maxRecDepth 20000 in
set_option maxHeartbeats 4000000 in
theorem sDutySyncV (v sv : Value) (D : DDuty) (S : DState) (w : World) (h : VDuty w v D) (hs : VState w sv S) (hl : D.wh.tms.length ≤ 1048576) :
    Calls Tryz.prog 7 #[v, sv] w (ResD (syncX (tB (DutyP D)) (tB (StP S)) D S.sess) w) := by
  have HV0 : Hid (VDuty w v D) := h
  have HS0 : Hid (VState w sv S) := hs
  have HL : Hid (D.wh.tms.length ≤ 1048576) := hl
  obtain ⟨tv, rfl, h⟩ := h
  obtain ⟨ta, tc', rfl⟩ := h.shape
  obtain ⟨n, hn⟩ : ∃ n, n = D.wh.tms.length := ⟨_, rfl⟩
  rw [← hn] at HV0 ⊢
  obtain ⟨rv, uv, sev, lv, rfl, hr, ht, hse, hla⟩ := hs
  have HSE : Hid (VSess w sev S.sess) := hse
  obtain ⟨sea, sec, hsev⟩ : ∃ a c, sev = .slice a S.sess.length c := by
    obtain ⟨C, ⟨a, c, e, _⟩, _⟩ := hse
    exact ⟨a, c, e⟩
  obtain ⟨sm, hsm⟩ : ∃ m, m = S.sess.length := ⟨_, rfl⟩
  rw [← hsm] at hsev
  subst hsev
  clear h hn hl hr ht hse hla hsm
  obtain ⟨c, hc⟩ : ∃ c, c = tB (DutyP D) := ⟨_, rfl⟩
  obtain ⟨d, hd⟩ : ∃ d, d = tB (StP S) := ⟨_, rfl⟩
  have HC : Hid (c = tB (DutyP D)) := hc
  have HD : Hid (d = tB (StP S)) := hd
  rw [← hc, ← hd]
  clear hc hd
  have HSO : Hid (∀ V, Ext w V → Calls Tryz.prog 27 #[.agg #[.int .i64 S.index, rv, uv, .int .i64 S.lost, .slice sea sm sec, lv]] V fun e w' => e = .returned (.bool d) ∧ Below V.heap.size V w') := fun V e => by rw [HD.out]; exact sStateOkV _ S V (HS0.out.ext e)
  have HDO : Hid (∀ V, Ext w V → Calls Tryz.prog 26 #[.agg #[.int .i64 D.ttl, .int .i64 D.wh.now, .slice ta n tc']] V fun e w' => e = .returned (.bool c) ∧ Below V.heap.size V w') := fun V e => by rw [HC.out]; exact sDutyOkV _ D V (HV0.out.ext e)
  obtain ⟨R, hR⟩ : ∃ R, R = syncX c d D S.sess := ⟨_, rfl⟩
  have HR : Hid (R = syncX c d D S.sess) := hR
  rw [← hR]
  clear hR
  go_enter Tryz.func7, Tryz.ntmps7
  go_upto_region 1 with fail
  have PA := al3a w (.cells #[.int .i64 D.ttl, .int .i64 D.wh.now, .slice ta n tc'] 39 (0, 0)) (.cells #[.int .i64 S.index, rv, uv, .int .i64 S.lost, .slice sea sm sec, lv] 48 (0, 0)) (.cells #[.int .i64 0, .int .i64 0, .slice none 0 0] 39 (0, 0))
  have PB := al3b w (.cells #[.int .i64 D.ttl, .int .i64 D.wh.now, .slice ta n tc'] 39 (0, 0)) (.cells #[.int .i64 S.index, rv, uv, .int .i64 S.lost, .slice sea sm sec, lv] 48 (0, 0)) (.cells #[.int .i64 0, .int .i64 0, .slice none 0 0] 39 (0, 0))
  have PR := al3c w (.cells #[.int .i64 D.ttl, .int .i64 D.wh.now, .slice ta n tc'] 39 (0, 0)) (.cells #[.int .i64 S.index, rv, uv, .int .i64 S.lost, .slice sea sm sec, lv] 48 (0, 0)) (.cells #[.int .i64 0, .int .i64 0, .slice none 0 0] 39 (0, 0))
  generalize hW : World.alloc (World.alloc (World.alloc w _) _) _ = W at PA PB PR ⊢
  have BW : Below w.heap.size w W := by rw [← hW]; exact (((Below.refl _ w).alloc (Nat.le_refl _) _).alloc (by simp) _).alloc (by simp; omega) _
  clear hW
  obtain ⟨x0, _⟩ := at_block PA 0 _ rfl
  obtain ⟨x1, _⟩ := at_block PA 1 _ rfl
  obtain ⟨x2, _⟩ := at_block PA 2 _ rfl
  go_wp2_with fail
  refine (HDO.out W (ext_below BW)).mono ?_
  rintro e w1 ⟨rfl, b1⟩
  have PA1 := below_blk b1 (Array.getElem?_eq_some_iff.1 PA).1 PA
  have PB1 := below_blk b1 (Array.getElem?_eq_some_iff.1 PB).1 PB
  have PR1 := below_blk b1 (Array.getElem?_eq_some_iff.1 PR).1 PR
  have HB1 : Hid (Below w.heap.size w w1) := BW.trans (b1.mono BW.size)
  clear b1 PA PB PR BW x0 x1 x2
  cases c
  · have HRZ : Hid (R = (⟨0, ⟨0, []⟩⟩, false)) := HR.out
    obtain ⟨z0, y0⟩ := at_block PR1 0 _ rfl
    obtain ⟨z1, y1⟩ := at_block PR1 1 _ rfl
    obtain ⟨z2, y2⟩ := at_block PR1 2 _ rfl
    clear PA1 PB1 PR1
    go_wp2
    refine bodyPost_ret (v := .tuple #[.agg #[.int .i64 0, .int .i64 0, .slice none 0 0], .bool false]) (by simp [results, Tryz.results7, go_sem, *]) rfl ?_
    rw [HRZ.out]
    refine ⟨_, rfl, World.ownsRow_nil _ _ _ _, ?_⟩
    repeat (first | exact HB1.out | (refine Below.setCell ?_ (by simp <;> omega) _))
  obtain ⟨x0, _⟩ := at_block PB1 0 _ rfl
  obtain ⟨x1, _⟩ := at_block PB1 1 _ rfl
  obtain ⟨x2, _⟩ := at_block PB1 2 _ rfl
  obtain ⟨x3, _⟩ := at_block PB1 3 _ rfl
  obtain ⟨x4, _⟩ := at_block PB1 4 _ rfl
  obtain ⟨x5, _⟩ := at_block PB1 5 _ rfl
  go_wp2_with fail
  refine (HSO.out w1 (ext_below HB1.out)).mono ?_
  rintro e w2 ⟨rfl, b2⟩
  have PA2 := below_blk b2 (Array.getElem?_eq_some_iff.1 PA1).1 PA1
  have PB2 := below_blk b2 (Array.getElem?_eq_some_iff.1 PB1).1 PB1
  have PR2 := below_blk b2 (Array.getElem?_eq_some_iff.1 PR1).1 PR1
  have HB2 : Hid (Below w.heap.size w w2) := HB1.out.trans (b2.mono HB1.out.size)
  clear b2 PA1 PB1 PR1 x0 x1 x2 x3 x4 x5 HB1
  cases d
  · have HRZ : Hid (R = (⟨0, ⟨0, []⟩⟩, false)) := HR.out
    obtain ⟨z0, y0⟩ := at_block PR2 0 _ rfl
    obtain ⟨z1, y1⟩ := at_block PR2 1 _ rfl
    obtain ⟨z2, y2⟩ := at_block PR2 2 _ rfl
    clear PA2 PB2 PR2
    go_wp2
    refine bodyPost_ret (v := .tuple #[.agg #[.int .i64 0, .int .i64 0, .slice none 0 0], .bool false]) (by simp [results, Tryz.results7, go_sem, *]) rfl ?_
    rw [HRZ.out]
    refine ⟨_, rfl, World.ownsRow_nil _ _ _ _, ?_⟩
    repeat (first | exact HB2.out | (refine Below.setCell ?_ (by simp <;> omega) _))
  have HDP : Hid (DutyP D) := tB_iff.1 HC.out.symm
  have HSP : Hid (StP S) := tB_iff.1 HD.out.symm
  have HRZ : Hid (R = (⟨D.ttl, (syncW D S.sess).1⟩, (syncW D S.sess).2)) := HR.out
  obtain ⟨⟨Q, qb⟩, hQ⟩ : ∃ q, q = syncW D S.sess := ⟨_, rfl⟩
  have HQ : Hid ((Q, qb) = syncW D S.sess) := hQ
  rw [← hQ] at HRZ
  clear hQ
  obtain ⟨x0, _⟩ := at_block PA2 0 _ rfl
  obtain ⟨x1, _⟩ := at_block PA2 1 _ rfl
  obtain ⟨x2, _⟩ := at_block PA2 2 _ rfl
  have HPB2 := hideD PB2
  have HPR2 := hideD PR2
  have HLO := hideD (Array.getElem?_eq_some_iff.1 PR2).1
  clear PA2 PB2 PR2
  go_wp2_with fail
  refine (ownDuV _ D w2 (HV0.out.ext (ext_below HB2.out)) HL.out).mono ?_
  rintro e w3 ⟨a3, c3, rfl, o3, b3⟩
  obtain ⟨m, hm⟩ : ∃ m, m = D.wh.tms.length := ⟨_, rfl⟩
  have HF : Hid (∀ W, W = w3.alloc (.cells #[.int .i64 D.ttl, .int .i64 D.wh.now, .slice a3 m c3] 39) → DB W w2.heap.size w3.heap.size D.ttl D.wh.now a3 c3 D.wh.tms ∧ Below w.heap.size w W ∧ W.heap[w.heap.size + 2]? = some (.cells #[.int .i64 0, .int .i64 0, .slice none 0 0] 39 (0, 0)) ∧ W.heap[w.heap.size + 1]? = some (.cells #[.int .i64 S.index, rv, uv, .int .i64 S.lost, .slice sea sm sec, lv] 48 (0, 0)) ∧ w3.heap.size ≤ W.heap.size) := fun W hW => by
    subst hW
    rw [hm]
    exact ⟨⟨heap_alloc_new _ _, o3.alloc _, b3.size⟩, (HB2.out.trans (b3.mono HB2.out.size)).alloc (Nat.le_trans HB2.out.size b3.size) _, ext_blk ((ext_below b3).trans (World.grownBy_alloc _ _ _)) HPR2.out, ext_blk ((ext_below b3).trans (World.grownBy_alloc _ _ _)) HPB2.out, by simp⟩
  rw [← hm]
  have HS3 := hideD b3.size
  clear hm o3 b3 x0 x1 x2
  go_upto_region 4 with fail
  generalize hV : w3.alloc _ = w4
  obtain ⟨K4, B4, R4, A4, Z4⟩ := HF.out w4 hV.symm
  clear hV HF
  generalize w3.heap.size = k at *
  have HK4 := hideD K4
  have HR4 := hideD R4
  have HB4 := hideD B4
  have HZ4 := hideD Z4
  obtain ⟨x0, _⟩ := at_block A4 0 _ rfl
  obtain ⟨x1, _⟩ := at_block A4 1 _ rfl
  obtain ⟨x2, _⟩ := at_block A4 2 _ rfl
  obtain ⟨x3, _⟩ := at_block A4 3 _ rfl
  obtain ⟨x4, _⟩ := at_block A4 4 _ rfl
  obtain ⟨x5, _⟩ := at_block A4 5 _ rfl
  clear K4 B4 R4 A4 Z4
  go_wp2_with fail
  refine (ssyncV k w2.heap.size c3 D.ttl D.wh.now a3 D.wh.tms _ S w w4 HK4.out (Nat.le_trans HS3.out HZ4.out) HDP.out.2.1 HS0.out HB4.out (by have := HK4.out.low; have := HB2.out.size; omega) (by have := HSP.out.2.2.1.1; omega)).mono ?_
  rintro e w5 ⟨rfl, a5, c5, K5, g5⟩
  rw [show (⟨D.ttl, ⟨D.wh.now, D.wh.tms⟩⟩ : DDuty) = D from rfl, ← HQ.out] at K5 ⊢
  obtain ⟨n5, hn5⟩ : ∃ n, n = Q.tms.length := ⟨_, rfl⟩
  have HK5 : Hid (OwT w5 w2.heap.size (.slice a5 n5 c5) Q.tms) := by rw [hn5]; exact K5.row
  have HR5 : Hid (w5.heap[w.heap.size + 2]? = some (.cells #[.int .i64 0, .int .i64 0, .slice none 0 0] 39 (0, 0))) := (g5.block _ (Array.getElem?_eq_some_iff.1 HR4.out).1 (by have := HK4.out.low; have := HLO.out; simp; omega)).trans HR4.out
  have HB5 : Hid (Below w.heap.size w w5) := HB4.out.grown g5 HB4.out.size (fun k' hk => by cases hk; exact Nat.le_trans HB2.out.size HK4.out.low)
  have HNV : Hid ((Value.slice a5 n5 c5).ownBlock = none ∨ (Value.slice a5 n5 c5).ownBlock ≠ some (w.heap.size + 2)) := by
    right
    intro e
    have h1 := (World.ownsRow.lt HK5.out _ e).1
    have h2 := HLO.out
    omega
  have hkne : w.heap.size + 2 ≠ k := by have := HK4.out.low; have := HLO.out; omega
  have hkne2 : k ≠ w.heap.size + 2 := by omega
  obtain ⟨u0, u1, u2⟩ := bx3 K5.box
  rw [← hn5] at u2
  clear x0 x1 x2 x3 x4 x5
  obtain ⟨x0, f0⟩ := at_block HR5.out 0 _ rfl
  obtain ⟨x1, f1⟩ := at_block HR5.out 1 _ rfl
  obtain ⟨x2, f2⟩ := at_block HR5.out 2 _ rfl
  clear K5 g5 HK4 HR4 HB4 hn5
  go_wp2
  refine bodyPost_ret (v := .tuple #[.agg #[.int .i64 D.ttl, .int .i64 Q.now, .slice a5 n5 c5], .bool qb]) (by simp [results, Tryz.results7, go_sem, *]) rfl ?_
  rw [HRZ.out]
  refine ⟨_, rfl, baseT ((((HK5.out.kept (set_grown _ _ _ _) HNV.out).kept (set_grown _ _ _ _) HNV.out).kept (set_grown _ _ _ _) HNV.out)) HB2.out.size, ?_⟩
  repeat (first | exact HB5.out | (refine Below.setCell ?_ (by simp <;> omega) _))

end Go.Proofs.YtnklnhnjmikooaaGreat

namespace Go.Proofs.YtnklnhnjmikooaaGreat
open Go.ChangeShapes Go.WideShapes Go.ChangeAt Go.RowKit Go.Joins

section
variable {H : Type} {enc : TypeId × Value → H} {W : World} {fuel : Nat} {v : Value} {y : DataW H × List MemPlace}

theorem int_of_trod (h : DataW.trod enc Tryz.prog W 0 (fun _ => true) true fuel 3 [v] = some y) : ∃ q : Int, v = .int .i64 q ∧ -9223372036854775808 ≤ q ∧ q ≤ 9223372036854775807 := by
  obtain ⟨q, e0, rfl, wa⟩ := DataW.trod_int Tryz.underlying3 h
  simp only [List.cons.injEq, and_true] at e0
  subst e0
  simp [Lit.wf, IntKind.min, IntKind.max, IntKind.signed, IntKind.bits] at wa
  exact ⟨q, rfl, by omega, by omega⟩
end

theorem array6 {cs : Array Value} (h : cs.size = 6) : ∃ a b c d e f, cs = #[a, b, c, d, e, f] := by
  obtain ⟨l⟩ := cs
  match l, h with
  | [a, b, c, d, e, f], _ => exact ⟨a, b, c, d, e, f, rfl⟩

end Go.Proofs.YtnklnhnjmikooaaGreat

namespace Go.Proofs.YtnklnhnjmikooaaGreat
open Go.ChangeShapes Go.WideShapes Go.ChangeAt Go.RowKit Go.Joins

section
variable {H : Type} {enc : TypeId × Value → H} {W : World} {fuel : Nat} {v : Value} {y : DataW H × List MemPlace}

theorem rv_of_trod (h : DataW.trod enc Tryz.prog W 0 (fun _ => true) true fuel 93 [v] = some y) : ∃ xs, RV W v xs ∧ ∀ x ∈ xs, 0 ≤ x ∧ x ≤ 255 := by
  rcases open_ints Tryz.underlying93 Tryz.underlying5 (by kernel_rfl) h with ⟨hcs, _⟩ | ⟨x, len, cap, zs, hcs, _, hl, hm, hz, _, hcell, hwz⟩
  · simp only [List.cons.injEq, and_true] at hcs
    subst hcs
    exact ⟨[], ⟨none, 0, rfl, Rd.nil _ _, Nat.le_refl _, Nat.zero_le _⟩, fun x hx => by cases hx⟩
  · simp only [List.cons.injEq, and_true] at hcs
    subst hcs
    have hz' : zs.length = cap := by simpa using hz
    have hln : (zs.take len).length = len := by simp; omega
    have hrng : ∀ n ∈ zs.take len, 0 ≤ n ∧ n ≤ 255 := fun n hn => by
      have := hwz n (List.mem_of_mem_take hn)
      simp [Lit.wf, IntKind.min, IntKind.max, IntKind.signed, IntKind.bits] at this
      omega
    refine ⟨zs.take len, ⟨some x, cap, by rw [hln], ⟨rfl, fun i hi => ?_, hrng⟩, by omega, hm⟩, hrng⟩
    rw [hln] at hi
    obtain ⟨b, off, spot⟩ := x
    have hspot : spot = none := by simpa [Addr.add] using World.cell?_spot (hcell 0 (by omega))
    subst hspot
    have hc := hcell i (by omega)
    refine ⟨b, off, rfl, ?_⟩
    rw [Addr.add_lit] at hc
    rw [hc]
    simp [List.getD, hi]

end

end Go.Proofs.YtnklnhnjmikooaaGreat

namespace Go.Proofs.YtnklnhnjmikooaaGreat
open Go.ChangeShapes Go.WideShapes Go.ChangeAt Go.RowKit Go.Joins

theorem list_of {α : Type} {p : Nat → α → Prop} : ∀ n : Nat, (∀ i, i < n → ∃ x, p i x) → ∃ rs : List α, rs.length = n ∧ ∀ (i : Nat) (r : α), rs[i]? = some r → p i r
  | 0, _ => ⟨[], rfl, fun i r h => by simp at h⟩
  | n + 1, h => by
    obtain ⟨rs, hl, hr⟩ := list_of n (fun i hi => h i (by omega))
    obtain ⟨x, hx⟩ := h n (by omega)
    refine ⟨rs ++ [x], by simp [hl], fun i r hi => ?_⟩
    by_cases e : i < n
    · rw [List.getElem?_append_left (by omega)] at hi
      exact hr i r hi
    · rw [List.getElem?_append_right (by omega)] at hi
      have e2 : i - rs.length = 0 := by
        have := (List.getElem?_eq_some_iff.1 hi).1
        simp at this
        omega
      rw [e2] at hi
      simp at hi
      obtain rfl : i = n := by omega
      rw [← hi]
      exact hx

section
variable {H : Type} {enc : TypeId × Value → H} {W : World} {fuel : Nat} {v : Value} {y : DataW H × List MemPlace}

set_option maxRecDepth 100000 in
/-- A slice of whatever structs: its cells, element by element. -/
theorem sl_of_trod {t e : TypeId} {k : Nat} (ht : Tryz.prog.underlying t = some (.slice e)) (hc : Tryz.prog.cellsOf e = k) (hk : 0 < k)
    (h : DataW.trod enc Tryz.prog W 0 (fun _ => true) true fuel t [v] = some y) :
    ∃ (n : Nat) (C : Nat → Nat → Value), SL W k v n C ∧ ∃ (m : Nat) (D : Nat → DataW H × List MemPlace), ∀ i, i < n → DataW.trod enc Tryz.prog W 0 (fun _ => true) true m e ((List.range k).map (C i)) = some (D i) := by
  rcases Go.Deep.open_slice ht h with ⟨hcs, _⟩ | ⟨a, len, cap, m, n, D, Pl, hcs, _, hl, hm, hmm, _, hx⟩
  · simp only [List.cons.injEq, and_true] at hcs
    subst hcs
    exact ⟨0, fun _ _ => .int .i64 0, ⟨none, 0, rfl, Nat.le_refl _, Nat.zero_le _, fun h => absurd h (by omega)⟩, 0, fun _ => y, fun i hi => absurd hi (by omega)⟩
  · simp only [List.cons.injEq, and_true] at hcs
    subst hcs
    rw [hc] at hx
    have hmm' : m = cap := by rw [hmm]; simp
    subst hmm'
    have hex : ∀ i, i < len → ∃ cs' : List Value, W.cells? 0 (a.add (i * k)) k = some cs' ∧ DataW.trod enc Tryz.prog W 0 (fun _ => true) true n e cs' = some (D i, Pl i) := fun i hi => hx i (by omega)
    obtain ⟨cs, hcsl, hcs⟩ := list_of len hex
    have hget : ∀ i, i < len → ∃ c, cs[i]? = some c := fun i hi => ⟨_, List.getElem?_eq_getElem (by omega)⟩
    refine ⟨len, fun i j => ((cs.getD i []).getD j (.int .i64 0)), ⟨some a, m, rfl, hl, hm, fun hpos => ?_⟩, n, fun i => (D i, Pl i), fun i hi => ?_⟩
    · obtain ⟨c, hcc⟩ := hget 0 hpos
      obtain ⟨h1, _⟩ := hcs 0 c hcc
      obtain ⟨_, hln, hce⟩ := World.cells?_some h1
      obtain ⟨b, off, spot⟩ := a
      have hc0 := hce 0 hk
      have hsome : W.cell? ((Addr.add ⟨b, off, spot⟩ (0 * k)).add 0) = some (c[0]'(by omega)) := by rw [hc0, List.getElem?_eq_getElem (by omega)]
      have hspot : spot = none := by simpa [Addr.add] using World.cell?_spot hsome
      subst hspot
      have hbl := World.block_lt_of_cell? W _ hsome
      rw [Addr.add_lit, Addr.add_lit] at hbl
      refine ⟨b, off, rfl, hbl, fun i hi j hj => ?_⟩
      obtain ⟨c', hcc'⟩ := hget i hi
      obtain ⟨h1', _⟩ := hcs i c' hcc'
      obtain ⟨_, hln', hce'⟩ := World.cells?_some h1'
      have := hce' j hj
      rw [Addr.add_lit, Addr.add_lit] at this
      rw [this, List.getElem?_eq_getElem (by omega)]
      simp [List.getD, hcc', List.getElem?_eq_getElem (show j < c'.length by omega)]
    · obtain ⟨c', hcc'⟩ := hget i hi
      obtain ⟨h1', h2'⟩ := hcs i c' hcc'
      obtain ⟨_, hln', _⟩ := World.cells?_some h1'
      have hce : (List.range k).map (fun j => ((cs.getD i []).getD j (.int .i64 0))) = c' := by
        apply List.ext_getElem?
        intro j
        by_cases hj : j < k
        · simp [List.getD, hcc', hj, List.getElem?_eq_getElem (show j < c'.length by omega)]
        · simp [hj, hln']
      rw [hce]
      exact h2'

theorem bool_of_trod (h : DataW.trod enc Tryz.prog W 0 (fun _ => true) true fuel 4 [v] = some y) : ∃ b, v = .bool b := by
  obtain ⟨b, e0, _⟩ := DataW.trod_bool Tryz.underlying4 h
  simp only [List.cons.injEq, and_true] at e0
  exact ⟨b, e0⟩
end

end Go.Proofs.YtnklnhnjmikooaaGreat

namespace Go.Proofs.YtnklnhnjmikooaaGreat
open Go.ChangeShapes Go.WideShapes Go.ChangeAt Go.RowKit Go.Joins

section
variable {H : Type} {enc : TypeId × Value → H} {W : World} {fuel : Nat} {v : Value} {y : DataW H × List MemPlace}

set_option maxRecDepth 100000 in
theorem rows_of_trod (h : DataW.trod enc Tryz.prog W 0 (fun _ => true) true fuel 27 [v] = some y) : ∃ rs, VRows W v rs := by
  obtain ⟨n, C, hS, m, D, hD⟩ := sl_of_trod (k := 4) Tryz.underlying27 (by kernel_rfl) (by omega) h
  obtain ⟨rs, hl, hr⟩ := list_of (p := fun i (r : DRow) => RV W (C i 0) r.key ∧ RV W (C i 1) r.val ∧ C i 2 = .int .i64 r.turned ∧ C i 3 = .int .i64 r.holder) n (fun i hi => by
    have hf := hD i hi
    obtain ⟨xs, n', _, _, _, hxl, hx⟩ := DataW.trod_struct Tryz.underlying108 hf
    match xs, hxl with
    | [y0, y1, y2, y3], _ =>
      have h0 : DataW.trod enc Tryz.prog W 0 (fun _ => true) true n' 93 [C i 0] = some y0 := hx 0 _ rfl
      have h1 : DataW.trod enc Tryz.prog W 0 (fun _ => true) true n' 93 [C i 1] = some y1 := hx 1 _ rfl
      have h2 : DataW.trod enc Tryz.prog W 0 (fun _ => true) true n' 3 [C i 2] = some y2 := hx 2 _ rfl
      have h3 : DataW.trod enc Tryz.prog W 0 (fun _ => true) true n' 3 [C i 3] = some y3 := hx 3 _ rfl
      obtain ⟨ky, rk, _⟩ := rv_of_trod h0
      obtain ⟨vl, rv, _⟩ := rv_of_trod h1
      obtain ⟨q, e2, _, _⟩ := int_of_trod h2
      obtain ⟨q', e3, _, _⟩ := int_of_trod h3
      exact ⟨⟨ky, vl, q, q'⟩, rk, rv, e2, e3⟩)
  exact ⟨rs, C, by rw [hl]; exact hS, hr⟩

set_option maxRecDepth 100000 in
theorem tombs_of_trod (h : DataW.trod enc Tryz.prog W 0 (fun _ => true) true fuel 28 [v] = some y) : ∃ rs, VTombs W v rs := by
  obtain ⟨n, C, hS, m, D, hD⟩ := sl_of_trod (k := 2) Tryz.underlying28 (by kernel_rfl) (by omega) h
  obtain ⟨rs, hl, hr⟩ := list_of (p := fun i (r : DTomb) => RV W (C i 0) r.key ∧ C i 1 = .int .i64 r.index) n (fun i hi => by
    have hf := hD i hi
    obtain ⟨xs, n', _, _, _, hxl, hx⟩ := DataW.trod_struct Tryz.underlying111 hf
    match xs, hxl with
    | [y0, y1], _ =>
      have h0 : DataW.trod enc Tryz.prog W 0 (fun _ => true) true n' 93 [C i 0] = some y0 := hx 0 _ rfl
      have h1 : DataW.trod enc Tryz.prog W 0 (fun _ => true) true n' 3 [C i 1] = some y1 := hx 1 _ rfl
      obtain ⟨ky, rk, _⟩ := rv_of_trod h0
      obtain ⟨q, e2, _, _⟩ := int_of_trod h1
      exact ⟨⟨ky, q⟩, rk, e2⟩)
  exact ⟨rs, C, by rw [hl]; exact hS, hr⟩

set_option maxRecDepth 100000 in
theorem sess_of_trod (h : DataW.trod enc Tryz.prog W 0 (fun _ => true) true fuel 29 [v] = some y) : ∃ rs, VSess W v rs := by
  obtain ⟨n, C, hS, m, D, hD⟩ := sl_of_trod (k := 2) Tryz.underlying29 (by kernel_rfl) (by omega) h
  obtain ⟨rs, hl, hr⟩ := list_of (p := fun i (r : DSess) => C i 0 = .int .i64 r.id ∧ C i 1 = .bool r.del) n (fun i hi => by
    have hf := hD i hi
    obtain ⟨xs, n', _, _, _, hxl, hx⟩ := DataW.trod_struct Tryz.underlying133 hf
    match xs, hxl with
    | [y0, y1], _ =>
      have h0 : DataW.trod enc Tryz.prog W 0 (fun _ => true) true n' 3 [C i 0] = some y0 := hx 0 _ rfl
      have h1 : DataW.trod enc Tryz.prog W 0 (fun _ => true) true n' 4 [C i 1] = some y1 := hx 1 _ rfl
      obtain ⟨q, e1, _, _⟩ := int_of_trod h0
      obtain ⟨b, e2⟩ := bool_of_trod h1
      exact ⟨⟨q, b⟩, e1, e2⟩)
  exact ⟨rs, C, by rw [hl]; exact hS, hr⟩

set_option maxRecDepth 100000 in
theorem lasts_of_trod (h : DataW.trod enc Tryz.prog W 0 (fun _ => true) true fuel 30 [v] = some y) : ∃ rs, VLasts W v rs := by
  obtain ⟨n, C, hS, m, D, hD⟩ := sl_of_trod (k := 4) Tryz.underlying30 (by kernel_rfl) (by omega) h
  obtain ⟨rs, hl, hr⟩ := list_of (p := fun i (r : DLast) => C i 0 = .int .i64 r.client ∧ C i 1 = .int .i64 r.req ∧ C i 2 = .int .i64 r.code ∧ C i 3 = .int .i64 r.index) n (fun i hi => by
    have hf := hD i hi
    obtain ⟨xs, n', _, _, _, hxl, hx⟩ := DataW.trod_struct Tryz.underlying137 hf
    match xs, hxl with
    | [y0, y1, y2], _ =>
      have h0 : DataW.trod enc Tryz.prog W 0 (fun _ => true) true n' 3 [C i 0] = some y0 := hx 0 _ rfl
      have h1 : DataW.trod enc Tryz.prog W 0 (fun _ => true) true n' 3 [C i 1] = some y1 := hx 1 _ rfl
      have h2 : DataW.trod enc Tryz.prog W 0 (fun _ => true) true n' 135 [C i 2, C i 3] = some y2 := hx 2 _ rfl
      obtain ⟨zs, n'', _, _, _, hzl, hz⟩ := DataW.trod_struct Tryz.underlying135 h2
      match zs, hzl with
      | [z0, z1], _ =>
        have g0 : DataW.trod enc Tryz.prog W 0 (fun _ => true) true n'' 3 [C i 2] = some z0 := hz 0 _ rfl
        have g1 : DataW.trod enc Tryz.prog W 0 (fun _ => true) true n'' 3 [C i 3] = some z1 := hz 1 _ rfl
        obtain ⟨q0, e0, _, _⟩ := int_of_trod h0
        obtain ⟨q1, e1, _, _⟩ := int_of_trod h1
        obtain ⟨q2, e2, _, _⟩ := int_of_trod g0
        obtain ⟨q3, e3, _, _⟩ := int_of_trod g1
        exact ⟨⟨q0, q1, q2, q3⟩, e0, e1, e2, e3⟩)
  exact ⟨rs, C, by rw [hl]; exact hS, hr⟩
end

/-- What a state's own numbers are bounded by. -/
def intSt (S : DState) : Prop := (-9223372036854775808 ≤ S.index ∧ S.index ≤ 9223372036854775807) ∧ (-9223372036854775808 ≤ S.lost ∧ S.lost ≤ 9223372036854775807)

set_option maxRecDepth 100000 in
theorem open_State {H : Type} {enc : TypeId × Value → H} {W : World} {r : Reach} {b0 : Nat} {v : Value} {d : DataW H} {p : List MemPlace}
    (hv : Value.okWide Tryz.prog W r b0 32 v) (h : DataW.Trod enc Tryz.prog W 0 (fun _ => true) true 32 v d p) : ∃ S, VState W v S ∧ rngSt S ∧ intSt S := by
  obtain ⟨cs, rfl, hsz⟩ := okWide_struct Tryz.underlying32 hv
  have h6 : Tryz.prog.cellsOf 32 = 6 := by kernel_rfl
  obtain ⟨c0, c1, c2, c3, c4, c5, rfl⟩ := array6 (hsz.trans h6)
  obtain ⟨fuel, hf⟩ := h
  obtain ⟨xs, n, _, _, _, hxl, hx⟩ := DataW.trod_struct Tryz.underlying32 hf
  match xs, hxl with
  | [y0, y1, y2, y3, y4, y5], _ =>
    have h0 : DataW.trod enc Tryz.prog W 0 (fun _ => true) true n 3 [c0] = some y0 := hx 0 _ rfl
    have h1 : DataW.trod enc Tryz.prog W 0 (fun _ => true) true n 27 [c1] = some y1 := hx 1 _ rfl
    have h2 : DataW.trod enc Tryz.prog W 0 (fun _ => true) true n 28 [c2] = some y2 := hx 2 _ rfl
    have h3 : DataW.trod enc Tryz.prog W 0 (fun _ => true) true n 3 [c3] = some y3 := hx 3 _ rfl
    have h4 : DataW.trod enc Tryz.prog W 0 (fun _ => true) true n 29 [c4] = some y4 := hx 4 _ rfl
    have h5 : DataW.trod enc Tryz.prog W 0 (fun _ => true) true n 30 [c5] = some y5 := hx 5 _ rfl
    obtain ⟨q0, rfl, a1, a2⟩ := int_of_trod h0
    obtain ⟨q3, rfl, b1, b2⟩ := int_of_trod h3
    obtain ⟨rs, v1⟩ := rows_of_trod h1
    obtain ⟨ts, v2⟩ := tombs_of_trod h2
    obtain ⟨ss, v4⟩ := sess_of_trod h4
    obtain ⟨ls, v5⟩ := lasts_of_trod h5
    have V : VState W (.agg #[.int .i64 q0, c1, c2, .int .i64 q3, c4, c5]) ⟨q0, rs, ts, q3, ss, ls⟩ := ⟨c1, c2, c4, c5, rfl, v1, v2, v4, v5⟩
    exact ⟨_, V, rngSt_of V, ⟨a1, a2⟩, ⟨b1, b2⟩⟩

end Go.Proofs.YtnklnhnjmikooaaGreat

namespace Go.Proofs.YtnklnhnjmikooaaGreat
open Go.RowKit

theorem cells6S {w : World} {g : Nat} {v0 v1 v2 v3 v4 v5 : Value} {t : TypeId} (h : w.heap[g]? = some (.cells #[v0, v1, v2, v3, v4, v5] t (0, 0))) : w.cell? ⟨g, 0, none⟩ = some v0 ∧ w.cell? ⟨g, 1, none⟩ = some v1 ∧ w.cell? ⟨g, 2, none⟩ = some v2 ∧ w.cell? ⟨g, 3, none⟩ = some v3 ∧ w.cell? ⟨g, 4, none⟩ = some v4 ∧ w.cell? ⟨g, 5, none⟩ = some v5 :=
  ⟨(at_block h 0 _ rfl).1, (at_block h 1 _ rfl).1, (at_block h 2 _ rfl).1, (at_block h 3 _ rfl).1, (at_block h 4 _ rfl).1, (at_block h 5 _ rfl).1⟩
def stA (gr gt gs gl : Nat) (S : DState) : Array Value := #[.int .i64 S.index, .slice (some ⟨gr, 0, none⟩) S.rows.length S.rows.length, .slice (some ⟨gt, 0, none⟩) S.tombs.length S.tombs.length, .int .i64 S.lost, .slice (some ⟨gs, 0, none⟩) S.sess.length S.sess.length, .slice (some ⟨gl, 0, none⟩) S.lasts.length S.lasts.length]
theorem al2x (w : World) (a b : Obj) : ((w.alloc a).alloc b).heap[w.heap.size]? = some a := by
  rw [Below.heap_alloc _ _ _ (by simp)]
  exact heap_alloc_new w a
theorem al2y (w : World) (a b : Obj) : ((w.alloc a).alloc b).heap[w.heap.size + 1]? = some b := by simpa using heap_alloc_new (w.alloc a) b
theorem syncX_len (c d : Bool) (D : DDuty) (ss : List DSess) (hc : c = true → WheelP D.wh) : (syncX c d D ss).1.wh.tms.length ≤ 1048576 := by
  unfold syncX
  cases c
  · simp
  · cases d
    · simp
    · have := (syncW_p ss (hc rfl)).1.2.1
      simp only [if_true]
      omega

set_option maxRecDepth 20000 in
set_option maxHeartbeats 8000000 in
theorem law_DutySync (v : Value) (D : DDuty) (u : Value) (S : DState) (w : World) (h : VDuty w v D) (k : VState w u S) (hrg : rngSt S) (_hi : intSt S) :
    Calls Tryz.prog 3 #[v, u] w fun e w' => e = .returned (.bool true) ∧ Below w.heap.size w w' := by
  have hE : ∀ w : World, ∀ o, Ext w (w.alloc o) := fun w o => World.grownBy_alloc _ _ _
  have hB : ∀ w : World, ∀ o, Below w.heap.size w (w.alloc o) := fun w o => (Below.refl _ w).alloc (Nat.le_refl _) _
  have h0 : Hid (VDuty w v D) := h
  have k0 : Hid (VState w u S) := k
  have HRG := hideD hrg
  obtain ⟨⟨R, rb⟩, hR⟩ : ∃ R, R = syncX (tB (DutyP D)) (tB (StP S)) D S.sess := ⟨_, rfl⟩
  have HR : Hid ((R, rb) = syncX (tB (DutyP D)) (tB (StP S)) D S.sess) := hR
  have HRL : Hid (D.wh.tms.length ≤ 1048576 → R.wh.tms.length ≤ 1048576) := fun _ => by
    have := syncX_len (tB (DutyP D)) (tB (StP S)) D S.sess (fun h => (tB_iff.1 h).2.1)
    rw [← hR] at this
    exact this
  clear hR
  obtain ⟨tv, rfl, ht⟩ := h
  obtain ⟨ta, tc', rfl⟩ := ht.shape
  obtain ⟨n, hn⟩ : ∃ n, n = D.wh.tms.length := ⟨_, rfl⟩
  have HN : Hid (n = D.wh.tms.length) := hn
  rw [← hn] at h0 ⊢
  clear hn ht hrg
  obtain ⟨rv, uv, sv0, lv, rfl, _, _, _, _⟩ := k
  go_enter Tryz.func3, Tryz.ntmps3
  go_upto_region 2 with fail
  have PA := al2x w (.cells #[.int .i64 D.ttl, .int .i64 D.wh.now, .slice ta n tc'] 26 (0, 0)) (.cells #[.int .i64 S.index, rv, uv, .int .i64 S.lost, sv0, lv] 32 (0, 0))
  have PB := al2y w (.cells #[.int .i64 D.ttl, .int .i64 D.wh.now, .slice ta n tc'] 26 (0, 0)) (.cells #[.int .i64 S.index, rv, uv, .int .i64 S.lost, sv0, lv] 32 (0, 0))
  generalize hW : World.alloc (World.alloc w _) _ = W at PA PB ⊢
  have BW : Below w.heap.size w W := by rw [← hW]; exact ((Below.refl _ w).alloc (Nat.le_refl _) _).alloc (by simp) _
  clear hW
  obtain ⟨x0, x1, x2⟩ := bx3 PA
  go_wp2_with fail
  refine (szD _ D 1048576 _ (h0.out.ext (ext_below BW)) (by omega) (by omega)).mono ?_
  rintro e wa ⟨r, rfl, hrr, ba⟩
  rw [← HN.out] at hrr
  have PA1 := below_blk ba (Array.getElem?_eq_some_iff.1 PA).1 PA
  have PB1 := below_blk ba (Array.getElem?_eq_some_iff.1 PB).1 PB
  have B1 := BW.trans (ba.mono BW.size)
  clear x0 x1 x2 PA PB ba BW
  rcases hrr with ⟨h1, rfl⟩ | ⟨h1, h2⟩
  · go_wp2_with fail
    go_ret
    exact ⟨rfl, B1⟩
  have HLE : Hid (D.wh.tms.length ≤ 1048576) := by have := HN.out; show _ ≤ _; omega
  have hl : n ≤ 1048576 := by omega
  have hr0 : 0 ≤ r := by omega
  have hr1 : r ≤ 1048576 := by omega
  clear h1 h2
  obtain ⟨y0, y1, y2, y3, y4, y5⟩ := cells6S PB1
  go_wp2_with fail
  refine (szSt _ S r _ (k0.out.ext (ext_below B1)) hr0 hr1).mono ?_
  rintro e w1 ⟨r2, rfl, hrr, bb⟩
  have HAD := hideD (below_blk bb (Array.getElem?_eq_some_iff.1 PA1).1 PA1)
  have HAS := hideD (below_blk bb (Array.getElem?_eq_some_iff.1 PB1).1 PB1)
  have B2 := hideD (B1.trans (bb.mono B1.size))
  clear y0 y1 y2 y3 y4 y5 PA1 PB1 bb B1
  rcases hrr with ⟨h1, rfl⟩ | ⟨h1, h2⟩
  · go_wp2_with fail
    go_ret
    exact ⟨rfl, B2.out⟩
  have HL : Hid (LenSt S 1048576) := lenSt_of (by omega)
  have hr2 : 0 ≤ r2 := by omega
  obtain ⟨m, hm⟩ : ∃ m, m = R.wh.tms.length := ⟨_, rfl⟩
  have HMR := hideD hm
  have HML : Hid (m ≤ 1048576) := by rw [hm]; exact HRL.out HLE.out
  clear h1 h2 hm
  have HTDg : Hid (∀ V0 V, Ext w V0 → Ext V0 V → Calls Tryz.prog 8 #[.agg #[.int .i64 D.ttl, .int .i64 D.wh.now, .slice ta n tc']] V fun e w' => ∃ g, e = .returned (.agg #[.int .i64 D.ttl, .int .i64 D.wh.now, .slice (some ⟨g, 0, none⟩) n n]) ∧ Hid (OwT w' V.heap.size (.slice (some ⟨g, 0, none⟩) n n) D.wh.tms) ∧ Hid (Ext V0 w') ∧ Hid (Ext V w')) := fun V0 V e0 e1 => (toD _ D V ((h0.out.ext e0).ext e1) HLE.out).mono fun e w' ⟨g, h1, h2, h3, h4⟩ => by
    rw [← HN.out] at h1
    refine ⟨g, h1, ?_, e1.trans (ext_below h4), ext_below h4⟩
    rw [HN.out]
    exact h3.own h2 HLE.out
  have HTSg : Hid (∀ V0 V, Ext w V0 → Ext V0 V → Calls Tryz.prog 9 #[.agg #[.int .i64 S.index, rv, uv, .int .i64 S.lost, sv0, lv]] V fun e w' => ∃ gr gt gs gl, e = .returned (stV gr gt gs gl S) ∧ Hid (VState w' (stV gr gt gs gl S) S) ∧ Hid (Shp V.heap.size w'.heap.size w' gr gt gs gl S.rows.length S.tombs.length S.sess.length S.lasts.length) ∧ Hid (Ext V0 w') ∧ Hid (Ext V w')) := fun V0 V e0 e1 => (toSt _ S V ((k0.out.ext e0).ext e1) HL.out).mono fun e w' ⟨gr, gt, gs, gl, h1, h2, h3⟩ => ⟨gr, gt, gs, gl, h1, h2.v HL.out HRG.out, shp_of h2 HL.out, e1.trans (ext_below h3), ext_below h3⟩
  have HSg : Hid (∀ V0 V xv yv, Ext V0 V → VDuty V xv D → VState V yv S → Calls Tryz.prog 7 #[xv, yv] V fun e w' => ∃ sa sc, e = .returned (.tuple #[.agg #[.int .i64 R.ttl, .int .i64 R.wh.now, .slice sa m sc], .bool rb]) ∧ Hid (OwT w' V.heap.size (.slice sa m sc) R.wh.tms) ∧ Hid (Ext V0 w') ∧ Hid (Ext V w')) := fun V0 V xv yv e1 hx hy => (sDutySyncV xv yv D S V hx hy HLE.out).mono fun e w' ⟨tv, h1, h2, h3⟩ => by
    rw [← HR.out] at h1 h2
    obtain ⟨a, c, rfl⟩ := h2.v.shape
    rw [← HMR.out] at h1 h2
    exact ⟨a, c, h1, h2, e1.trans (ext_below h3), ext_below h3⟩
  have HIg : Hid (∀ V0 V xv yv, Ext V0 V → VDuty V xv D → VState V yv S → Calls Tryz.prog 10 #[xv, yv] V fun e w' => ∃ sa sc, e = .returned (.tuple #[.agg #[.int .i64 R.ttl, .int .i64 R.wh.now, .slice sa m sc], .bool rb]) ∧ Hid (OwT w' V.heap.size (.slice sa m sc) R.wh.tms) ∧ Hid (Ext V0 w') ∧ Hid (Ext V w')) := fun V0 V xv yv e1 hx hy => (iDutySyncV xv yv D S V hx hy HLE.out).mono fun e w' ⟨tv, h1, h2, h3⟩ => by
    rw [← HR.out] at h1 h2
    obtain ⟨a, c, rfl⟩ := h2.v.shape
    rw [← HMR.out] at h1 h2
    exact ⟨a, c, h1, h2, e1.trans (ext_below h3), ext_below h3⟩
  have HTD := hideD (fun V e => HTDg.out w1 V (ext_below B2.out) e)
  have HTS := hideD (fun V e => HTSg.out w1 V (ext_below B2.out) e)
  have HS := hideD (HSg.out w1)
  have XRR : Ext w1 w1 := World.grownBy.refl _ _
  have d0w := (bx3 (ext_blk XRR HAD.out)).1
  have da0w := (fun o => (bx3 (ext_blk (XRR.trans (World.grownBy_alloc w1 o none)) HAD.out)).1)
  have d1w := (bx3 (ext_blk XRR HAD.out)).2.1
  have da1w := (fun o => (bx3 (ext_blk (XRR.trans (World.grownBy_alloc w1 o none)) HAD.out)).2.1)
  have d2w := (bx3 (ext_blk XRR HAD.out)).2.2
  have da2w := (fun o => (bx3 (ext_blk (XRR.trans (World.grownBy_alloc w1 o none)) HAD.out)).2.2)
  have s0w := (cells6S (ext_blk XRR HAS.out)).1
  have sa0w := (fun o => (cells6S (ext_blk (XRR.trans (World.grownBy_alloc w1 o none)) HAS.out)).1)
  have s1w := (cells6S (ext_blk XRR HAS.out)).2.1
  have sa1w := (fun o => (cells6S (ext_blk (XRR.trans (World.grownBy_alloc w1 o none)) HAS.out)).2.1)
  have s2w := (cells6S (ext_blk XRR HAS.out)).2.2.1
  have sa2w := (fun o => (cells6S (ext_blk (XRR.trans (World.grownBy_alloc w1 o none)) HAS.out)).2.2.1)
  have s3w := (cells6S (ext_blk XRR HAS.out)).2.2.2.1
  have sa3w := (fun o => (cells6S (ext_blk (XRR.trans (World.grownBy_alloc w1 o none)) HAS.out)).2.2.2.1)
  have s4w := (cells6S (ext_blk XRR HAS.out)).2.2.2.2.1
  have sa4w := (fun o => (cells6S (ext_blk (XRR.trans (World.grownBy_alloc w1 o none)) HAS.out)).2.2.2.2.1)
  have s5w := (cells6S (ext_blk XRR HAS.out)).2.2.2.2.2
  have sa5w := (fun o => (cells6S (ext_blk (XRR.trans (World.grownBy_alloc w1 o none)) HAS.out)).2.2.2.2.2)
  unfold stV at HTSg HTS
  go_upto_region 8 with fail
  go_cut [6, 7] from 27 to 34 (fun s t0 wx => ∃ wy bs sa sc, wx = wy ∧ s = .pointer (some ⟨bs, 0, none⟩) ∧ t0 = .bool rb ∧ Hid (BoxD w1 R m bs sa sc wy))
  case first =>
    go_region_law (first
      | (go_simp; go_at_call 7; refine (HS.out _ _ _ ?_ ?_ ?_).mono ?_; (repeat (first | exact World.grownBy.refl _ _ | assumption | refine World.grownBy.trans ?_ (World.grownBy_alloc _ _ _) | refine World.grownBy.trans ?_ (ext_drewN _ _))); exact ⟨_, rfl, o1.out.v.ext (X12.out.trans (by (repeat (first | exact World.grownBy.refl _ _ | assumption | refine World.grownBy.trans ?_ (World.grownBy_alloc _ _ _) | refine World.grownBy.trans ?_ (ext_drewN _ _)))))⟩; exact v2.out.ext (by (repeat (first | exact World.grownBy.refl _ _ | assumption | refine World.grownBy.trans ?_ (World.grownBy_alloc _ _ _) | refine World.grownBy.trans ?_ (ext_drewN _ _)))); rintro e z3 ⟨sa, sc, rfl, o3, X3, XV3⟩; (try (have Q3 := ext_blk XV3.out Q2)); (try (have Q3 := ext_blk XV3.out (heap_alloc_new z2 (.cells #[.int .i64 0, .int .i64 0, .slice none 0 0] 39 (0, 0))))); (try (obtain ⟨q0, p0⟩ := at_block Q3 0 _ rfl; obtain ⟨q1, p1⟩ := at_block Q3 1 _ rfl; obtain ⟨q2, p2⟩ := at_block Q3 2 _ rfl)))
      | (go_simp; go_at_call 9; refine (HTS.out _ ?_).mono ?_; (repeat (first | exact World.grownBy.refl _ _ | assumption | refine World.grownBy.trans ?_ (World.grownBy_alloc _ _ _) | refine World.grownBy.trans ?_ (ext_drewN _ _))); rintro e z2 ⟨gr2, gt2, gs2, gl2, rfl, v2, h2, X2, XV2⟩; have X12 : Hid (Ext z1 z2) := (by refine World.grownBy.trans ?_ XV2.out; (repeat (first | exact World.grownBy.refl _ _ | assumption | refine World.grownBy.trans ?_ (World.grownBy_alloc _ _ _) | refine World.grownBy.trans ?_ (ext_drewN _ _)))); (try (have Q2 := ext_blk XV2.out Q1)); (try (have Q2 := ext_blk XV2.out (heap_alloc_new z1 (.cells #[.int .i64 0, .int .i64 0, .slice none 0 0] 39 (0, 0))))); have d0 := (bx3 (ext_blk X2.out HAD.out)).1; have da0 := (fun o => (bx3 (ext_blk (X2.out.trans (World.grownBy_alloc z2 o none)) HAD.out)).1); have d1 := (bx3 (ext_blk X2.out HAD.out)).2.1; have da1 := (fun o => (bx3 (ext_blk (X2.out.trans (World.grownBy_alloc z2 o none)) HAD.out)).2.1); have d2 := (bx3 (ext_blk X2.out HAD.out)).2.2; have da2 := (fun o => (bx3 (ext_blk (X2.out.trans (World.grownBy_alloc z2 o none)) HAD.out)).2.2); have s0 := (cells6S (ext_blk X2.out HAS.out)).1; have sa0 := (fun o => (cells6S (ext_blk (X2.out.trans (World.grownBy_alloc z2 o none)) HAS.out)).1); have s1 := (cells6S (ext_blk X2.out HAS.out)).2.1; have sa1 := (fun o => (cells6S (ext_blk (X2.out.trans (World.grownBy_alloc z2 o none)) HAS.out)).2.1); have s2 := (cells6S (ext_blk X2.out HAS.out)).2.2.1; have sa2 := (fun o => (cells6S (ext_blk (X2.out.trans (World.grownBy_alloc z2 o none)) HAS.out)).2.2.1); have s3 := (cells6S (ext_blk X2.out HAS.out)).2.2.2.1; have sa3 := (fun o => (cells6S (ext_blk (X2.out.trans (World.grownBy_alloc z2 o none)) HAS.out)).2.2.2.1); have s4 := (cells6S (ext_blk X2.out HAS.out)).2.2.2.2.1; have sa4 := (fun o => (cells6S (ext_blk (X2.out.trans (World.grownBy_alloc z2 o none)) HAS.out)).2.2.2.2.1); have s5 := (cells6S (ext_blk X2.out HAS.out)).2.2.2.2.2; have sa5 := (fun o => (cells6S (ext_blk (X2.out.trans (World.grownBy_alloc z2 o none)) HAS.out)).2.2.2.2.2))
      | (go_simp; go_at_call 8; refine (HTD.out _ ?_).mono ?_; (repeat (first | exact World.grownBy.refl _ _ | assumption | refine World.grownBy.trans ?_ (World.grownBy_alloc _ _ _) | refine World.grownBy.trans ?_ (ext_drewN _ _))); rintro e z1 ⟨g1, rfl, o1, X1, XV1⟩; (try (have Q1 := ext_blk XV1.out (heap_alloc_new w1 (.cells #[.int .i64 0, .int .i64 0, .slice none 0 0] 39 (0, 0))))); have d0 := (bx3 (ext_blk X1.out HAD.out)).1; have da0 := (fun o => (bx3 (ext_blk (X1.out.trans (World.grownBy_alloc z1 o none)) HAD.out)).1); have d1 := (bx3 (ext_blk X1.out HAD.out)).2.1; have da1 := (fun o => (bx3 (ext_blk (X1.out.trans (World.grownBy_alloc z1 o none)) HAD.out)).2.1); have d2 := (bx3 (ext_blk X1.out HAD.out)).2.2; have da2 := (fun o => (bx3 (ext_blk (X1.out.trans (World.grownBy_alloc z1 o none)) HAD.out)).2.2); have s0 := (cells6S (ext_blk X1.out HAS.out)).1; have sa0 := (fun o => (cells6S (ext_blk (X1.out.trans (World.grownBy_alloc z1 o none)) HAS.out)).1); have s1 := (cells6S (ext_blk X1.out HAS.out)).2.1; have sa1 := (fun o => (cells6S (ext_blk (X1.out.trans (World.grownBy_alloc z1 o none)) HAS.out)).2.1); have s2 := (cells6S (ext_blk X1.out HAS.out)).2.2.1; have sa2 := (fun o => (cells6S (ext_blk (X1.out.trans (World.grownBy_alloc z1 o none)) HAS.out)).2.2.1); have s3 := (cells6S (ext_blk X1.out HAS.out)).2.2.2.1; have sa3 := (fun o => (cells6S (ext_blk (X1.out.trans (World.grownBy_alloc z1 o none)) HAS.out)).2.2.2.1); have s4 := (cells6S (ext_blk X1.out HAS.out)).2.2.2.2.1; have sa4 := (fun o => (cells6S (ext_blk (X1.out.trans (World.grownBy_alloc z1 o none)) HAS.out)).2.2.2.2.1); have s5 := (cells6S (ext_blk X1.out HAS.out)).2.2.2.2.2; have sa5 := (fun o => (cells6S (ext_blk (X1.out.trans (World.grownBy_alloc z1 o none)) HAS.out)).2.2.2.2.2)))
    all_goals
      have HZ2 := X2.out.size
      have HZ1 := X1.out.size
      go_wp2_with fail
      go_meet
      refine ⟨_, _, sa, sc, rfl, rfl, rfl, ?_⟩
      first
        | (with_reducible refine hideD (boxd_set X3.out o3.out ?_ Q3 ?_); (first | omega | (simp; omega)); (first | omega | (simp; omega)))
        | (with_reducible refine hideD (boxd_new X3.out o3.out ?_); (first | omega | (simp; omega)))
  obtain ⟨wy, bs, sa, sc, hwy, rfl, rfl, HBX⟩ := hcut
  have hwy' := hwy.symm
  clear hwy
  subst hwy'

  have HX1 := HBX.out.2.1
  have HXW : Hid (Ext w wy) := (ext_below B2.out).trans HX1
  have HADy := hideD (ext_blk HX1 HAD.out)
  have HASy := hideD (ext_blk HX1 HAS.out)
  have HSZ1 : Hid (w.heap.size + 1 < wy.heap.size ∧ bs < wy.heap.size) := ⟨(Array.getElem?_eq_some_iff.1 HASy.out).1, (Array.getElem?_eq_some_iff.1 HBX.out.1).1⟩
  have HBWy := hideD (B2.out.trans ((ext_bel HX1).mono B2.out.size))
  clear d0w da0w d1w da1w d2w da2w s0w sa0w s1w sa1w s2w sa2w s3w sa3w s4w sa4w s5w sa5w XRR HTD HTS HS HX1
  obtain ⟨e0, e1, e2⟩ := bx3 HADy.out
  go_wp2_with fail
  refine (HTDg.out wy wy HXW.out (World.grownBy.refl _ _)).mono ?_
  rintro e z4 ⟨g4, rfl, o4, X4, _⟩
  have HM4 : Hid (∀ V, V = z4.alloc (.cells #[.int .i64 D.ttl, .int .i64 D.wh.now, .slice (some ⟨g4, 0, none⟩) n n] 39 (0, 0)) → Ext wy V ∧ V.heap[z4.heap.size]? = some (.cells #[.int .i64 D.ttl, .int .i64 D.wh.now, .slice (some ⟨g4, 0, none⟩) n n] 39 (0, 0)) ∧ OwT V wy.heap.size (.slice (some ⟨g4, 0, none⟩) n n) D.wh.tms ∧ V.heap.size = z4.heap.size + 1 ∧ g4 < z4.heap.size) := fun V hV => by
    subst hV
    exact ⟨X4.out.trans (hE _ _), heap_alloc_new _ _, o4.out.alloc _, by simp, (World.ownsRow.lt o4.out g4 rfl).2⟩
  clear e0 e1 e2
  go_upto_region 10 with fail
  generalize hV : z4.alloc _ = W4
  obtain ⟨XY4, P4, O4, Z4, L4⟩ := HM4.out W4 hV.symm
  clear hV HM4
  have HXY4 := hideD XY4
  have HP4 := hideD P4
  have HO4 := hideD O4
  have HZ4 : Hid (W4.heap.size = z4.heap.size + 1 ∧ g4 < z4.heap.size ∧ wy.heap.size ≤ z4.heap.size) := ⟨Z4, L4, X4.out.size⟩
  clear XY4 P4 O4 Z4 L4 o4 X4
  obtain ⟨f0, f1, f2, f3, f4, f5⟩ := cells6S (ext_blk HXY4.out HASy.out)
  go_wp2_with fail
  refine (HTSg.out wy W4 HXW.out HXY4.out).mono ?_
  rintro e z5 ⟨gr, gt, gs, gl, rfl, v5, h5, X5, Y5⟩
  have HM5 : Hid (∀ V, V = z5.alloc (.cells (stA gr gt gs gl S) 48 (0, 0)) → Ext W4 V ∧ V.heap[z5.heap.size]? = some (.cells (stA gr gt gs gl S) 48 (0, 0)) ∧ VState V (.agg (stA gr gt gs gl S)) S ∧ Shp W4.heap.size z5.heap.size V gr gt gs gl S.rows.length S.tombs.length S.sess.length S.lasts.length ∧ V.heap.size = z5.heap.size + 1 ∧ W4.heap.size ≤ z5.heap.size) := fun V hV => by
    subst hV
    exact ⟨Y5.out.trans (hE _ _), heap_alloc_new _ _, v5.out.ext (hE _ _), h5.out.ext (hE _ _), by simp, Y5.out.size⟩
  clear f0 f1 f2 f3 f4 f5
  go_upto_region 11 with fail
  generalize hV : z5.alloc _ = W5
  obtain ⟨XY5, P5, V5, S5, Z5, L5⟩ := HM5.out W5 hV.symm
  clear hV HM5
  have HXY5 := hideD XY5
  have HP5 := hideD P5
  have HV5 := hideD V5
  have HS5 := hideD S5
  have HZ5 : Hid (W5.heap.size = z5.heap.size + 1 ∧ W4.heap.size ≤ z5.heap.size) := ⟨Z5, L5⟩
  clear XY5 P5 V5 S5 Z5 L5 v5 h5 X5 Y5
  obtain ⟨e0, e1, e2⟩ := bx3 (ext_blk HXY5.out HP4.out)
  obtain ⟨f0, f1, f2, f3, f4, f5⟩ := cells6S (show W5.heap[z5.heap.size]? = some (.cells #[_, _, _, _, _, _] _ _) from HP5.out)
  go_wp2_with fail
  refine (HIg.out wy W5 _ _ (HXY4.out.trans HXY5.out) ⟨_, rfl, OwT.v (HO4.out.kept HXY5.out (by simp [Value.ownBlock]))⟩ HV5.out).mono ?_
  rintro e z6 ⟨ga, gc, rfl, o6, X6, Y6⟩
  have HM6 : Hid (∀ V, V = z6.alloc (.cells #[.int .i64 R.ttl, .int .i64 R.wh.now, .slice ga m gc] 39 (0, 0)) → LSy w wy V D R #[.int .i64 D.ttl, .int .i64 D.wh.now, .slice ta n tc'] #[.int .i64 S.index, rv, uv, .int .i64 S.lost, sv0, lv] (stA gr gt gs gl S) (.slice sa m sc) (.slice (some ⟨g4, 0, none⟩) n n) (.slice ga m gc) bs z4.heap.size z5.heap.size z6.heap.size wy.heap.size W5.heap.size W4.heap.size z5.heap.size D.wh.tms R.wh.tms ∧ Shp W4.heap.size z5.heap.size V gr gt gs gl S.rows.length S.tombs.length S.sess.length S.lasts.length ∧ VState V (.agg (stA gr gt gs gl S)) S) := fun V hV => by
    subst hV
    have hz1 := HSZ1.out
    have hz4 := HZ4.out
    have hz5 := HZ5.out
    have hz6 := Y6.out.size
    have X56 : Ext W5 (z6.alloc (.cells #[.int .i64 R.ttl, .int .i64 R.wh.now, .slice ga m gc] 39 (0, 0))) := Y6.out.trans (hE _ _)
    have X46 := HXY5.out.trans X56
    have XW6 := HXY4.out.trans X46
    exact ⟨⟨HBWy.out.trans ((ext_bel XW6).mono HBWy.out.size), ext_bel XW6, HBX.out.2.2.1.v, ext_blk XW6 HADy.out, ext_blk XW6 HASy.out, ext_blk XW6 HBX.out.1, ext_blk X46 HP4.out, ext_blk X56 HP5.out, heap_alloc_new _ _, HO4.out.kept X46 (by simp [Value.ownBlock]), o6.out.alloc _, fun k hk => (by have e9 : g4 = k := (by simpa [Value.ownBlock] using hk); omega), by omega⟩, HS5.out.ext X56, HV5.out.ext X56⟩
  clear e0 e1 e2 f0 f1 f2 f3 f4 f5
  go_upto_region 12 with fail
  generalize hV : z6.alloc _ = W6
  obtain ⟨L6, S6, V6⟩ := HM6.out W6 hV.symm
  have HL6 := hideD L6
  have HS6 := hideD S6
  have HV6 := hideD V6
  clear hV HM6 L6 S6 V6 o6 X6 Y6
  have HORD := hideD HL6.out.ord
  clear HXY4 HP4 HO4 HXY5 HP5 HV5 HS5
  obtain ⟨s0, s1, s2⟩ := bx3 HL6.out.s
  obtain ⟨g0, g1, g2⟩ := bx3 HL6.out.g
  go_wp2_with fail
  refine (eqD _ _ R _ ⟨_, rfl, OwT.v HL6.out.gO⟩ HL6.out.sW (by rw [← HMR.out]; exact HML.out)).mono ?_
  rintro e W7 ⟨rfl, b7⟩
  have HL7 := hideD (HL6.out.grow b7)
  have HS7 := hideD (HS6.out.ext (ext_below b7))
  have HV7 := hideD (HV6.out.ext (ext_below b7))
  clear s0 s1 s2 g0 g1 g2 b7 HL6 HS6 HV6
  -- its arguments are as they were
  have HADc := hideD HL7.out.aD
  have HASc := hideD HL7.out.aS
  have HXc := hideD HL7.out.x
  have HYc := hideD HL7.out.y
  have HTDc := hideD (fun V e => HTDg.out W7 V (ext_below HL7.out.low) e)
  have XRR : Ext W7 W7 := World.grownBy.refl _ _
  obtain ⟨e0, e1, e2⟩ := bx3 HADc.out
  obtain ⟨x0, x1, x2⟩ := bx3 HXc.out
  go_upto_region 14 with fail
  go_cut [58] from 54 to 58 (fun c wx => ∃ wq, wx = wq ∧ c = .bool false ∧ Hid (Ext W7 wq))
  case first =>
    go_region_law (first
      | (go_simp; go_at_call 11; refine (eqD _ _ D _ ⟨_, rfl, OwT.v (HL7.out.xO.kept X1.out (by simp [Value.ownBlock]))⟩ ⟨_, rfl, o1.out.v⟩ HLE.out).mono ?_; rintro e z2 ⟨rfl, b2⟩; have X2 : Hid (Ext W7 z2) := X1.out.trans (ext_below b2))
      | (go_simp; go_at_call 8; refine (HTDc.out _ ?_).mono ?_; (repeat (first | exact World.grownBy.refl _ _ | assumption | refine World.grownBy.trans ?_ (World.grownBy_alloc _ _ _) | refine World.grownBy.trans ?_ (ext_drewN _ _))); rintro e z1 ⟨g1, rfl, o1, X1, XV1⟩; obtain ⟨y0, y1, y2⟩ := bx3 (ext_blk X1.out HXc.out)))
    all_goals
      go_wp2_with fail
      go_meet
      exact ⟨_, rfl, rfl, X2⟩
  obtain ⟨W8, hwy, rfl, HX8⟩ := hcut
  have hwy' := hwy.symm
  clear hwy
  subst hwy'
  have HL8 := hideD (HL7.out.grow (ext_bel HX8.out))
  have HS8 := hideD (HS7.out.ext HX8.out)
  have HV8 := hideD (HV7.out.ext HX8.out)
  clear e0 e1 e2 x0 x1 x2 HADc HASc HXc HYc HTDc XRR HX8 HL7 HS7 HV7
  have HASc := hideD HL8.out.aS
  have HYc := hideD HL8.out.y
  have HTSc := hideD (fun V e => HTSg.out W8 V (ext_below HL8.out.low) e)
  have XRR : Ext W8 W8 := World.grownBy.refl _ _
  obtain ⟨f0, f1, f2, f3, f4, f5⟩ := cells6S HASc.out
  obtain ⟨y0, y1, y2, y3, y4, y5⟩ := cells6S (show W8.heap[z5.heap.size]? = some (.cells #[_, _, _, _, _, _] _ _) from HYc.out)
  go_upto_region 16 with fail
  go_cut [63] from 59 to 63 (fun c wx => ∃ wq, wx = wq ∧ c = .bool false ∧ Hid (Ext W8 wq))
  case first =>
    go_region_law (first
      | (go_simp; go_at_call 12; refine (eqSt _ _ S _ (HV8.out.ext X1.out) v1.out HL.out).mono ?_; rintro e z2 ⟨rfl, b2⟩; have X2 : Hid (Ext W8 z2) := X1.out.trans (ext_below b2))
      | (go_simp; go_at_call 9; refine (HTSc.out _ ?_).mono ?_; (repeat (first | exact World.grownBy.refl _ _ | assumption | refine World.grownBy.trans ?_ (World.grownBy_alloc _ _ _) | refine World.grownBy.trans ?_ (ext_drewN _ _))); rintro e z1 ⟨gr1, gt1, gs1, gl1, rfl, v1, h1, X1, XV1⟩; obtain ⟨q0, q1, q2, q3, q4, q5⟩ := cells6S (show z1.heap[z5.heap.size]? = some (.cells #[_, _, _, _, _, _] _ _) from ext_blk X1.out HYc.out)))
    all_goals
      go_wp2_with fail
      go_meet
      exact ⟨_, rfl, rfl, X2⟩
  obtain ⟨W9, hwy, rfl, HX9⟩ := hcut
  have hwy' := hwy.symm
  clear hwy
  subst hwy'
  have HL9 := hideD (HL8.out.grow (ext_bel HX9.out))
  have HS9 := hideD (HS8.out.ext HX9.out)
  clear f0 f1 f2 f3 f4 f5 y0 y1 y2 y3 y4 y5 HASc HYc HTSc XRR HX9 HL8 HS8 HV8
  -- marks in its arguments
  obtain ⟨x0, x1, x2⟩ := bx3 HL9.out.x
  go_wp2_with fail
  refine (markDu wy.heap.size D.ttl D.wh.now _ D.wh.tms 1 _ HL9.out.xO HLE.out (by omega) (by omega)).mono ?_
  rintro e W10 ⟨rfl, o10, t10⟩
  rw [← HN.out] at o10 ⊢
  have HLA := hideD (HL9.out.turnX t10 o10)
  have HSA := hideD (HS9.out.frame (w' := W10) (fun k h1 h2 h3 => t10.block k h3 (fun e => by
    have e9 : g4 = k := (by simpa [Value.ownBlock] using e.symm)
    have := HL9.out.xl g4 rfl
    omega)))
  clear x0 x1 x2 o10 t10 HL9 HS9
  obtain ⟨y0, y1, y2, y3, y4, y5⟩ := cells6S (show W10.heap[z5.heap.size]? = some (.cells #[_, _, _, _, _, _] _ _) from HLA.out.y)
  have hk0 : (0 : Int) ≤ 1 + 2 * (n : Int) := by omega
  have hk1 : 1 + 2 * (n : Int) ≤ 1073741824 := by omega
  have HHI : Hid (z5.heap.size ≤ W10.heap.size) := Nat.le_of_lt (Array.getElem?_eq_some_iff.1 HLA.out.y).1
  go_wp2_with fail
  refine (markStM W4.heap.size z5.heap.size gr gt gs gl _ _ _ _ _ _ _ W10 HSA.out HHI.out hk0 hk1).mono ?_
  rintro e W11 ⟨k11, hk2, hk3, rfl, t11⟩
  have HLB := hideD (HLA.out.turnS t11)
  clear y0 y1 y2 y3 y4 y5 t11 HLA HSA HHI hk0 hk1 hk3
  have hkn : ¬ (k11 < 0) := by omega
  have hkd : decide (k11 < 0) = false := decide_eq_false hkn
  obtain ⟨s0, s1, s2⟩ := bx3 HLB.out.s
  obtain ⟨g0, g1, g2⟩ := bx3 HLB.out.g
  go_wp2_with fail
  refine (eqD _ _ R _ ⟨_, rfl, OwT.v HLB.out.gO⟩ HLB.out.sW (by rw [← HMR.out]; exact HML.out)).mono ?_
  rintro e W12 ⟨rfl, b12⟩
  have HLC := hideD (HLB.out.grow b12)
  clear s0 s1 s2 g0 g1 g2 b12 HLB
  obtain ⟨g0, g1, g2⟩ := bx3 HLC.out.g
  -- marks in its answer
  go_wp2_with fail
  refine (markDu W5.heap.size R.ttl R.wh.now _ R.wh.tms 1 _ HLC.out.gO (by rw [← HMR.out]; exact HML.out) (by omega) (by omega)).mono ?_
  rintro e W13 ⟨rfl, o13, t13⟩
  rw [← HMR.out] at o13 ⊢
  have HLD := hideD (HLC.out.turnG t13 o13)
  clear g0 g1 g2 o13 t13 HLC
  obtain ⟨g0, g1, g2⟩ := bx3 HLD.out.g
  go_wp2_with fail
  refine (heldDu W5.heap.size R.ttl R.wh.now _ m 1 _ HLD.out.gO HML.out (by omega) (by omega)).mono ?_
  rintro e W14 ⟨rfl, b14⟩
  have HLE14 := hideD (HLD.out.grow b14)
  clear g0 g1 g2 b14 HLD
  have hm0 : ¬ ((1 : Int) + 2 * (m : Int) < 0) := by omega
  -- another call
  have HAD := hideD HLE14.out.aD
  have HAS := hideD HLE14.out.aS
  have HTD := hideD (fun V e => HTDg.out W14 V (ext_below HLE14.out.low) e)
  have HTS := hideD (fun V e => HTSg.out W14 V (ext_below HLE14.out.low) e)
  have HI := hideD (HIg.out W14)
  have XRR : Ext W14 W14 := World.grownBy.refl _ _
  have d0w := (bx3 (ext_blk XRR HAD.out)).1
  have da0w := (fun o => (bx3 (ext_blk (XRR.trans (World.grownBy_alloc W14 o none)) HAD.out)).1)
  have d1w := (bx3 (ext_blk XRR HAD.out)).2.1
  have da1w := (fun o => (bx3 (ext_blk (XRR.trans (World.grownBy_alloc W14 o none)) HAD.out)).2.1)
  have d2w := (bx3 (ext_blk XRR HAD.out)).2.2
  have da2w := (fun o => (bx3 (ext_blk (XRR.trans (World.grownBy_alloc W14 o none)) HAD.out)).2.2)
  have s0w := (cells6S (ext_blk XRR HAS.out)).1
  have sa0w := (fun o => (cells6S (ext_blk (XRR.trans (World.grownBy_alloc W14 o none)) HAS.out)).1)
  have s1w := (cells6S (ext_blk XRR HAS.out)).2.1
  have sa1w := (fun o => (cells6S (ext_blk (XRR.trans (World.grownBy_alloc W14 o none)) HAS.out)).2.1)
  have s2w := (cells6S (ext_blk XRR HAS.out)).2.2.1
  have sa2w := (fun o => (cells6S (ext_blk (XRR.trans (World.grownBy_alloc W14 o none)) HAS.out)).2.2.1)
  have s3w := (cells6S (ext_blk XRR HAS.out)).2.2.2.1
  have sa3w := (fun o => (cells6S (ext_blk (XRR.trans (World.grownBy_alloc W14 o none)) HAS.out)).2.2.2.1)
  have s4w := (cells6S (ext_blk XRR HAS.out)).2.2.2.2.1
  have sa4w := (fun o => (cells6S (ext_blk (XRR.trans (World.grownBy_alloc W14 o none)) HAS.out)).2.2.2.2.1)
  have s5w := (cells6S (ext_blk XRR HAS.out)).2.2.2.2.2
  have sa5w := (fun o => (cells6S (ext_blk (XRR.trans (World.grownBy_alloc W14 o none)) HAS.out)).2.2.2.2.2)
  go_upto_region 31 with fail
  go_cut [15, 16] from 94 to 101 (fun s t0 wx => ∃ wy, ∃ bs sa sc, wx = wy ∧ s = .pointer (some ⟨bs, 0, none⟩) ∧ t0 = .bool rb ∧ Hid (BoxD W14 R m bs sa sc wy))
  case first =>
    go_region_law (first
      | (go_simp; go_at_call 10; refine (HI.out _ _ _ ?_ ?_ ?_).mono ?_; (repeat (first | exact World.grownBy.refl _ _ | assumption | refine World.grownBy.trans ?_ (World.grownBy_alloc _ _ _) | refine World.grownBy.trans ?_ (ext_drewN _ _))); exact ⟨_, rfl, o1.out.v.ext (X12.out.trans (by (repeat (first | exact World.grownBy.refl _ _ | assumption | refine World.grownBy.trans ?_ (World.grownBy_alloc _ _ _) | refine World.grownBy.trans ?_ (ext_drewN _ _)))))⟩; exact v2.out.ext (by (repeat (first | exact World.grownBy.refl _ _ | assumption | refine World.grownBy.trans ?_ (World.grownBy_alloc _ _ _) | refine World.grownBy.trans ?_ (ext_drewN _ _)))); rintro e z3 ⟨sa, sc, rfl, o3, X3, XV3⟩; (try (have Q3 := ext_blk XV3.out Q2)); (try (have Q3 := ext_blk XV3.out (heap_alloc_new z2 (.cells #[.int .i64 0, .int .i64 0, .slice none 0 0] 39 (0, 0))))); (try (obtain ⟨q0, p0⟩ := at_block Q3 0 _ rfl; obtain ⟨q1, p1⟩ := at_block Q3 1 _ rfl; obtain ⟨q2, p2⟩ := at_block Q3 2 _ rfl)))
      | (go_simp; go_at_call 9; refine (HTS.out _ ?_).mono ?_; (repeat (first | exact World.grownBy.refl _ _ | assumption | refine World.grownBy.trans ?_ (World.grownBy_alloc _ _ _) | refine World.grownBy.trans ?_ (ext_drewN _ _))); rintro e z2 ⟨gr2, gt2, gs2, gl2, rfl, v2, h2, X2, XV2⟩; have X12 : Hid (Ext z1 z2) := (by refine World.grownBy.trans ?_ XV2.out; (repeat (first | exact World.grownBy.refl _ _ | assumption | refine World.grownBy.trans ?_ (World.grownBy_alloc _ _ _) | refine World.grownBy.trans ?_ (ext_drewN _ _)))); (try (have Q2 := ext_blk XV2.out Q1)); (try (have Q2 := ext_blk XV2.out (heap_alloc_new z1 (.cells #[.int .i64 0, .int .i64 0, .slice none 0 0] 39 (0, 0))))); have d0 := (bx3 (ext_blk X2.out HAD.out)).1; have da0 := (fun o => (bx3 (ext_blk (X2.out.trans (World.grownBy_alloc z2 o none)) HAD.out)).1); have d1 := (bx3 (ext_blk X2.out HAD.out)).2.1; have da1 := (fun o => (bx3 (ext_blk (X2.out.trans (World.grownBy_alloc z2 o none)) HAD.out)).2.1); have d2 := (bx3 (ext_blk X2.out HAD.out)).2.2; have da2 := (fun o => (bx3 (ext_blk (X2.out.trans (World.grownBy_alloc z2 o none)) HAD.out)).2.2); have s0 := (cells6S (ext_blk X2.out HAS.out)).1; have sa0 := (fun o => (cells6S (ext_blk (X2.out.trans (World.grownBy_alloc z2 o none)) HAS.out)).1); have s1 := (cells6S (ext_blk X2.out HAS.out)).2.1; have sa1 := (fun o => (cells6S (ext_blk (X2.out.trans (World.grownBy_alloc z2 o none)) HAS.out)).2.1); have s2 := (cells6S (ext_blk X2.out HAS.out)).2.2.1; have sa2 := (fun o => (cells6S (ext_blk (X2.out.trans (World.grownBy_alloc z2 o none)) HAS.out)).2.2.1); have s3 := (cells6S (ext_blk X2.out HAS.out)).2.2.2.1; have sa3 := (fun o => (cells6S (ext_blk (X2.out.trans (World.grownBy_alloc z2 o none)) HAS.out)).2.2.2.1); have s4 := (cells6S (ext_blk X2.out HAS.out)).2.2.2.2.1; have sa4 := (fun o => (cells6S (ext_blk (X2.out.trans (World.grownBy_alloc z2 o none)) HAS.out)).2.2.2.2.1); have s5 := (cells6S (ext_blk X2.out HAS.out)).2.2.2.2.2; have sa5 := (fun o => (cells6S (ext_blk (X2.out.trans (World.grownBy_alloc z2 o none)) HAS.out)).2.2.2.2.2))
      | (go_simp; go_at_call 8; refine (HTD.out _ ?_).mono ?_; (repeat (first | exact World.grownBy.refl _ _ | assumption | refine World.grownBy.trans ?_ (World.grownBy_alloc _ _ _) | refine World.grownBy.trans ?_ (ext_drewN _ _))); rintro e z1 ⟨g1, rfl, o1, X1, XV1⟩; (try (have Q1 := ext_blk XV1.out (heap_alloc_new W14 (.cells #[.int .i64 0, .int .i64 0, .slice none 0 0] 39 (0, 0))))); have d0 := (bx3 (ext_blk X1.out HAD.out)).1; have da0 := (fun o => (bx3 (ext_blk (X1.out.trans (World.grownBy_alloc z1 o none)) HAD.out)).1); have d1 := (bx3 (ext_blk X1.out HAD.out)).2.1; have da1 := (fun o => (bx3 (ext_blk (X1.out.trans (World.grownBy_alloc z1 o none)) HAD.out)).2.1); have d2 := (bx3 (ext_blk X1.out HAD.out)).2.2; have da2 := (fun o => (bx3 (ext_blk (X1.out.trans (World.grownBy_alloc z1 o none)) HAD.out)).2.2); have s0 := (cells6S (ext_blk X1.out HAS.out)).1; have sa0 := (fun o => (cells6S (ext_blk (X1.out.trans (World.grownBy_alloc z1 o none)) HAS.out)).1); have s1 := (cells6S (ext_blk X1.out HAS.out)).2.1; have sa1 := (fun o => (cells6S (ext_blk (X1.out.trans (World.grownBy_alloc z1 o none)) HAS.out)).2.1); have s2 := (cells6S (ext_blk X1.out HAS.out)).2.2.1; have sa2 := (fun o => (cells6S (ext_blk (X1.out.trans (World.grownBy_alloc z1 o none)) HAS.out)).2.2.1); have s3 := (cells6S (ext_blk X1.out HAS.out)).2.2.2.1; have sa3 := (fun o => (cells6S (ext_blk (X1.out.trans (World.grownBy_alloc z1 o none)) HAS.out)).2.2.2.1); have s4 := (cells6S (ext_blk X1.out HAS.out)).2.2.2.2.1; have sa4 := (fun o => (cells6S (ext_blk (X1.out.trans (World.grownBy_alloc z1 o none)) HAS.out)).2.2.2.2.1); have s5 := (cells6S (ext_blk X1.out HAS.out)).2.2.2.2.2; have sa5 := (fun o => (cells6S (ext_blk (X1.out.trans (World.grownBy_alloc z1 o none)) HAS.out)).2.2.2.2.2)))
    all_goals
      have HZ2 := X2.out.size
      have HZ1 := X1.out.size
      go_wp2_with fail
      go_meet
      refine ⟨_, _, sa, sc, rfl, rfl, rfl, ?_⟩
      first
        | (with_reducible refine hideD (boxd_set X3.out o3.out ?_ Q3 ?_); (first | omega | (simp; omega)); (first | omega | (simp; omega)))
        | (with_reducible refine hideD (boxd_new X3.out o3.out ?_); (first | omega | (simp; omega)))
  obtain ⟨W15, bh, ha, hc, hwy, rfl, rfl, HBX⟩ := hcut
  have hwy' := hwy.symm
  clear hwy
  subst hwy'
  have HLF := hideD (HLE14.out.grow (ext_bel HBX.out.2.1))
  have HTO := hideD (OwT.v HBX.out.2.2.1)
  obtain ⟨t0, t1, t2⟩ := bx3 HBX.out.1
  obtain ⟨s0, s1, s2⟩ := bx3 HLF.out.s
  clear d0w da0w d1w da1w d2w da2w s0w sa0w s1w sa1w s2w sa2w s3w sa3w s4w sa4w s5w sa5w XRR HAD HAS HTD HTS HI HLE14 HBX
  go_wp2_with fail
  refine (eqD _ _ R _ ⟨_, rfl, HTO.out⟩ HLF.out.sW (by rw [← HMR.out]; exact HML.out)).mono ?_
  rintro e W16 ⟨rfl, b16⟩
  have HLG := hideD (HLF.out.grow b16)
  clear t0 t1 t2 s0 s1 s2 b16 HTO HLF
  obtain ⟨g0, g1, g2⟩ := bx3 HLG.out.g
  go_wp2_with fail
  refine (heldDu W5.heap.size R.ttl R.wh.now _ m 1 _ HLG.out.gO HML.out (by omega) (by omega)).mono ?_
  rintro e W17 ⟨rfl, b17⟩
  go_wp2_with fail
  go_ret
  exact ⟨rfl, (HLG.out.grow b17).low⟩

end Go.Proofs.YtnklnhnjmikooaaGreat

namespace Go.Proofs.YtnklnhnjmikooaaGreat
open Go.ChangeShapes Go.WideShapes Go.ChangeAt Go.RowKit Go.Joins

section
variable {H : Type} {enc : TypeId × Value → H} {W : World} {fuel : Nat} {v : Value} {y : DataW H × List MemPlace}

set_option maxRecDepth 100000 in
theorem tims_of_trod (h : DataW.trod enc Tryz.prog W 0 (fun _ => true) true fuel 22 [v] = some y) : ∃ rs, VTims W v rs := by
  obtain ⟨n, C, hS, m, D, hD⟩ := sl_of_trod (k := 2) Tryz.underlying22 (by kernel_rfl) (by omega) h
  obtain ⟨rs, hl, hr⟩ := list_of (p := fun i (r : DTim) => C i 0 = .int .i64 r.id ∧ C i 1 = .int .i64 r.due) n (fun i hi => by
    have hf := hD i hi
    obtain ⟨xs, n', _, _, _, hxl, hx⟩ := DataW.trod_struct Tryz.underlying149 hf
    match xs, hxl with
    | [y0, y1], _ =>
      have h0 : DataW.trod enc Tryz.prog W 0 (fun _ => true) true n' 3 [C i 0] = some y0 := hx 0 _ rfl
      have h1 : DataW.trod enc Tryz.prog W 0 (fun _ => true) true n' 3 [C i 1] = some y1 := hx 1 _ rfl
      obtain ⟨q, e1, _, _⟩ := int_of_trod h0
      obtain ⟨b, e2, _, _⟩ := int_of_trod h1
      exact ⟨⟨q, b⟩, e1, e2⟩)
  exact ⟨rs, C, by rw [hl]; exact hS, hr⟩
end

theorem array2 {cs : Array Value} (h : cs.size = 2) : ∃ a b, cs = #[a, b] := by
  obtain ⟨l⟩ := cs
  match l, h with
  | [a, b], _ => exact ⟨a, b, rfl⟩

set_option maxRecDepth 100000 in
theorem open_Wheel {H : Type} {enc : TypeId × Value → H} {W : World} {r : Reach} {b0 : Nat} {v : Value} {d : DataW H} {p : List MemPlace}
    (hv : Value.okWide Tryz.prog W r b0 24 v) (h : DataW.Trod enc Tryz.prog W 0 (fun _ => true) true 24 v d p) : ∃ D, VWheel W v D := by
  obtain ⟨cs, rfl, hsz⟩ := okWide_struct Tryz.underlying24 hv
  have h6 : Tryz.prog.cellsOf 24 = 2 := by kernel_rfl
  obtain ⟨c0, c1, rfl⟩ := array2 (hsz.trans h6)
  obtain ⟨fuel, hf⟩ := h
  obtain ⟨xs, n, _, _, _, hxl, hx⟩ := DataW.trod_struct Tryz.underlying24 hf
  match xs, hxl with
  | [y0, y1], _ =>
    have h0 : DataW.trod enc Tryz.prog W 0 (fun _ => true) true n 3 [c0] = some y0 := hx 0 _ rfl
    have h1 : DataW.trod enc Tryz.prog W 0 (fun _ => true) true n 22 [c1] = some y1 := hx 1 _ rfl
    obtain ⟨q0, rfl, a1, a2⟩ := int_of_trod h0
    obtain ⟨ts, v1⟩ := tims_of_trod h1
    exact ⟨⟨q0, ts⟩, c1, rfl, v1⟩

end Go.Proofs.YtnklnhnjmikooaaGreat

namespace Go.Proofs.YtnklnhnjmikooaaGreat
open Go.ChangeShapes Go.WideShapes Go.ChangeAt Go.RowKit Go.Joins

theorem array3 {cs : Array Value} (h : cs.size = 3) : ∃ a b c, cs = #[a, b, c] := by
  obtain ⟨l⟩ := cs
  match l, h with
  | [a, b, c], _ => exact ⟨a, b, c, rfl⟩

set_option maxRecDepth 100000 in
theorem open_Duty {H : Type} {enc : TypeId × Value → H} {W : World} {r : Reach} {b0 : Nat} {v : Value} {d : DataW H} {p : List MemPlace}
    (hv : Value.okWide Tryz.prog W r b0 26 v) (h : DataW.Trod enc Tryz.prog W 0 (fun _ => true) true 26 v d p) : ∃ D, VDuty W v D := by
  obtain ⟨cs, rfl, hsz⟩ := okWide_struct Tryz.underlying26 hv
  have h6 : Tryz.prog.cellsOf 26 = 3 := by kernel_rfl
  obtain ⟨c0, c1, c2, rfl⟩ := array3 (hsz.trans h6)
  obtain ⟨fuel, hf⟩ := h
  obtain ⟨xs, n, _, _, _, hxl, hx⟩ := DataW.trod_struct Tryz.underlying26 hf
  match xs, hxl with
  | [y0, y1], _ =>
    have h0 : DataW.trod enc Tryz.prog W 0 (fun _ => true) true n 3 [c0] = some y0 := hx 0 _ rfl
    have h1 : DataW.trod enc Tryz.prog W 0 (fun _ => true) true n 24 [c1, c2] = some y1 := hx 1 _ rfl
    obtain ⟨zs, m, _, _, _, hzl, hz⟩ := DataW.trod_struct Tryz.underlying24 h1
    match zs, hzl with
    | [z0, z1], _ =>
      have g0 : DataW.trod enc Tryz.prog W 0 (fun _ => true) true m 3 [c1] = some z0 := hz 0 _ rfl
      have g1 : DataW.trod enc Tryz.prog W 0 (fun _ => true) true m 22 [c2] = some z1 := hz 1 _ rfl
      obtain ⟨t, rfl, _, _⟩ := int_of_trod h0
      obtain ⟨q0, rfl, _, _⟩ := int_of_trod g0
      obtain ⟨ts, v1⟩ := tims_of_trod g1
      exact ⟨⟨t, ⟨q0, ts⟩⟩, c2, rfl, v1⟩

end Go.Proofs.YtnklnhnjmikooaaGreat

namespace Go.Proofs.YtnklnhnjmikooaaGreat
open Go.ChangeShapes Go.WideShapes Go.ChangeAt Go.RowKit

theorem own : ownKnob Tryz.prog.godebug = none := by kernel_rfl
theorem laidOut : laidOutB Tryz.prog = true := by kernel_rfl

set_option maxRecDepth 100000 in
theorem lifted (os : Os) (started : os.Started) (H : Type) (enc : TypeId × Value → H) :
    ReturnsInHanded {} Tryz.checked os 3 .any (Rows.fnExactDutySyncSpec.pre6 enc Tryz.prog Tryz.f3 Rows.fnExactDutySyncRow.domain false) (Rows.fnExactDutySyncSpec.post enc Tryz.prog Tryz.f3 false true false false) := by
  refine returnsInHanded_of_change (C := Tryz.checked) own started (by kernel_rfl) Tryz.func3
    (ChangeSpec.witness6 (enc := enc) (C := Tryz.checked) false ⟨#[], #[.agg #[.int .i64 0, .int .i64 0, .slice none 0 0], .agg #[.int .i64 0, .slice none 0 0, .slice none 0 0, .int .i64 0, .slice none 0 0, .slice none 0 0]], []⟩ 8 (by kernel_rfl) (by kernel_rfl) (by kernel_rfl) (by kernel_rfl)) ?_
  intro W base args ds gs before hval0 hW hcnd _
  have hval : ∀ (j : Nat) t v, Tryz.f3.params[j]? = some t → args[j]? = some v → Value.okWide Tryz.prog W .any base t v := hval0
  have hW' := hW
  obtain ⟨p, q, hA0, hV, rfl, hfz, hnd⟩ := hW
  have hA : DataW.TrodAll enc Tryz.prog W 0 (fun _ => true) true Tryz.f3.params.toList args.toList ds p := hA0
  rw [Tryz.params3] at hA hval
  obtain ⟨v0, vs0, d0, ds0, p0, q0, hargs, rfl, rfl, h0, r0⟩ := trodAll_cons hA
  obtain ⟨v1, vs1, d1, ds1, p1, q1, rfl, rfl, rfl, h1, r1⟩ := trodAll_cons r0
  obtain ⟨rfl, rfl, rfl⟩ := trodAll_nil r1
  obtain rfl : args = #[v0, v1] := by cases args; simp_all
  obtain ⟨rfl, rfl⟩ := trodVars_none hV
  have k0 := h0
  have lt0 : ∀ x ∈ p0, x.block < W.heap.size := by obtain ⟨m, hm⟩ := k0; exact DataW.trod_lt m _ _ _ hm
  obtain ⟨D0, w0⟩ := open_Duty (hval 0 26 v0 rfl rfl) h0
  have k1 := h1
  have lt1 : ∀ x ∈ p1, x.block < W.heap.size := by obtain ⟨m, hm⟩ := k1; exact DataW.trod_lt m _ _ _ hm
  obtain ⟨D1, w1⟩ := open_State (hval 1 32 v1 rfl rfl) h1
  clear hA0 hval0
  refine (law_DutySync v0 D0 v1 D1 W w0 w1.1 w1.2.1 w1.2.2).mono fun e W' ⟨he, bel⟩ => ?_
  subst he
  exact ⟨_, rfl, _, _, _, [], _, [], hW', trodAll_mk1 (shut_bool Tryz.underlying4 _), (trodAll_cons_mk (Below.trod laidOut (by kernel_rfl) (of_decide_eq_true (by kernel_rfl)) k0 bel lt0) (trodAll_cons_mk (Below.trod laidOut (by kernel_rfl) (of_decide_eq_true (by kernel_rfl)) k1 bel lt1) trodAll_mk0)), rfl, bel.frame _, fun h => by cases h⟩

theorem over : Rows.fnExactDutySyncRow.holds Tryz.pinned (OpenSpec.ofChange Rows.fnExactDutySyncSpec) :=
  OpenClaim.holds_of_wide 3 Tryz.f3 rfl rfl rfl rfl rfl rfl rfl ⟨rfl, rfl, rfl, rfl, rfl⟩ rfl rfl rfl rfl rfl (by kernel_rfl) Tryz.func3 (by kernel_rfl)
    (of_decide_eq_true (by kernel_rfl)) (by unfold Func.isWrapper; first | (rw [if_pos (by decide +kernel)]; kernel_rfl) | (rw [if_neg (by decide +kernel)]; exact ⟨rfl, rfl⟩))
    (fun os started H enc _ => lifted os started H enc)

theorem proved : Rows.FnExactDutySyncSaid := over
#print axioms proved
end Go.Proofs.YtnklnhnjmikooaaGreat

