
/- At every duty, state and number the program's DutyTick answers as the specification's, in memory of its own, its arguments as they were, without a condition. -/
import Derived.Test.YtnklnhnjmikooaaGreatDy5
import Derived.Test.YtnklnhnjmikooaaGreatInf
import Derived.Test.YtnklnhnjmikooaaGreatVal0
import Derived.Test.YtnklnhnjmikooaaGreatOp0
import Derived.Test.YtnklnhnjmikooaaGreatSz1
import Derived.Test.YtnklnhnjmikooaaGreatTo0
import Derived.Deep.RegionHeld3
import Derived.Test.YtnklnhnjmikooaaGreatSum0
import Derived.Test.YtnklnhnjmikooaaGreatSy3
import Derived.Test.YtnklnhnjmikooaaGreatTy0
import Derived.Test.YtnklnhnjmikooaaGreatMark
import Derived.Test.YtnklnhnjmikooaaGreatDyT
import Derived.Test.YtnklnhnjmikooaaGreatSSb
import Derived.Deep.LoopGhost
import Derived.Test.YtnklnhnjmikooaaGreatTy1
import Derived.Test.YtnklnhnjmikooaaGreatHqO
import Derived.ProofKit
import Derived.OpenShut
import Derived.Lib.SmallJoins
import Derived.Test.YtnklnhnjmikooaaGreatSt0
import Derived.Deep.Slices
import Derived.Deep.CutRange
import Derived.Test.YtnklnhnjmikooaaGreatWh0
import Derived.Test.YtnklnhnjmikooaaGreatDy0
import Derived.Test.YtnklnhnjmikooaaGreatRows
import Derived.ChangeOld
import Derived.Carry
namespace Go.Proofs.YtnklnhnjmikooaaGreat
open Go.RowKit

/-- What is carried through the walk of a law on duties: the argument's box, the specification's answer (of the world Ws), the program's argument and its answer. -/
structure LDu (w Ws W : World) (D R : DDuty) (av sv xv gv : Value) (s x g base : Nat) (G : List DTim) : Prop where
  low : Below w.heap.size w W
  sB : Below Ws.heap.size Ws W
  sV : VTims Ws sv R.wh.tms
  a : W.heap[w.heap.size]? = some (.cells #[.int .i64 D.ttl, .int .i64 D.wh.now, av] 26 (0, 0))
  s : W.heap[s]? = some (.cells #[.int .i64 R.ttl, .int .i64 R.wh.now, sv] 39 (0, 0))
  x : W.heap[x]? = some (.cells #[.int .i64 D.ttl, .int .i64 D.wh.now, xv] 39 (0, 0))
  g : W.heap[g]? = some (.cells #[.int .i64 R.ttl, .int .i64 R.wh.now, gv] 39 (0, 0))
  gO : OwT W base gv G
  bs : Ws.heap.size ≤ base
  ws : w.heap.size ≤ Ws.heap.size
variable {w Ws W W' : World} {D R : DDuty} {av sv xv gv : Value} {s x g base : Nat} {G G' : List DTim}
theorem LDu.grow (h : LDu w Ws W D R av sv xv gv s x g base G) (b : Below W.heap.size W W') : LDu w Ws W' D R av sv xv gv s x g base G :=
  ⟨h.low.trans (b.mono h.low.size), h.sB.trans (b.mono h.sB.size), h.sV, below_blk b (Array.getElem?_eq_some_iff.1 h.a).1 h.a, below_blk b (Array.getElem?_eq_some_iff.1 h.s).1 h.s, below_blk b (Array.getElem?_eq_some_iff.1 h.x).1 h.x, below_blk b (Array.getElem?_eq_some_iff.1 h.g).1 h.g, h.gO.kept (ext_below b) (by cases hv : gv.ownBlock <;> simp), h.bs, h.ws⟩
/-- A row of timers, not older than the specification's answer, has turned: the program's answer, or another. -/
theorem LDu.turn {row : Value} {rb : Nat} {T : List DTim} (h : LDu w Ws W D R av sv xv gv s x g base G) (o : OwT W rb row T) (hb : Ws.heap.size ≤ rb) (hg : W.grownBy W' row.ownBlock) (hG : OwT W' base gv G') : LDu w Ws W' D R av sv xv gv s x g base G' := by
  have kp : ∀ (b : Nat) (cs : Array Value) (t : TypeId), W.heap[b]? = some (.cells cs t (0, 0)) → t ≠ 114 → W'.heap[b]? = some (.cells cs t (0, 0)) := fun b cs t hbb ht => (hg.block b (Array.getElem?_eq_some_iff.1 hbb).1 (ne_row o hbb ht)).trans hbb
  have hr : ∀ k, row.ownBlock = some k → rb ≤ k := fun k hk => (World.ownsRow.lt o k hk).1
  exact ⟨h.low.grown hg h.low.size (fun k hk => Nat.le_trans (Nat.le_trans h.ws hb) (hr k hk)), h.sB.grown hg h.sB.size (fun k hk => Nat.le_trans hb (hr k hk)), h.sV, kp _ _ _ h.a (by decide), kp _ _ _ h.s (by decide), kp _ _ _ h.x (by decide), kp _ _ _ h.g (by decide), hG, h.bs, h.ws⟩
theorem LDu.sW (h : LDu w Ws W D R av sv xv gv s x g base G) : VDuty W (.agg #[.int .i64 R.ttl, .int .i64 R.wh.now, sv]) R := ⟨sv, rfl, h.sV.ext (ext_below h.sB)⟩

theorem OwT.nil0 (w : World) (b : Nat) : OwT w b (.slice none 0 0) [] := World.ownsRow_nil _ _ _ _
theorem keptDu {w w' : World} {g g' : Nat} {a0 a1 a2 b0 b1 b2 : Value} (h : (w.cell? ⟨g, 0, none⟩ = some a0 ∧ w.cell? ⟨g, 1, none⟩ = some a1 ∧ w.cell? ⟨g, 2, none⟩ = some a2) ∧ (w.cell? ⟨g', 0, none⟩ = some b0 ∧ w.cell? ⟨g', 1, none⟩ = some b1 ∧ w.cell? ⟨g', 2, none⟩ = some b2)) (hb : Below w.heap.size w w') :
    (w'.cell? ⟨g, 0, none⟩ = some a0 ∧ w'.cell? ⟨g, 1, none⟩ = some a1 ∧ w'.cell? ⟨g, 2, none⟩ = some a2) ∧ (w'.cell? ⟨g', 0, none⟩ = some b0 ∧ w'.cell? ⟨g', 1, none⟩ = some b1 ∧ w'.cell? ⟨g', 2, none⟩ = some b2) := by
  have hg : g < w.heap.size := World.block_lt_of_cell? w _ h.1.1
  have hg' : g' < w.heap.size := World.block_lt_of_cell? w _ h.2.1
  obtain ⟨⟨h0, h1, h2⟩, h3, h4, h5⟩ := h
  exact ⟨⟨(hb.cell (p := ⟨g, 0, none⟩) hg).trans h0, (hb.cell (p := ⟨g, 1, none⟩) hg).trans h1, (hb.cell (p := ⟨g, 2, none⟩) hg).trans h2⟩, (hb.cell (p := ⟨g', 0, none⟩) hg').trans h3, (hb.cell (p := ⟨g', 1, none⟩) hg').trans h4, (hb.cell (p := ⟨g', 2, none⟩) hg').trans h5⟩

end Go.Proofs.YtnklnhnjmikooaaGreat

namespace Go.Proofs.YtnklnhnjmikooaaGreat
open Go.RowKit

set_option maxHeartbeats 1000000 in
theorem toB (a : Option Addr) (n cap : Nat) (xs : List Int) (w : World) (hr : Rd w a n xs) (hn : n ≤ 1048576) :
    Calls Tryz.prog 99 #[.slice a n cap] w fun e w' => e = .returned (.slice (some ⟨w.heap.size, 0, none⟩) n n) ∧
      w'.ownsRow w.heap.size 5 1 (.slice (some ⟨w.heap.size, 0, none⟩) n n) n (B8 xs) ∧ Below w.heap.size w w' := by
  obtain ⟨i0, hi, hz0, hz1, hz2⟩ := info_parts info5
  have hml : n ≤ maxLen := by unfold maxLen; omega
  go_enter Tryz.func99, Tryz.ntmps99
  go_wp2_with (at_make; refine wpList_make_full _ rfl _ _ 93 rfl w.heap.size 5 i0 (.int .u8 0) 1 Tryz.underlying93 hi hz0 hz1 _ _ _ _ n rfl rfl rfl rfl ?b1 ?b2 ?b3 ?_)
  case b1 => rw [hz2]; omega
  case b2 => exact hml
  case b3 => exact Nat.le_refl _
  intro w1 hown hgr
  have hb1 : Below w.heap.size w w1 := (Below.refl _ _).grown hgr (Nat.le_refl _) (fun k hk => by cases hk)
  have hown1 : w1.ownsRow w.heap.size 5 1 (.slice (some ⟨w.heap.size, 0, none⟩) n n) n (B8 (xs.take 0) ++ List.replicate (n - 0) (Value.int .u8 0)) := by
    simpa [Value.cells, toList_madeCells_one] using hown
  clear hown hgr
  go_wp2
  go_loopw [4] (fun i wr => ∃ k : Nat, k ≤ n ∧ i = .int .i64 k ∧ wr.ownsRow w.heap.size 5 1 (.slice (some ⟨w.heap.size, 0, none⟩) n n) n (B8 (xs.take k) ++ List.replicate (n - k) (Value.int .u8 0)) ∧ Below w.heap.size w wr)
    (fun i _ => n - (intOf i).toNat)
  case atStart => exact ⟨0, Nat.zero_le _, rfl, hown1, hb1⟩
  case round =>
    obtain ⟨k, hk, rfl, hown, hb⟩ := hrel
    clear hown1 hb1
    by_cases hlt : k < n
    · obtain ⟨b, o, rfl, hbl, hc⟩ := hr.pos (by omega)
      have hck : wr.cell? ⟨b, o + k, none⟩ = some (.int .u8 (xs.getD k 0)) := (hb.cell (p := ⟨b, o + k, none⟩) hbl).trans (hc k hlt)
      have hf : wr.frozen? ⟨w.heap.size, k, none⟩ = false := hown.frozenAt k
      obtain ⟨u, hu⟩ : ∃ u, wr.cell? ⟨w.heap.size, k, none⟩ = some u := by
        rw [hown.cellAt k (by omega)]
        exact ⟨_, List.getElem?_eq_getElem (by simp [hr.len]; omega)⟩
      have R := hown.stored k (.int .u8 (xs.getD k 0))
      rw [own_take_set xs k n hr.len hlt] at R
      have hbR := hb.grown R.2 hb.size (fun k hk => by simp at hk; omega)
      have HR : Hid ((wr.setCell ⟨w.heap.size, k, none⟩ (.int .u8 (xs.getD k 0))).ownsRow w.heap.size 5 1 (.slice (some ⟨w.heap.size, 0, none⟩) n n) n (B8 (xs.take (k + 1)) ++ List.replicate (n - (k + 1)) (Value.int .u8 0))) := R.1
      have HB : Hid (Below w.heap.size w (wr.setCell ⟨w.heap.size, k, none⟩ (.int .u8 (xs.getD k 0)))) := hbR
      clear R hbR hc
      go_wp2
      go_roundw
      case rel => exact ⟨k + 1, by omega, by go_num, HR.out, HB.out⟩
      case measure => simp [intOf]; omega
    · have hkn : k = n := by omega
      subst hkn
      go_wp2
      go_ret
      refine ⟨rfl, ?_, hb⟩
      have e : B8 (xs.take k) ++ List.replicate (k - k) (Value.int .u8 0) = B8 xs := by
        rw [List.take_of_length_le (by have := hr.len; omega)]; simp
      rw [← e]; exact hown

end Go.Proofs.YtnklnhnjmikooaaGreat

namespace Go.Proofs.YtnklnhnjmikooaaGreat
open Go.RowKit

theorem ne_at {xs ys : List Int} {k : Nat} (h : xs.getD k 0 ≠ ys.getD k 0) : decide (xs = ys) = false := by
  rw [decide_eq_false_iff_not]
  rintro rfl
  exact h rfl

theorem eq_all {xs ys : List Int} (hl : xs.length = ys.length) (h : ∀ j, j < xs.length → xs.getD j 0 = ys.getD j 0) : xs = ys := by
  apply List.ext_getElem hl
  intro j h1 h2
  have := h j h1
  simpa [List.getD, h1, h2] using this

set_option maxHeartbeats 1000000 in
theorem eqB (a b : Option Addr) (n m c d : Nat) (xs ys : List Int) (w : World) (hr : Rd w a n xs) (hs : Rd w b m ys) (hn : n ≤ 2097152) :
    Calls Tryz.prog 96 #[.slice a n c, .slice b m d] w fun e w' => e = .returned (.bool (decide (xs = ys))) ∧ ∃ q, w' = w.drewN q := by
  by_cases hnm : n = m
  · subst hnm
    go_enter Tryz.func96, Tryz.ntmps96
    go_wp2
    go_loopw [5] (fun i wr => ∃ k q : Nat, k ≤ n ∧ i = .int .i64 k ∧ wr = w.drewN q ∧ Hid (∀ j, j < k → xs.getD j 0 = ys.getD j 0)) (fun i _ => n - (intOf i).toNat)
    case atStart => exact ⟨0, 0, Nat.zero_le _, rfl, rfl, fun j hj => absurd hj (by omega)⟩
    case round =>
      obtain ⟨k, q, hk, rfl, rfl, hall⟩ := hrel
      by_cases hlt : k < n
      · obtain ⟨b1, o1, rfl, hbl1, hc1⟩ := hr.pos (by omega)
        obtain ⟨b2, o2, rfl, hbl2, hc2⟩ := hs.pos (by omega)
        have hck1 := hc1 k hlt
        have hck2 := hc2 k hlt
        have hlt' : (k : Int) < (n : Int) := by omega
        have hall' : Hid (xs.getD k 0 = ys.getD k 0 → ∀ j, j < k + 1 → xs.getD j 0 = ys.getD j 0) := fun h j hj => by
          by_cases e : j = k
          · subst e; exact h
          · exact hall.out j (by omega)
        clear hc1 hc2
        by_cases he : xs.getD k 0 = ys.getD k 0
        · rw [he] at hck1
          have HE := hall'.out he
          have HE' : Hid (∀ j, j < k + 1 → xs.getD j 0 = ys.getD j 0) := HE
          clear HE hall' he hall
          go_wp2
          go_quiet (fail)
          go_wp2
          go_roundw
          case rel => exact ⟨k + 1, q + nq, by omega, by go_num, rfl, HE'⟩
          case measure => simp [intOf]; omega
        · have HN : Hid (decide (xs = ys) = false) := ne_at he
          obtain ⟨p, hp⟩ : ∃ p, p = xs.getD k 0 := ⟨_, rfl⟩
          obtain ⟨r, hr'⟩ : ∃ r, r = ys.getD k 0 := ⟨_, rfl⟩
          rw [← hp] at hck1 he
          rw [← hr'] at hck2 he
          have hpr : (p != r) = true := by simpa using he
          clear hp hr' hall' hall he
          go_wp2
          go_quiet (fail)
          go_wp2
          go_ret
          exact ⟨by rw [HN.out]; rfl, _, World.drewN_drewN _ _ _⟩
      · have hkn : k = n := by omega
        subst hkn
        go_wp2
        go_ret
        have e : xs = ys := eq_all (hr.len.trans hs.len.symm) (fun j hj => hall.out j (by have := hr.len; omega))
        exact ⟨by simp [e], _, rfl⟩
  · have hne : ((n : Int) == (m : Int)) = false := by simp; omega
    have e : decide (xs = ys) = false := by
      rw [decide_eq_false_iff_not]
      rintro rfl
      exact hnm (hr.len.symm.trans hs.len)
    have HE : Hid (decide (xs = ys) = false) := e
    clear e
    go_enter Tryz.func96, Tryz.ntmps96
    go_wp2
    go_ret
    exact ⟨by rw [HE.out]; rfl, 0, rfl⟩

end Go.Proofs.YtnklnhnjmikooaaGreat

namespace Go.Proofs.YtnklnhnjmikooaaGreat
open Go.RowKit

theorem eqV (v u : Value) (xs ys : List Int) (w : World) (h : RV w v xs) (k : RV w u ys) (hn : xs.length ≤ 2097152) :
    Calls Tryz.prog 96 #[v, u] w fun e w' => e = .returned (.bool (decide (xs = ys))) ∧ ∃ q, w' = w.drewN q := by
  obtain ⟨a, cap, rfl, hr, _, _⟩ := h
  obtain ⟨b, cap', rfl, hs, _, _⟩ := k
  exact eqB a b xs.length ys.length cap cap' xs ys w hr hs hn

/-- What is alike. -/
theorem eqV_yes (v u : Value) (xs : List Int) (w : World) (h : RV w v xs) (k : RV w u xs) (hn : xs.length ≤ 2097152) :
    Calls Tryz.prog 96 #[v, u] w fun e w' => e = .returned (.bool true) ∧ ∃ q, w' = w.drewN q := by
  have := eqV v u xs xs w h k hn
  simpa using this

end Go.Proofs.YtnklnhnjmikooaaGreat

namespace Go.Proofs.YtnklnhnjmikooaaGreat
open Go.RowKit

theorem toV (v : Value) (xs : List Int) (w : World) (h : RV w v xs) (hn : xs.length ≤ 1048576) :
    Calls Tryz.prog 99 #[v] w fun e w' => ∃ v', e = .returned v' ∧ Ow w' w.heap.size v' xs ∧ Below w.heap.size w w' := by
  obtain ⟨a, cap, rfl, hr, _, _⟩ := h
  exact (toB a xs.length cap xs w hr hn).mono fun e w' ⟨h1, h2, h3⟩ => ⟨_, h1, h2, h3⟩

end Go.Proofs.YtnklnhnjmikooaaGreat

namespace Go.Proofs.YtnklnhnjmikooaaGreat
open Go.RowKit

set_option maxHeartbeats 1000000 in
theorem szB (v : Value) (xs : List Int) (l : Int) (w : World) (h : RV w v xs) (hl0 : 0 ≤ l) (hl : l ≤ 1048576) :
    Calls Tryz.prog 97 #[v, .int .i64 l] w fun e w' => e = .returned (.int .i64 (if l - xs.length < 0 then -1 else l - xs.length)) ∧ w' = w := by
  obtain ⟨a, cap, rfl, hr, h1, h2⟩ := h
  unfold maxLen at h2
  by_cases hn : l - xs.length < 0
  · rw [if_pos hn]
    go_enter Tryz.func97, Tryz.ntmps97
    go_wp2
    go_ret
    exact ⟨rfl, rfl⟩
  · rw [if_neg hn]
    go_enter Tryz.func97, Tryz.ntmps97
    go_wp2
    go_ret
    exact ⟨rfl, rfl⟩

end Go.Proofs.YtnklnhnjmikooaaGreat

namespace Go.Proofs.YtnklnhnjmikooaaGreat
open Go.RowKit

set_option maxHeartbeats 1000000 in
theorem toEl_S (s : DSess) (w : World) :
    Calls Tryz.prog 75 #[.agg #[.int .i64 s.id, .bool s.del]] w fun e w' => e = .returned (.agg #[.int .i64 s.id, .bool s.del]) ∧ Below w.heap.size w w' := by
  go_enter Tryz.func75, Tryz.ntmps75
  go_wp2
  refine bodyPost_ret (v := .agg #[.int .i64 s.id, .bool s.del]) (by simp [results, Tryz.results75, go_sem]) rfl ?_
  exact ⟨rfl, (((Below.refl _ w).alloc (Nat.le_refl _) _).alloc (by simp) _).alloc (by simp; omega) _⟩

theorem info_S : (Tryz.prog.info? 121).map (fun i => (i.zero, i.size, i.bytes)) = some (some (.agg #[.int .i64 0, .bool false]), 2, 16) := by kernel_rfl

set_option maxHeartbeats 2000000 in
theorem toS_S (v : Value) (ss : List DSess) (w : World) (h : VSess w v ss) (hn : ss.length ≤ 1048576) :
    Calls Tryz.prog 33 #[v] w fun e w' => ∃ F, e = .returned (.slice (some ⟨w.heap.size, 0, none⟩) ss.length ss.length) ∧ Blk w' w.heap.size 121 2 ss.length ss.length F ∧ (∀ i s, ss[i]? = some s → F i 0 = .int .i64 s.id ∧ F i 1 = .bool s.del) ∧ Below w.heap.size w w' := by
  obtain ⟨C, ⟨a, cap, rfl, h1, h2, h3⟩, hC⟩ := h
  have HC : Hid (∀ i r, ss[i]? = some r → C i 0 = .int .i64 r.id ∧ C i 1 = .bool r.del) := hC
  clear hC
  obtain ⟨n, hnn⟩ : ∃ n, n = ss.length := ⟨_, rfl⟩
  rw [← hnn] at h1 h3 hn ⊢
  have HN : Hid (n = ss.length) := hnn
  clear hnn
  have H3 : Hid (0 < n → ∃ b o, a = some ⟨b, o, none⟩ ∧ b < w.heap.size ∧ ∀ i, i < n → ∀ j, j < 2 → w.cell? ⟨b, o + i * 2 + j, none⟩ = some (C i j)) := h3
  clear h3
  obtain ⟨i0, hi, hz0, hz1, hz2⟩ := info_parts info_S
  have hml : n ≤ maxLen := by unfold maxLen; omega
  have hml2 : (n : Int) ≤ 1048576 := by omega
  go_enter Tryz.func33, Tryz.ntmps33
  go_wp2_with (at_make; refine wpList_make_full _ rfl _ _ 45 rfl w.heap.size 121 i0 (.agg #[.int .i64 0, .bool false]) 2 Tryz.underlying45 hi hz0 hz1 _ _ _ _ n rfl rfl rfl rfl ?b1 ?b2 ?b3 ?_)
  case b1 => rw [hz2]; omega
  case b2 => exact hml
  case b3 => exact Nat.le_refl _
  intro w1 hown hgr
  have hb1 : Below w.heap.size w w1 := (Below.refl _ _).grown hgr (Nat.le_refl _) (fun k hk => by cases hk)
  have hbk := blk_made (F := fun _ _ => .bool true) hown
  clear hown hgr
  go_wp2
  go_loopw [4] (fun i wr => ∃ k : Nat, k ≤ n ∧ i = .int .i64 k ∧ Below w.heap.size w wr ∧ ∃ F, Blk wr w.heap.size 121 2 n k F ∧ Hid (∀ i s, i < k → ss[i]? = some s → F i 0 = .int .i64 s.id ∧ F i 1 = .bool s.del)) (fun i _ => n - (intOf i).toNat)
  case atStart => exact ⟨0, Nat.zero_le _, rfl, hb1, _, hbk, fun i s hi => absurd hi (by omega)⟩
  case round =>
    obtain ⟨k, hk, rfl, hb, F, hF, hall⟩ := hrel
    clear hbk hb1
    by_cases hlt : k < n
    · obtain ⟨b, o, rfl, hbl, hc⟩ := H3.out (by omega)
      obtain ⟨s, hs⟩ : ∃ s, ss[k]? = some s := ⟨_, List.getElem?_eq_getElem (by have := HN.out; omega)⟩
      obtain ⟨e0, e1⟩ := HC.out k s hs
      have c0 := World.grownBy.cell (ext_below hb) (hc k hlt 0 (by omega)) (by simp)
      have c1 := World.grownBy.cell (ext_below hb) (hc k hlt 1 (by omega)) (by simp)
      rw [e0, Nat.add_zero] at c0
      rw [e1] at c1
      have hlt' : (k : Int) < (n : Int) := by omega
      clear hc
      go_wp2_with fail
      refine (toEl_S s wr).mono ?_
      rintro e w2 ⟨rfl, b2⟩
      have hF2 := blk_kept hF (b2.block _ (blk_lt hF))
      have hgl := blk_lt hF
      have hb2 := hb.trans (b2.mono hb.size)
      obtain ⟨⟨u0, d0⟩, f0⟩ := blk_cell hF2 (k * 2) (by omega)
      obtain ⟨⟨u1, d1⟩, f1⟩ := blk_cell hF2 (k * 2 + 1) (by omega)
      have G := blk_next (blk_set (blk_set hF2 (k * 2) (by omega) (.int .i64 s.id)) (k * 2 + 1) (by omega) (.bool s.del)) (fun j => if j = 0 then .int .i64 s.id else .bool s.del) (fun j hj => by
        have hj : j = 0 ∨ j = 1 := by omega
        rcases hj with rfl | rfl <;> simp [*, go_sem])
      have HG : Hid (Blk ((w2.setCell ⟨w.heap.size, k * 2, none⟩ (.int .i64 s.id)).setCell ⟨w.heap.size, k * 2 + 1, none⟩ (.bool s.del)) w.heap.size 121 2 n (k + 1) (fun i j => if i = k then (if j = 0 then .int .i64 s.id else .bool s.del) else F i j)) := G
      have HBF : Hid (Below w.heap.size w ((w2.setCell ⟨w.heap.size, k * 2, none⟩ (.int .i64 s.id)).setCell ⟨w.heap.size, k * 2 + 1, none⟩ (.bool s.del))) := ((hb2.setCell (Nat.le_refl _) _).setCell (Nat.le_refl _) _)
      have HA : Hid (∀ i r, i < k + 1 → ss[i]? = some r → (fun i j => if i = k then (if j = 0 then .int .i64 s.id else .bool s.del) else F i j) i 0 = .int .i64 r.id ∧ (fun i j => if i = k then (if j = 0 then .int .i64 s.id else .bool s.del) else F i j) i 1 = .bool r.del) := fun i r hi hr => by
        by_cases e : i = k
        · subst e
          rw [hs] at hr
          cases hr
          simp only [if_pos]
          exact ⟨(by simp), (by simp)⟩
        · simp only [if_neg e]
          exact ⟨(hall.out i r (by omega) hr).1, (hall.out i r (by omega) hr).2⟩
      clear hb hF hall G hb2 hF2 b2
      go_wp2
      go_roundw
      case rel => exact ⟨k + 1, by omega, by go_num, HBF.out, _, HG.out, HA⟩
      case measure => simp [intOf]; omega
    · have hkn : k = n := by omega
      subst hkn
      go_wp2
      go_ret
      exact ⟨F, rfl, hF, fun i s hs => hall.out i s (by have := (List.getElem?_eq_some_iff.1 hs).1; have := HN.out; omega) hs, hb⟩

end Go.Proofs.YtnklnhnjmikooaaGreat

namespace Go.Proofs.YtnklnhnjmikooaaGreat
open Go.RowKit

set_option maxHeartbeats 1000000 in
theorem toReplyV (x y : Int) (w : World) :
    Calls Tryz.prog 100 #[.agg #[.int .i64 x, .int .i64 y]] w fun e w' => e = .returned (.agg #[.int .i64 x, .int .i64 y]) ∧ Below w.heap.size w w' := by
  go_enter Tryz.func100, Tryz.ntmps100
  go_wp2
  refine bodyPost_ret (v := .agg #[.int .i64 x, .int .i64 y]) (by simp [results, Tryz.results100, go_sem]) rfl ?_
  exact ⟨rfl, (((Below.refl _ w).alloc (Nat.le_refl _) _).alloc (by simp) _).alloc (by simp; omega) _⟩

set_option maxHeartbeats 1000000 in
theorem toEl_L (s : DLast) (w : World) :
    Calls Tryz.prog 76 #[.agg #[.int .i64 s.client, .int .i64 s.req, .int .i64 s.code, .int .i64 s.index]] w fun e w' => e = .returned (.agg #[.int .i64 s.client, .int .i64 s.req, .int .i64 s.code, .int .i64 s.index]) ∧ Below w.heap.size w w' := by
  go_enter Tryz.func76, Tryz.ntmps76
  go_wp2_with fail
  have B0 : Below w.heap.size w (((w.alloc (.cells #[.int .i64 s.client, .int .i64 s.req, .int .i64 s.code, .int .i64 s.index] 137 (0, 0))).alloc (.cells #[.int .i64 0, .int .i64 0, .int .i64 0, .int .i64 0] 125 (0, 0))).alloc (.cells #[.int .i64 s.client, .int .i64 s.req, .int .i64 0, .int .i64 0] 125 (0, 0))) := (((Below.refl _ w).alloc (Nat.le_refl _) _).alloc (by simp) _).alloc (by simp; omega) _
  refine (toReplyV s.code s.index _).mono ?_
  rintro e w1 ⟨rfl, b1⟩
  have R1 := below_blk b1 (by simp) (h3_1 w _ _ _)
  have T1 := below_blk b1 (by simp) (h3_2 w _ _ _)
  have hs1 : w.heap.size + 3 ≤ w1.heap.size := by have := b1.size; simp at this; omega
  have B1 := B0.trans (b1.mono (by simp; omega))
  obtain ⟨q0, g0⟩ := at_block T1 0 _ rfl
  obtain ⟨q1, g1⟩ := at_block T1 1 _ rfl
  obtain ⟨q2, g2⟩ := at_block T1 2 _ rfl
  obtain ⟨q3, g3⟩ := at_block T1 3 _ rfl
  obtain ⟨r0, z0⟩ := at_block R1 0 _ rfl
  obtain ⟨r1, z1⟩ := at_block R1 1 _ rfl
  obtain ⟨r2, z2⟩ := at_block R1 2 _ rfl
  obtain ⟨r3, z3⟩ := at_block R1 3 _ rfl
  clear b1 B0
  go_wp2
  refine bodyPost_ret (v := .agg #[.int .i64 s.client, .int .i64 s.req, .int .i64 s.code, .int .i64 s.index]) (by simp [results, Tryz.results76, go_sem, r0, r1, r2, r3]) rfl ?_
  exact ⟨rfl, (((((B1.setCell (by simp; omega) _).setCell (by simp; omega) _).setCell (by simp) _).setCell (by simp) _).setCell (by simp) _).setCell (by simp) _⟩

theorem info_L : (Tryz.prog.info? 125).map (fun i => (i.zero, i.size, i.bytes)) = some (some (.agg #[.int .i64 0, .int .i64 0, .int .i64 0, .int .i64 0]), 4, 32) := by kernel_rfl

set_option maxHeartbeats 2000000 in
theorem toS_L (v : Value) (ss : List DLast) (w : World) (h : VLasts w v ss) (hn : ss.length ≤ 1048576) :
    Calls Tryz.prog 34 #[v] w fun e w' => ∃ F, e = .returned (.slice (some ⟨w.heap.size, 0, none⟩) ss.length ss.length) ∧ Blk w' w.heap.size 125 4 ss.length ss.length F ∧ (∀ i s, ss[i]? = some s → F i 0 = .int .i64 s.client ∧ F i 1 = .int .i64 s.req ∧ F i 2 = .int .i64 s.code ∧ F i 3 = .int .i64 s.index) ∧ Below w.heap.size w w' := by
  obtain ⟨C, ⟨a, cap, rfl, h1, h2, h3⟩, hC⟩ := h
  have HC : Hid (∀ i r, ss[i]? = some r → C i 0 = .int .i64 r.client ∧ C i 1 = .int .i64 r.req ∧ C i 2 = .int .i64 r.code ∧ C i 3 = .int .i64 r.index) := hC
  clear hC
  obtain ⟨n, hnn⟩ : ∃ n, n = ss.length := ⟨_, rfl⟩
  rw [← hnn] at h1 h3 hn ⊢
  have HN : Hid (n = ss.length) := hnn
  clear hnn
  have H3 : Hid (0 < n → ∃ b o, a = some ⟨b, o, none⟩ ∧ b < w.heap.size ∧ ∀ i, i < n → ∀ j, j < 4 → w.cell? ⟨b, o + i * 4 + j, none⟩ = some (C i j)) := h3
  clear h3
  obtain ⟨i0, hi, hz0, hz1, hz2⟩ := info_parts info_L
  have hml : n ≤ maxLen := by unfold maxLen; omega
  have hml2 : (n : Int) ≤ 1048576 := by omega
  go_enter Tryz.func34, Tryz.ntmps34
  go_wp2_with (at_make; refine wpList_make_full _ rfl _ _ 46 rfl w.heap.size 125 i0 (.agg #[.int .i64 0, .int .i64 0, .int .i64 0, .int .i64 0]) 4 Tryz.underlying46 hi hz0 hz1 _ _ _ _ n rfl rfl rfl rfl ?b1 ?b2 ?b3 ?_)
  case b1 => rw [hz2]; omega
  case b2 => exact hml
  case b3 => exact Nat.le_refl _
  intro w1 hown hgr
  have hb1 : Below w.heap.size w w1 := (Below.refl _ _).grown hgr (Nat.le_refl _) (fun k hk => by cases hk)
  have hbk := blk_made (F := fun _ _ => .bool true) hown
  clear hown hgr
  go_wp2
  go_loopw [4] (fun i wr => ∃ k : Nat, k ≤ n ∧ i = .int .i64 k ∧ Below w.heap.size w wr ∧ ∃ F, Blk wr w.heap.size 125 4 n k F ∧ Hid (∀ i s, i < k → ss[i]? = some s → F i 0 = .int .i64 s.client ∧ F i 1 = .int .i64 s.req ∧ F i 2 = .int .i64 s.code ∧ F i 3 = .int .i64 s.index)) (fun i _ => n - (intOf i).toNat)
  case atStart => exact ⟨0, Nat.zero_le _, rfl, hb1, _, hbk, fun i s hi => absurd hi (by omega)⟩
  case round =>
    obtain ⟨k, hk, rfl, hb, F, hF, hall⟩ := hrel
    clear hbk hb1
    by_cases hlt : k < n
    · obtain ⟨b, o, rfl, hbl, hc⟩ := H3.out (by omega)
      obtain ⟨s, hs⟩ : ∃ s, ss[k]? = some s := ⟨_, List.getElem?_eq_getElem (by have := HN.out; omega)⟩
      obtain ⟨e0, e1, e2, e3⟩ := HC.out k s hs
      have c0 := World.grownBy.cell (ext_below hb) (hc k hlt 0 (by omega)) (by simp)
      have c1 := World.grownBy.cell (ext_below hb) (hc k hlt 1 (by omega)) (by simp)
      have c2 := World.grownBy.cell (ext_below hb) (hc k hlt 2 (by omega)) (by simp)
      have c3 := World.grownBy.cell (ext_below hb) (hc k hlt 3 (by omega)) (by simp)
      rw [e0, Nat.add_zero] at c0
      rw [e1] at c1
      rw [e2] at c2
      rw [e3] at c3
      have hlt' : (k : Int) < (n : Int) := by omega
      clear hc
      go_wp2_with fail
      refine (toEl_L s wr).mono ?_
      rintro e w2 ⟨rfl, b2⟩
      have hF2 := blk_kept hF (b2.block _ (blk_lt hF))
      have hgl := blk_lt hF
      have hb2 := hb.trans (b2.mono hb.size)
      obtain ⟨⟨u0, d0⟩, f0⟩ := blk_cell hF2 (k * 4) (by omega)
      obtain ⟨⟨u1, d1⟩, f1⟩ := blk_cell hF2 (k * 4 + 1) (by omega)
      obtain ⟨⟨u2, d2⟩, f2⟩ := blk_cell hF2 (k * 4 + 2) (by omega)
      obtain ⟨⟨u3, d3⟩, f3⟩ := blk_cell hF2 (k * 4 + 3) (by omega)
      have G := blk_next (blk_set (blk_set (blk_set (blk_set hF2 (k * 4) (by omega) (.int .i64 s.client)) (k * 4 + 1) (by omega) (.int .i64 s.req)) (k * 4 + 2) (by omega) (.int .i64 s.code)) (k * 4 + 3) (by omega) (.int .i64 s.index)) (fun j => if j = 0 then .int .i64 s.client else if j = 1 then .int .i64 s.req else if j = 2 then .int .i64 s.code else .int .i64 s.index) (fun j hj => by
        have hj : j = 0 ∨ j = 1 ∨ j = 2 ∨ j = 3 := by omega
        rcases hj with rfl | rfl | rfl | rfl <;> simp [*, go_sem])
      have HG : Hid (Blk ((((w2.setCell ⟨w.heap.size, k * 4, none⟩ (.int .i64 s.client)).setCell ⟨w.heap.size, k * 4 + 1, none⟩ (.int .i64 s.req)).setCell ⟨w.heap.size, k * 4 + 2, none⟩ (.int .i64 s.code)).setCell ⟨w.heap.size, k * 4 + 3, none⟩ (.int .i64 s.index)) w.heap.size 125 4 n (k + 1) (fun i j => if i = k then (if j = 0 then .int .i64 s.client else if j = 1 then .int .i64 s.req else if j = 2 then .int .i64 s.code else .int .i64 s.index) else F i j)) := G
      have HBF : Hid (Below w.heap.size w ((((w2.setCell ⟨w.heap.size, k * 4, none⟩ (.int .i64 s.client)).setCell ⟨w.heap.size, k * 4 + 1, none⟩ (.int .i64 s.req)).setCell ⟨w.heap.size, k * 4 + 2, none⟩ (.int .i64 s.code)).setCell ⟨w.heap.size, k * 4 + 3, none⟩ (.int .i64 s.index))) := ((((hb2.setCell (Nat.le_refl _) _).setCell (Nat.le_refl _) _).setCell (Nat.le_refl _) _).setCell (Nat.le_refl _) _)
      have HA : Hid (∀ i r, i < k + 1 → ss[i]? = some r → (fun i j => if i = k then (if j = 0 then .int .i64 s.client else if j = 1 then .int .i64 s.req else if j = 2 then .int .i64 s.code else .int .i64 s.index) else F i j) i 0 = .int .i64 r.client ∧ (fun i j => if i = k then (if j = 0 then .int .i64 s.client else if j = 1 then .int .i64 s.req else if j = 2 then .int .i64 s.code else .int .i64 s.index) else F i j) i 1 = .int .i64 r.req ∧ (fun i j => if i = k then (if j = 0 then .int .i64 s.client else if j = 1 then .int .i64 s.req else if j = 2 then .int .i64 s.code else .int .i64 s.index) else F i j) i 2 = .int .i64 r.code ∧ (fun i j => if i = k then (if j = 0 then .int .i64 s.client else if j = 1 then .int .i64 s.req else if j = 2 then .int .i64 s.code else .int .i64 s.index) else F i j) i 3 = .int .i64 r.index) := fun i r hi hr => by
        by_cases e : i = k
        · subst e
          rw [hs] at hr
          cases hr
          simp only [if_pos]
          exact ⟨(by simp), (by simp), (by simp), (by simp)⟩
        · simp only [if_neg e]
          exact ⟨(hall.out i r (by omega) hr).1, (hall.out i r (by omega) hr).2.1, (hall.out i r (by omega) hr).2.2.1, (hall.out i r (by omega) hr).2.2.2⟩
      clear hb hF hall G hb2 hF2 b2
      go_wp2
      go_roundw
      case rel => exact ⟨k + 1, by omega, by go_num, HBF.out, _, HG.out, HA⟩
      case measure => simp [intOf]; omega
    · have hkn : k = n := by omega
      subst hkn
      go_wp2
      go_ret
      exact ⟨F, rfl, hF, fun i s hs => hall.out i s (by have := (List.getElem?_eq_some_iff.1 hs).1; have := HN.out; omega) hs, hb⟩

end Go.Proofs.YtnklnhnjmikooaaGreat

namespace Go.Proofs.YtnklnhnjmikooaaGreat
open Go.RowKit

set_option maxHeartbeats 1000000 in
theorem toEl_R (kv vv : Value) (s : DRow) (w : World) (rk : RV w kv s.key) (rv : RV w vv s.val) (hk : s.key.length ≤ 1048576) (hv : s.val.length ≤ 1048576) :
    Calls Tryz.prog 73 #[.agg #[kv, vv, .int .i64 s.turned, .int .i64 s.holder]] w fun e w' => ∃ k' v', e = .returned (.agg #[k', v', .int .i64 s.turned, .int .i64 s.holder]) ∧ Ow w' w.heap.size k' s.key ∧ Ow w' w.heap.size v' s.val ∧ Below w.heap.size w w' := by
  have hE : ∀ w : World, ∀ o, Ext w (w.alloc o) := fun w o => World.grownBy_alloc _ _ _
  have hrk := rv_rng rk
  have hrv := rv_rng rv
  go_enter Tryz.func73, Tryz.ntmps73
  go_wp2_with fail
  refine (toV kv s.key _ (rk.ext (((hE _ _).tr (hE _ _)).tr (hE _ _))) hk).mono ?_
  rintro e w1 ⟨k1, rfl, o1, b1⟩
  have hs1 : w.heap.size + 3 ≤ w1.heap.size := by have := b1.size; simp at this; omega
  have P1 := below_blk b1 (by simp; omega) (h3_0 w _ _ _)
  have R1 := below_blk b1 (by simp) (h3_1 w _ _ _)
  have T1 := below_blk b1 (by simp) (h3_2 w _ _ _)
  obtain ⟨ka, kc, rfl, _, _, _⟩ := Ow.rv o1 hrk
  have c1 := (at_block P1 1 _ rfl).1
  obtain ⟨t0, ft0⟩ := at_block T1 0 _ rfl
  have T2 := set_block T1 0 (.slice ka s.key.length kc)
  have P2 := set_other (w.heap.size + 1 + 1) 0 (.slice ka s.key.length kc) (by omega) P1
  have R2 := set_other (w.heap.size + 1 + 1) 0 (.slice ka s.key.length kc) (by omega) R1
  have G2 := set_grown w1 (w.heap.size + 1 + 1) 0 (.slice ka s.key.length kc)
  have HT2 : Hid ((w1.setCell ⟨w.heap.size + 1 + 1, 0, none⟩ (.slice ka s.key.length kc)).heap[w.heap.size + 1 + 1]? = some (.cells #[.slice ka s.key.length kc, .slice none 0 0, .int .i64 0, .int .i64 0] 116 (0, 0))) := T2
  clear T2
  go_wp2_with fail
  have B0 : Below w.heap.size w w1 := ((((Below.refl _ w).alloc (Nat.le_refl _) _).alloc (by simp) _).alloc (by simp; omega) _).trans (b1.mono (by simp; omega))
  have B2 := below_at B0 B0.size G2 (by omega)
  have o2 := ow_row o1 G2 (by simp)
  have hs2 : w1.heap.size ≤ (w1.setCell ⟨w.heap.size + 1 + 1, 0, none⟩ (.slice ka s.key.length kc)).heap.size := G2.size
  generalize w1.setCell ⟨w.heap.size + 1 + 1, 0, none⟩ (.slice ka s.key.length kc) = w2 at HT2 P2 R2 G2 B2 o2 hs2 ⊢
  have T2 := HT2.out
  clear HT2 T1 P1 R1 t0 ft0 c1 G2 o1 b1 B0
  refine (toV vv s.val w2 (rv.ext (ext_below B2)) hv).mono ?_
  rintro e w3 ⟨v3, rfl, o3, b3⟩
  have hs3 := b3.size
  have P3 := below_blk b3 (by omega) P2
  have R3 := below_blk b3 (by omega) R2
  have T3 := below_blk b3 (by omega) T2
  have k3 := o2.ext (ext_below b3)
  have B3 := B2.trans (b3.mono B2.size)
  obtain ⟨va, vc, rfl, _, _, _⟩ := Ow.rv o3 hrv
  clear P2 R2 T2 b3 B2 o2
  have p2 := (at_block P3 2 _ rfl).1
  have p3 := (at_block P3 3 _ rfl).1
  obtain ⟨q0, g0⟩ := at_block T3 0 _ rfl
  obtain ⟨q1, g1⟩ := at_block T3 1 _ rfl
  obtain ⟨q2, g2⟩ := at_block T3 2 _ rfl
  obtain ⟨q3, g3⟩ := at_block T3 3 _ rfl
  obtain ⟨r0, z0⟩ := at_block R3 0 _ rfl
  obtain ⟨r1, z1⟩ := at_block R3 1 _ rfl
  obtain ⟨r2, z2⟩ := at_block R3 2 _ rfl
  obtain ⟨r3, z3⟩ := at_block R3 3 _ rfl
  go_wp2
  refine bodyPost_ret (v := .agg #[.slice ka s.key.length kc, .slice va s.val.length vc, .int .i64 s.turned, .int .i64 s.holder]) (by simp [results, Tryz.results73, go_sem, r0, r1, r2, r3]) rfl ?_
  have GG : ∀ (W : World) (j : Nat) (u : Value), W.grownBy (W.setCell ⟨w.heap.size + 1, j, none⟩ u) (some (w.heap.size + 1)) := fun W j u => set_grown W _ j u
  have GT : ∀ (W : World) (j : Nat) (u : Value), W.grownBy (W.setCell ⟨w.heap.size + 1 + 1, j, none⟩ u) (some (w.heap.size + 1 + 1)) := fun W j u => set_grown W _ j u
  refine ⟨_, _, rfl, ?_, ?_, ?_⟩
  · exact ow_base (ow_row (ow_row (ow_row (ow_row (ow_row (ow_row (ow_row k3 (GT _ _ _) (by simp)) (GT _ _ _) (by simp)) (GT _ _ _) (by simp)) (GG _ _ _) (by simp)) (GG _ _ _) (by simp)) (GG _ _ _) (by simp)) (GG _ _ _) (by simp)) (by simp; omega)
  · exact ow_base (ow_row (ow_row (ow_row (ow_row (ow_row (ow_row (ow_row o3 (GT _ _ _) (by omega)) (GT _ _ _) (by omega)) (GT _ _ _) (by omega)) (GG _ _ _) (by omega)) (GG _ _ _) (by omega)) (GG _ _ _) (by omega)) (GG _ _ _) (by omega)) (by omega)
  · exact ((((((B3.setCell (by simp; omega) _).setCell (by simp; omega) _).setCell (by simp; omega) _).setCell (by simp) _).setCell (by simp) _).setCell (by simp) _).setCell (by simp) _

theorem info_R : (Tryz.prog.info? 116).map (fun i => (i.zero, i.size, i.bytes)) = some (some (.agg #[.slice none 0 0, .slice none 0 0, .int .i64 0, .int .i64 0]), 4, 64) := by kernel_rfl

set_option maxHeartbeats 2000000 in
theorem toS_R (v : Value) (ss : List DRow) (w : World) (h : VRows w v ss) (hn : ss.length ≤ 1048576) (hlen : ∀ (i : Nat) (s : DRow), ss[i]? = some s → s.key.length ≤ 1048576 ∧ s.val.length ≤ 1048576) :
    Calls Tryz.prog 31 #[v] w fun e w' => ∃ F, e = .returned (.slice (some ⟨w.heap.size, 0, none⟩) ss.length ss.length) ∧ Blk w' w.heap.size 116 4 ss.length ss.length F ∧ (∀ i s, ss[i]? = some s → Ow w' (w.heap.size + 1) (F i 0) s.key ∧ Ow w' (w.heap.size + 1) (F i 1) s.val ∧ F i 2 = .int .i64 s.turned ∧ F i 3 = .int .i64 s.holder) ∧ Below w.heap.size w w' := by
  obtain ⟨C, ⟨a, cap, rfl, h1, h2, h3⟩, hC⟩ := h
  have HC : Hid (∀ i r, ss[i]? = some r → RV w (C i 0) r.key ∧ RV w (C i 1) r.val ∧ C i 2 = .int .i64 r.turned ∧ C i 3 = .int .i64 r.holder) := hC
  clear hC
  obtain ⟨n, hnn⟩ : ∃ n, n = ss.length := ⟨_, rfl⟩
  rw [← hnn] at h1 h3 hn ⊢
  have HN : Hid (n = ss.length) := hnn
  clear hnn
  have H3 : Hid (0 < n → ∃ b o, a = some ⟨b, o, none⟩ ∧ b < w.heap.size ∧ ∀ i, i < n → ∀ j, j < 4 → w.cell? ⟨b, o + i * 4 + j, none⟩ = some (C i j)) := h3
  clear h3
  have HLN : Hid (∀ (i : Nat) (s : DRow), ss[i]? = some s → s.key.length ≤ 1048576 ∧ s.val.length ≤ 1048576) := hlen
  clear hlen
  obtain ⟨i0, hi, hz0, hz1, hz2⟩ := info_parts info_R
  have hml : n ≤ maxLen := by unfold maxLen; omega
  have hml2 : (n : Int) ≤ 1048576 := by omega
  go_enter Tryz.func31, Tryz.ntmps31
  go_wp2_with (at_make; refine wpList_make_full _ rfl _ _ 43 rfl w.heap.size 116 i0 (.agg #[.slice none 0 0, .slice none 0 0, .int .i64 0, .int .i64 0]) 4 Tryz.underlying43 hi hz0 hz1 _ _ _ _ n rfl rfl rfl rfl ?b1 ?b2 ?b3 ?_)
  case b1 => rw [hz2]; omega
  case b2 => exact hml
  case b3 => exact Nat.le_refl _
  intro w1 hown hgr
  have hb1 : Below w.heap.size w w1 := (Below.refl _ _).grown hgr (Nat.le_refl _) (fun k hk => by cases hk)
  have hbk := blk_made (F := fun _ _ => .bool true) hown
  clear hown hgr
  go_wp2
  go_loopw [4] (fun i wr => ∃ k : Nat, k ≤ n ∧ i = .int .i64 k ∧ Below w.heap.size w wr ∧ ∃ F, Blk wr w.heap.size 116 4 n k F ∧ Hid (∀ i s, i < k → ss[i]? = some s → Ow wr (w.heap.size + 1) (F i 0) s.key ∧ Ow wr (w.heap.size + 1) (F i 1) s.val ∧ F i 2 = .int .i64 s.turned ∧ F i 3 = .int .i64 s.holder)) (fun i _ => n - (intOf i).toNat)
  case atStart => exact ⟨0, Nat.zero_le _, rfl, hb1, _, hbk, fun i s hi => absurd hi (by omega)⟩
  case round =>
    obtain ⟨k, hk, rfl, hb, F, hF, hall⟩ := hrel
    clear hbk hb1
    by_cases hlt : k < n
    · obtain ⟨b, o, rfl, hbl, hc⟩ := H3.out (by omega)
      obtain ⟨s, hs⟩ : ∃ s, ss[k]? = some s := ⟨_, List.getElem?_eq_getElem (by have := HN.out; omega)⟩
      obtain ⟨e0, e1, e2, e3⟩ := HC.out k s hs
      have c0 := World.grownBy.cell (ext_below hb) (hc k hlt 0 (by omega)) (by simp)
      have c1 := World.grownBy.cell (ext_below hb) (hc k hlt 1 (by omega)) (by simp)
      have c2 := World.grownBy.cell (ext_below hb) (hc k hlt 2 (by omega)) (by simp)
      have c3 := World.grownBy.cell (ext_below hb) (hc k hlt 3 (by omega)) (by simp)
      have r0 := e0.ext (ext_below hb)
      obtain ⟨a0, p0, x0, _, _, _⟩ := e0
      rw [x0] at r0 c0
      rw [Nat.add_zero] at c0
      have r1 := e1.ext (ext_below hb)
      obtain ⟨a1, p1, x1, _, _, _⟩ := e1
      rw [x1] at r1 c1
      rw [e2] at c2
      rw [e3] at c3
      have hlt' : (k : Int) < (n : Int) := by omega
      clear hc
      go_wp2_with fail
      refine (toEl_R _ _ s wr r0 r1 (HLN.out k s hs).1 (HLN.out k s hs).2).mono ?_
      rintro e w2 ⟨k', v', rfl, ok, ov, b2⟩
      obtain ⟨a5, p5, rfl, _, _, _⟩ := Ow.rv ok (rv_rng r0)
      obtain ⟨a6, p6, rfl, _, _, _⟩ := Ow.rv ov (rv_rng r1)
      have hF2 := blk_kept hF (b2.block _ (blk_lt hF))
      have hgl := blk_lt hF
      have hb2 := hb.trans (b2.mono hb.size)
      obtain ⟨⟨u0, d0⟩, f0⟩ := blk_cell hF2 (k * 4) (by omega)
      obtain ⟨⟨u1, d1⟩, f1⟩ := blk_cell hF2 (k * 4 + 1) (by omega)
      obtain ⟨⟨u2, d2⟩, f2⟩ := blk_cell hF2 (k * 4 + 2) (by omega)
      obtain ⟨⟨u3, d3⟩, f3⟩ := blk_cell hF2 (k * 4 + 3) (by omega)
      have G := blk_next (blk_set (blk_set (blk_set (blk_set hF2 (k * 4) (by omega) (.slice a5 s.key.length p5)) (k * 4 + 1) (by omega) (.slice a6 s.val.length p6)) (k * 4 + 2) (by omega) (.int .i64 s.turned)) (k * 4 + 3) (by omega) (.int .i64 s.holder)) (fun j => if j = 0 then .slice a5 s.key.length p5 else if j = 1 then .slice a6 s.val.length p6 else if j = 2 then .int .i64 s.turned else .int .i64 s.holder) (fun j hj => by
        have hj : j = 0 ∨ j = 1 ∨ j = 2 ∨ j = 3 := by omega
        rcases hj with rfl | rfl | rfl | rfl <;> simp [*, go_sem])
      have HG : Hid (Blk ((((w2.setCell ⟨w.heap.size, k * 4, none⟩ (.slice a5 s.key.length p5)).setCell ⟨w.heap.size, k * 4 + 1, none⟩ (.slice a6 s.val.length p6)).setCell ⟨w.heap.size, k * 4 + 2, none⟩ (.int .i64 s.turned)).setCell ⟨w.heap.size, k * 4 + 3, none⟩ (.int .i64 s.holder)) w.heap.size 116 4 n (k + 1) (fun i j => if i = k then (if j = 0 then .slice a5 s.key.length p5 else if j = 1 then .slice a6 s.val.length p6 else if j = 2 then .int .i64 s.turned else .int .i64 s.holder) else F i j)) := G
      have HBF : Hid (Below w.heap.size w ((((w2.setCell ⟨w.heap.size, k * 4, none⟩ (.slice a5 s.key.length p5)).setCell ⟨w.heap.size, k * 4 + 1, none⟩ (.slice a6 s.val.length p6)).setCell ⟨w.heap.size, k * 4 + 2, none⟩ (.int .i64 s.turned)).setCell ⟨w.heap.size, k * 4 + 3, none⟩ (.int .i64 s.holder))) := ((((hb2.setCell (Nat.le_refl _) _).setCell (Nat.le_refl _) _).setCell (Nat.le_refl _) _).setCell (Nat.le_refl _) _)
      have HA : Hid (∀ i r, i < k + 1 → ss[i]? = some r → Ow ((((w2.setCell ⟨w.heap.size, k * 4, none⟩ (.slice a5 s.key.length p5)).setCell ⟨w.heap.size, k * 4 + 1, none⟩ (.slice a6 s.val.length p6)).setCell ⟨w.heap.size, k * 4 + 2, none⟩ (.int .i64 s.turned)).setCell ⟨w.heap.size, k * 4 + 3, none⟩ (.int .i64 s.holder)) (w.heap.size + 1) ((fun i j => if i = k then (if j = 0 then .slice a5 s.key.length p5 else if j = 1 then .slice a6 s.val.length p6 else if j = 2 then .int .i64 s.turned else .int .i64 s.holder) else F i j) i 0) r.key ∧ Ow ((((w2.setCell ⟨w.heap.size, k * 4, none⟩ (.slice a5 s.key.length p5)).setCell ⟨w.heap.size, k * 4 + 1, none⟩ (.slice a6 s.val.length p6)).setCell ⟨w.heap.size, k * 4 + 2, none⟩ (.int .i64 s.turned)).setCell ⟨w.heap.size, k * 4 + 3, none⟩ (.int .i64 s.holder)) (w.heap.size + 1) ((fun i j => if i = k then (if j = 0 then .slice a5 s.key.length p5 else if j = 1 then .slice a6 s.val.length p6 else if j = 2 then .int .i64 s.turned else .int .i64 s.holder) else F i j) i 1) r.val ∧ (fun i j => if i = k then (if j = 0 then .slice a5 s.key.length p5 else if j = 1 then .slice a6 s.val.length p6 else if j = 2 then .int .i64 s.turned else .int .i64 s.holder) else F i j) i 2 = .int .i64 r.turned ∧ (fun i j => if i = k then (if j = 0 then .slice a5 s.key.length p5 else if j = 1 then .slice a6 s.val.length p6 else if j = 2 then .int .i64 s.turned else .int .i64 s.holder) else F i j) i 3 = .int .i64 r.holder) := fun i r hi hr => by
        by_cases e : i = k
        · subst e
          rw [hs] at hr
          cases hr
          simp only [if_pos]
          exact ⟨(by simpa using (ow_row (ow_row (ow_row (ow_row (ow_base ok (by omega)) (set_grown _ _ _ _) (by omega)) (set_grown _ _ _ _) (by omega)) (set_grown _ _ _ _) (by omega)) (set_grown _ _ _ _) (by omega))), (by simpa using (ow_row (ow_row (ow_row (ow_row (ow_base ov (by omega)) (set_grown _ _ _ _) (by omega)) (set_grown _ _ _ _) (by omega)) (set_grown _ _ _ _) (by omega)) (set_grown _ _ _ _) (by omega))), (by simp), (by simp)⟩
        · simp only [if_neg e]
          exact ⟨(ow_row (ow_row (ow_row (ow_row ((hall.out i r (by omega) hr).1.ext (ext_below b2)) (set_grown _ _ _ _) (by omega)) (set_grown _ _ _ _) (by omega)) (set_grown _ _ _ _) (by omega)) (set_grown _ _ _ _) (by omega)), (ow_row (ow_row (ow_row (ow_row ((hall.out i r (by omega) hr).2.1.ext (ext_below b2)) (set_grown _ _ _ _) (by omega)) (set_grown _ _ _ _) (by omega)) (set_grown _ _ _ _) (by omega)) (set_grown _ _ _ _) (by omega)), (hall.out i r (by omega) hr).2.2.1, (hall.out i r (by omega) hr).2.2.2⟩
      clear hb hF hall G hb2 hF2 b2
      go_wp2
      go_roundw
      case rel => exact ⟨k + 1, by omega, by go_num, HBF.out, _, HG.out, HA⟩
      case measure => simp [intOf]; omega
    · have hkn : k = n := by omega
      subst hkn
      go_wp2
      go_ret
      exact ⟨F, rfl, hF, fun i s hs => hall.out i s (by have := (List.getElem?_eq_some_iff.1 hs).1; have := HN.out; omega) hs, hb⟩

end Go.Proofs.YtnklnhnjmikooaaGreat

namespace Go.Proofs.YtnklnhnjmikooaaGreat
open Go.RowKit

set_option maxHeartbeats 1000000 in
theorem toEl_T (kv : Value) (s : DTomb) (w : World) (rk : RV w kv s.key) (hk : s.key.length ≤ 1048576) :
    Calls Tryz.prog 74 #[.agg #[kv, .int .i64 s.index]] w fun e w' => ∃ k', e = .returned (.agg #[k', .int .i64 s.index]) ∧ Ow w' w.heap.size k' s.key ∧ Below w.heap.size w w' := by
  have hE : ∀ w : World, ∀ o, Ext w (w.alloc o) := fun w o => World.grownBy_alloc _ _ _
  have hrk := rv_rng rk
  go_enter Tryz.func74, Tryz.ntmps74
  go_wp2_with fail
  refine (toV kv s.key _ (rk.ext (((hE _ _).tr (hE _ _)).tr (hE _ _))) hk).mono ?_
  rintro e w1 ⟨k1, rfl, o1, b1⟩
  have hs1 : w.heap.size + 3 ≤ w1.heap.size := by have := b1.size; simp at this; omega
  have P3 := below_blk b1 (by simp; omega) (h3_0 w _ _ _)
  have R3 := below_blk b1 (by simp) (h3_1 w _ _ _)
  have T3 := below_blk b1 (by simp) (h3_2 w _ _ _)
  have B3 : Below w.heap.size w w1 := ((((Below.refl _ w).alloc (Nat.le_refl _) _).alloc (by simp) _).alloc (by simp; omega) _).trans (b1.mono (by simp; omega))
  obtain ⟨ka, kc, rfl, _, _, _⟩ := Ow.rv o1 hrk
  have p1 := (at_block P3 1 _ rfl).1
  obtain ⟨q0, g0⟩ := at_block T3 0 _ rfl
  obtain ⟨q1, g1⟩ := at_block T3 1 _ rfl
  obtain ⟨r0, z0⟩ := at_block R3 0 _ rfl
  obtain ⟨r1, z1⟩ := at_block R3 1 _ rfl
  go_wp2
  refine bodyPost_ret (v := .agg #[.slice ka s.key.length kc, .int .i64 s.index]) (by simp [results, Tryz.results74, go_sem, r0, r1]) rfl ?_
  have GG : ∀ (W : World) (j : Nat) (u : Value), W.grownBy (W.setCell ⟨w.heap.size + 1, j, none⟩ u) (some (w.heap.size + 1)) := fun W j u => set_grown W _ j u
  have GT : ∀ (W : World) (j : Nat) (u : Value), W.grownBy (W.setCell ⟨w.heap.size + 1 + 1, j, none⟩ u) (some (w.heap.size + 1 + 1)) := fun W j u => set_grown W _ j u
  refine ⟨_, rfl, ?_, ?_⟩
  · exact ow_base (ow_row (ow_row (ow_row (ow_row o1 (GT _ _ _) (by simp)) (GT _ _ _) (by simp)) (GG _ _ _) (by simp)) (GG _ _ _) (by simp)) (by simp; omega)
  · exact (((B3.setCell (by simp; omega) _).setCell (by simp; omega) _).setCell (by simp) _).setCell (by simp) _

theorem info_T : (Tryz.prog.info? 118).map (fun i => (i.zero, i.size, i.bytes)) = some (some (.agg #[.slice none 0 0, .int .i64 0]), 2, 32) := by kernel_rfl

set_option maxHeartbeats 2000000 in
theorem toS_T (v : Value) (ss : List DTomb) (w : World) (h : VTombs w v ss) (hn : ss.length ≤ 1048576) (hlen : ∀ (i : Nat) (s : DTomb), ss[i]? = some s → s.key.length ≤ 1048576) :
    Calls Tryz.prog 32 #[v] w fun e w' => ∃ F, e = .returned (.slice (some ⟨w.heap.size, 0, none⟩) ss.length ss.length) ∧ Blk w' w.heap.size 118 2 ss.length ss.length F ∧ (∀ i s, ss[i]? = some s → Ow w' (w.heap.size + 1) (F i 0) s.key ∧ F i 1 = .int .i64 s.index) ∧ Below w.heap.size w w' := by
  obtain ⟨C, ⟨a, cap, rfl, h1, h2, h3⟩, hC⟩ := h
  have HC : Hid (∀ i r, ss[i]? = some r → RV w (C i 0) r.key ∧ C i 1 = .int .i64 r.index) := hC
  clear hC
  obtain ⟨n, hnn⟩ : ∃ n, n = ss.length := ⟨_, rfl⟩
  rw [← hnn] at h1 h3 hn ⊢
  have HN : Hid (n = ss.length) := hnn
  clear hnn
  have H3 : Hid (0 < n → ∃ b o, a = some ⟨b, o, none⟩ ∧ b < w.heap.size ∧ ∀ i, i < n → ∀ j, j < 2 → w.cell? ⟨b, o + i * 2 + j, none⟩ = some (C i j)) := h3
  clear h3
  have HLN : Hid (∀ (i : Nat) (s : DTomb), ss[i]? = some s → s.key.length ≤ 1048576) := hlen
  clear hlen
  obtain ⟨i0, hi, hz0, hz1, hz2⟩ := info_parts info_T
  have hml : n ≤ maxLen := by unfold maxLen; omega
  have hml2 : (n : Int) ≤ 1048576 := by omega
  go_enter Tryz.func32, Tryz.ntmps32
  go_wp2_with (at_make; refine wpList_make_full _ rfl _ _ 44 rfl w.heap.size 118 i0 (.agg #[.slice none 0 0, .int .i64 0]) 2 Tryz.underlying44 hi hz0 hz1 _ _ _ _ n rfl rfl rfl rfl ?b1 ?b2 ?b3 ?_)
  case b1 => rw [hz2]; omega
  case b2 => exact hml
  case b3 => exact Nat.le_refl _
  intro w1 hown hgr
  have hb1 : Below w.heap.size w w1 := (Below.refl _ _).grown hgr (Nat.le_refl _) (fun k hk => by cases hk)
  have hbk := blk_made (F := fun _ _ => .bool true) hown
  clear hown hgr
  go_wp2
  go_loopw [4] (fun i wr => ∃ k : Nat, k ≤ n ∧ i = .int .i64 k ∧ Below w.heap.size w wr ∧ ∃ F, Blk wr w.heap.size 118 2 n k F ∧ Hid (∀ i s, i < k → ss[i]? = some s → Ow wr (w.heap.size + 1) (F i 0) s.key ∧ F i 1 = .int .i64 s.index)) (fun i _ => n - (intOf i).toNat)
  case atStart => exact ⟨0, Nat.zero_le _, rfl, hb1, _, hbk, fun i s hi => absurd hi (by omega)⟩
  case round =>
    obtain ⟨k, hk, rfl, hb, F, hF, hall⟩ := hrel
    clear hbk hb1
    by_cases hlt : k < n
    · obtain ⟨b, o, rfl, hbl, hc⟩ := H3.out (by omega)
      obtain ⟨s, hs⟩ : ∃ s, ss[k]? = some s := ⟨_, List.getElem?_eq_getElem (by have := HN.out; omega)⟩
      obtain ⟨e0, e1⟩ := HC.out k s hs
      have c0 := World.grownBy.cell (ext_below hb) (hc k hlt 0 (by omega)) (by simp)
      have c1 := World.grownBy.cell (ext_below hb) (hc k hlt 1 (by omega)) (by simp)
      have r0 := e0.ext (ext_below hb)
      obtain ⟨a0, p0, x0, _, _, _⟩ := e0
      rw [x0] at r0 c0
      rw [Nat.add_zero] at c0
      rw [e1] at c1
      have hlt' : (k : Int) < (n : Int) := by omega
      clear hc
      go_wp2_with fail
      refine (toEl_T _ s wr r0 (HLN.out k s hs)).mono ?_
      rintro e w2 ⟨k', rfl, ok, b2⟩
      obtain ⟨a5, p5, rfl, _, _, _⟩ := Ow.rv ok (rv_rng r0)
      have hF2 := blk_kept hF (b2.block _ (blk_lt hF))
      have hgl := blk_lt hF
      have hb2 := hb.trans (b2.mono hb.size)
      obtain ⟨⟨u0, d0⟩, f0⟩ := blk_cell hF2 (k * 2) (by omega)
      obtain ⟨⟨u1, d1⟩, f1⟩ := blk_cell hF2 (k * 2 + 1) (by omega)
      have G := blk_next (blk_set (blk_set hF2 (k * 2) (by omega) (.slice a5 s.key.length p5)) (k * 2 + 1) (by omega) (.int .i64 s.index)) (fun j => if j = 0 then .slice a5 s.key.length p5 else .int .i64 s.index) (fun j hj => by
        have hj : j = 0 ∨ j = 1 := by omega
        rcases hj with rfl | rfl <;> simp [*, go_sem])
      have HG : Hid (Blk ((w2.setCell ⟨w.heap.size, k * 2, none⟩ (.slice a5 s.key.length p5)).setCell ⟨w.heap.size, k * 2 + 1, none⟩ (.int .i64 s.index)) w.heap.size 118 2 n (k + 1) (fun i j => if i = k then (if j = 0 then .slice a5 s.key.length p5 else .int .i64 s.index) else F i j)) := G
      have HBF : Hid (Below w.heap.size w ((w2.setCell ⟨w.heap.size, k * 2, none⟩ (.slice a5 s.key.length p5)).setCell ⟨w.heap.size, k * 2 + 1, none⟩ (.int .i64 s.index))) := ((hb2.setCell (Nat.le_refl _) _).setCell (Nat.le_refl _) _)
      have HA : Hid (∀ i r, i < k + 1 → ss[i]? = some r → Ow ((w2.setCell ⟨w.heap.size, k * 2, none⟩ (.slice a5 s.key.length p5)).setCell ⟨w.heap.size, k * 2 + 1, none⟩ (.int .i64 s.index)) (w.heap.size + 1) ((fun i j => if i = k then (if j = 0 then .slice a5 s.key.length p5 else .int .i64 s.index) else F i j) i 0) r.key ∧ (fun i j => if i = k then (if j = 0 then .slice a5 s.key.length p5 else .int .i64 s.index) else F i j) i 1 = .int .i64 r.index) := fun i r hi hr => by
        by_cases e : i = k
        · subst e
          rw [hs] at hr
          cases hr
          simp only [if_pos]
          exact ⟨(by simpa using (ow_row (ow_row (ow_base ok (by omega)) (set_grown _ _ _ _) (by omega)) (set_grown _ _ _ _) (by omega))), (by simp)⟩
        · simp only [if_neg e]
          exact ⟨(ow_row (ow_row ((hall.out i r (by omega) hr).1.ext (ext_below b2)) (set_grown _ _ _ _) (by omega)) (set_grown _ _ _ _) (by omega)), (hall.out i r (by omega) hr).2⟩
      clear hb hF hall G hb2 hF2 b2
      go_wp2
      go_roundw
      case rel => exact ⟨k + 1, by omega, by go_num, HBF.out, _, HG.out, HA⟩
      case measure => simp [intOf]; omega
    · have hkn : k = n := by omega
      subst hkn
      go_wp2
      go_ret
      exact ⟨F, rfl, hF, fun i s hs => hall.out i s (by have := (List.getElem?_eq_some_iff.1 hs).1; have := HN.out; omega) hs, hb⟩

end Go.Proofs.YtnklnhnjmikooaaGreat

namespace Go.Proofs.YtnklnhnjmikooaaGreat
open Go.RowKit

set_option maxHeartbeats 1000000 in
theorem eqEl_S (s : DSess) (w : World) :
    Calls Tryz.prog 89 #[.agg #[.int .i64 s.id, .bool s.del], .agg #[.int .i64 s.id, .bool s.del]] w fun e w' => e = .returned (.bool true) ∧ Below w.heap.size w w' := by
  go_enter Tryz.func89, Tryz.ntmps89
  go_wp2
  go_ret
  exact ⟨rfl, ((Below.refl _ w).alloc (Nat.le_refl _) _).alloc (by simp) _⟩

set_option maxHeartbeats 2000000 in
theorem eqS_S (v u : Value) (ss : List DSess) (w : World) (h : VSess w v ss) (k : VSess w u ss) (hn : ss.length ≤ 1048576) :
    Calls Tryz.prog 43 #[v, u] w fun e w' => e = .returned (.bool true) ∧ Below w.heap.size w w' := by
  obtain ⟨C, ⟨a, cap, rfl, h1, h2, h3⟩, hC⟩ := h
  obtain ⟨D, ⟨a', cap', rfl, h1', h2', h3'⟩, hD⟩ := k
  have HC : Hid (∀ i r, ss[i]? = some r → C i 0 = .int .i64 r.id ∧ C i 1 = .bool r.del) := hC
  have HD : Hid (∀ i r, ss[i]? = some r → D i 0 = .int .i64 r.id ∧ D i 1 = .bool r.del) := hD
  clear hC hD
  obtain ⟨n, hnn⟩ : ∃ n, n = ss.length := ⟨_, rfl⟩
  rw [← hnn] at h1 h3 h1' h3' hn ⊢
  have HN : Hid (n = ss.length) := hnn
  clear hnn
  have H3 : Hid (0 < n → ∃ b o, a = some ⟨b, o, none⟩ ∧ b < w.heap.size ∧ ∀ i, i < n → ∀ j, j < 2 → w.cell? ⟨b, o + i * 2 + j, none⟩ = some (C i j)) := h3
  have H3' : Hid (0 < n → ∃ b o, a' = some ⟨b, o, none⟩ ∧ b < w.heap.size ∧ ∀ i, i < n → ∀ j, j < 2 → w.cell? ⟨b, o + i * 2 + j, none⟩ = some (D i j)) := h3'
  clear h3 h3'
  have hml2 : (n : Int) ≤ 1048576 := by omega
  go_enter Tryz.func43, Tryz.ntmps43
  go_wp2
  go_loopw [5] (fun i wr => ∃ k : Nat, k ≤ n ∧ i = .int .i64 k ∧ Below w.heap.size w wr) (fun i _ => n - (intOf i).toNat)
  case atStart => exact ⟨0, Nat.zero_le _, rfl, Below.refl _ _⟩
  case round =>
    obtain ⟨k, hk, rfl, hb⟩ := hrel
    by_cases hlt : k < n
    · obtain ⟨b, o, rfl, hbl, hc⟩ := H3.out (by omega)
      obtain ⟨b', o', rfl, hbl', hc'⟩ := H3'.out (by omega)
      obtain ⟨s, hs⟩ : ∃ s, ss[k]? = some s := ⟨_, List.getElem?_eq_getElem (by have := HN.out; omega)⟩
      obtain ⟨e0, e1⟩ := HC.out k s hs
      obtain ⟨y0, y1⟩ := HD.out k s hs
      have X2 : Ext w wr.drew := (ext_below hb).tr (ext_drewN wr 1)
      have c0 := World.grownBy.cell (ext_below hb) (hc k hlt 0 (by omega)) (by simp)
      rw [e0, Nat.add_zero] at c0
      have c1 := World.grownBy.cell (ext_below hb) (hc k hlt 1 (by omega)) (by simp)
      rw [e1] at c1
      have d0 := World.grownBy.cell (ext_below hb) (hc' k hlt 0 (by omega)) (by simp)
      rw [y0, Nat.add_zero] at d0
      have d1 := World.grownBy.cell (ext_below hb) (hc' k hlt 1 (by omega)) (by simp)
      rw [y1] at d1
      have hlt' : (k : Int) < (n : Int) := by omega
      have hb5 : Below w.heap.size w wr.drew := below_drewN hb 1
      clear hc hc' X2
      go_wp2_with fail
      go_region_held3 (fun w' => w'.cell? ⟨b, o + k * 2, none⟩ = some (.int .i64 s.id) ∧ w'.cell? ⟨b, o + k * 2 + 1, none⟩ = some (.bool s.del) ∧ w'.cell? ⟨b', o' + k * 2, none⟩ = some (.int .i64 s.id) ∧ w'.cell? ⟨b', o' + k * 2 + 1, none⟩ = some (.bool s.del)) (simp [*])
        ((go_at_call 89; refine (eqEl_S s _).mono ?_; rintro e w7 ⟨rfl, b7⟩; have ck0 := World.grownBy.cell (ext_below b7) (show wr.drew.cell? _ = _ from c0) (by simp); have ck1 := World.grownBy.cell (ext_below b7) (show wr.drew.cell? _ = _ from c1) (by simp); have dk0 := World.grownBy.cell (ext_below b7) (show wr.drew.cell? _ = _ from d0) (by simp); have dk1 := World.grownBy.cell (ext_below b7) (show wr.drew.cell? _ = _ from d1) (by simp)))
      all_goals
        go_wp2
        go_roundw
        case rel => exact ⟨k + 1, by omega, by go_num, hb5.trans (b7.mono hb5.size)⟩
        case measure => simp [intOf]; omega
    · have hkn : k = n := by omega
      subst hkn
      go_wp2
      go_ret
      exact ⟨rfl, hb⟩

end Go.Proofs.YtnklnhnjmikooaaGreat

namespace Go.Proofs.YtnklnhnjmikooaaGreat
open Go.RowKit

set_option maxHeartbeats 1000000 in
theorem eqReplyV (x y : Int) (w : World) :
    Calls Tryz.prog 110 #[.agg #[.int .i64 x, .int .i64 y], .agg #[.int .i64 x, .int .i64 y]] w fun e w' => e = .returned (.bool true) ∧ Below w.heap.size w w' := by
  go_enter Tryz.func110, Tryz.ntmps110
  go_wp2
  go_ret
  exact ⟨rfl, ((Below.refl _ w).alloc (Nat.le_refl _) _).alloc (by simp) _⟩

set_option maxHeartbeats 1000000 in
theorem eqEl_L (s : DLast) (w : World) :
    Calls Tryz.prog 90 #[.agg #[.int .i64 s.client, .int .i64 s.req, .int .i64 s.code, .int .i64 s.index], .agg #[.int .i64 s.client, .int .i64 s.req, .int .i64 s.code, .int .i64 s.index]] w fun e w' => e = .returned (.bool true) ∧ Below w.heap.size w w' := by
  go_enter Tryz.func90, Tryz.ntmps90
  go_wp2_with fail
  refine (eqReplyV s.code s.index _).mono ?_
  rintro e w1 ⟨rfl, b1⟩
  go_wp2
  go_ret
  exact ⟨rfl, (((Below.refl _ w).alloc (Nat.le_refl _) _).alloc (by simp) _).trans (b1.mono (by simp; omega))⟩

set_option maxHeartbeats 2000000 in
theorem eqS_L (v u : Value) (ss : List DLast) (w : World) (h : VLasts w v ss) (k : VLasts w u ss) (hn : ss.length ≤ 1048576) :
    Calls Tryz.prog 44 #[v, u] w fun e w' => e = .returned (.bool true) ∧ Below w.heap.size w w' := by
  obtain ⟨C, ⟨a, cap, rfl, h1, h2, h3⟩, hC⟩ := h
  obtain ⟨D, ⟨a', cap', rfl, h1', h2', h3'⟩, hD⟩ := k
  have HC : Hid (∀ i r, ss[i]? = some r → C i 0 = .int .i64 r.client ∧ C i 1 = .int .i64 r.req ∧ C i 2 = .int .i64 r.code ∧ C i 3 = .int .i64 r.index) := hC
  have HD : Hid (∀ i r, ss[i]? = some r → D i 0 = .int .i64 r.client ∧ D i 1 = .int .i64 r.req ∧ D i 2 = .int .i64 r.code ∧ D i 3 = .int .i64 r.index) := hD
  clear hC hD
  obtain ⟨n, hnn⟩ : ∃ n, n = ss.length := ⟨_, rfl⟩
  rw [← hnn] at h1 h3 h1' h3' hn ⊢
  have HN : Hid (n = ss.length) := hnn
  clear hnn
  have H3 : Hid (0 < n → ∃ b o, a = some ⟨b, o, none⟩ ∧ b < w.heap.size ∧ ∀ i, i < n → ∀ j, j < 4 → w.cell? ⟨b, o + i * 4 + j, none⟩ = some (C i j)) := h3
  have H3' : Hid (0 < n → ∃ b o, a' = some ⟨b, o, none⟩ ∧ b < w.heap.size ∧ ∀ i, i < n → ∀ j, j < 4 → w.cell? ⟨b, o + i * 4 + j, none⟩ = some (D i j)) := h3'
  clear h3 h3'
  have hml2 : (n : Int) ≤ 1048576 := by omega
  go_enter Tryz.func44, Tryz.ntmps44
  go_wp2
  go_loopw [5] (fun i wr => ∃ k : Nat, k ≤ n ∧ i = .int .i64 k ∧ Below w.heap.size w wr) (fun i _ => n - (intOf i).toNat)
  case atStart => exact ⟨0, Nat.zero_le _, rfl, Below.refl _ _⟩
  case round =>
    obtain ⟨k, hk, rfl, hb⟩ := hrel
    by_cases hlt : k < n
    · obtain ⟨b, o, rfl, hbl, hc⟩ := H3.out (by omega)
      obtain ⟨b', o', rfl, hbl', hc'⟩ := H3'.out (by omega)
      obtain ⟨s, hs⟩ : ∃ s, ss[k]? = some s := ⟨_, List.getElem?_eq_getElem (by have := HN.out; omega)⟩
      obtain ⟨e0, e1, e2, e3⟩ := HC.out k s hs
      obtain ⟨y0, y1, y2, y3⟩ := HD.out k s hs
      have X2 : Ext w wr.drew := (ext_below hb).tr (ext_drewN wr 1)
      have c0 := World.grownBy.cell (ext_below hb) (hc k hlt 0 (by omega)) (by simp)
      rw [e0, Nat.add_zero] at c0
      have c1 := World.grownBy.cell (ext_below hb) (hc k hlt 1 (by omega)) (by simp)
      rw [e1] at c1
      have c2 := World.grownBy.cell (ext_below hb) (hc k hlt 2 (by omega)) (by simp)
      rw [e2] at c2
      have c3 := World.grownBy.cell (ext_below hb) (hc k hlt 3 (by omega)) (by simp)
      rw [e3] at c3
      have d0 := World.grownBy.cell (ext_below hb) (hc' k hlt 0 (by omega)) (by simp)
      rw [y0, Nat.add_zero] at d0
      have d1 := World.grownBy.cell (ext_below hb) (hc' k hlt 1 (by omega)) (by simp)
      rw [y1] at d1
      have d2 := World.grownBy.cell (ext_below hb) (hc' k hlt 2 (by omega)) (by simp)
      rw [y2] at d2
      have d3 := World.grownBy.cell (ext_below hb) (hc' k hlt 3 (by omega)) (by simp)
      rw [y3] at d3
      have hlt' : (k : Int) < (n : Int) := by omega
      have hb5 : Below w.heap.size w wr.drew := below_drewN hb 1
      clear hc hc' X2
      go_wp2_with fail
      go_region_held3 (fun w' => w'.cell? ⟨b, o + k * 4, none⟩ = some (.int .i64 s.client) ∧ w'.cell? ⟨b, o + k * 4 + 1, none⟩ = some (.int .i64 s.req) ∧ w'.cell? ⟨b, o + k * 4 + 2, none⟩ = some (.int .i64 s.code) ∧ w'.cell? ⟨b, o + k * 4 + 3, none⟩ = some (.int .i64 s.index) ∧ w'.cell? ⟨b', o' + k * 4, none⟩ = some (.int .i64 s.client) ∧ w'.cell? ⟨b', o' + k * 4 + 1, none⟩ = some (.int .i64 s.req) ∧ w'.cell? ⟨b', o' + k * 4 + 2, none⟩ = some (.int .i64 s.code) ∧ w'.cell? ⟨b', o' + k * 4 + 3, none⟩ = some (.int .i64 s.index)) (simp [*])
        ((go_at_call 90; refine (eqEl_L s _).mono ?_; rintro e w7 ⟨rfl, b7⟩; have ck0 := World.grownBy.cell (ext_below b7) (show wr.drew.cell? _ = _ from c0) (by simp); have ck1 := World.grownBy.cell (ext_below b7) (show wr.drew.cell? _ = _ from c1) (by simp); have ck2 := World.grownBy.cell (ext_below b7) (show wr.drew.cell? _ = _ from c2) (by simp); have ck3 := World.grownBy.cell (ext_below b7) (show wr.drew.cell? _ = _ from c3) (by simp); have dk0 := World.grownBy.cell (ext_below b7) (show wr.drew.cell? _ = _ from d0) (by simp); have dk1 := World.grownBy.cell (ext_below b7) (show wr.drew.cell? _ = _ from d1) (by simp); have dk2 := World.grownBy.cell (ext_below b7) (show wr.drew.cell? _ = _ from d2) (by simp); have dk3 := World.grownBy.cell (ext_below b7) (show wr.drew.cell? _ = _ from d3) (by simp)))
      all_goals
        go_wp2
        go_roundw
        case rel => exact ⟨k + 1, by omega, by go_num, hb5.trans (b7.mono hb5.size)⟩
        case measure => simp [intOf]; omega
    · have hkn : k = n := by omega
      subst hkn
      go_wp2
      go_ret
      exact ⟨rfl, hb⟩

end Go.Proofs.YtnklnhnjmikooaaGreat

namespace Go.Proofs.YtnklnhnjmikooaaGreat
open Go.RowKit

set_option maxHeartbeats 1000000 in
theorem eqEl_R (kv vv kv' vv' : Value) (s : DRow) (w : World) (rk : RV w kv s.key) (rv : RV w vv s.val) (rk' : RV w kv' s.key) (rv' : RV w vv' s.val) (hk : s.key.length ≤ 2097152) (hv : s.val.length ≤ 2097152) :
    Calls Tryz.prog 87 #[.agg #[kv, vv, .int .i64 s.turned, .int .i64 s.holder], .agg #[kv', vv', .int .i64 s.turned, .int .i64 s.holder]] w fun e w' => e = .returned (.bool true) ∧ Below w.heap.size w w' := by
  have hE : ∀ w : World, ∀ o, Ext w (w.alloc o) := fun w o => World.grownBy_alloc _ _ _
  have x2 : ∀ a b, Ext w ((w.alloc a).alloc b) := fun a b => (hE _ _).tr (hE _ _)
  go_enter Tryz.func87, Tryz.ntmps87
  go_wp2_with fail
  refine (eqV_yes kv kv' s.key _ (rk.ext (x2 _ _)) (rk'.ext (x2 _ _)) hk).mono ?_
  rintro e w1 ⟨rfl, q1, rfl⟩
  go_wp2_with fail
  refine (eqV_yes vv vv' s.val _ ((rv.ext (x2 _ _)).ext (ext_drewN _ _)) ((rv'.ext (x2 _ _)).ext (ext_drewN _ _)) hv).mono ?_
  rintro e w2 ⟨rfl, q2, rfl⟩
  go_wp2
  go_ret
  exact ⟨rfl, below_drewN (((Below.refl _ w).alloc (Nat.le_refl _) _).alloc (by simp) _) _⟩

set_option maxHeartbeats 2000000 in
theorem eqS_R (v u : Value) (ss : List DRow) (w : World) (h : VRows w v ss) (k : VRows w u ss) (hn : ss.length ≤ 1048576) (hlen : ∀ (i : Nat) (s : DRow), ss[i]? = some s → s.key.length ≤ 2097152 ∧ s.val.length ≤ 2097152) :
    Calls Tryz.prog 41 #[v, u] w fun e w' => e = .returned (.bool true) ∧ Below w.heap.size w w' := by
  obtain ⟨C, ⟨a, cap, rfl, h1, h2, h3⟩, hC⟩ := h
  obtain ⟨D, ⟨a', cap', rfl, h1', h2', h3'⟩, hD⟩ := k
  have HC : Hid (∀ i r, ss[i]? = some r → RV w (C i 0) r.key ∧ RV w (C i 1) r.val ∧ C i 2 = .int .i64 r.turned ∧ C i 3 = .int .i64 r.holder) := hC
  have HD : Hid (∀ i r, ss[i]? = some r → RV w (D i 0) r.key ∧ RV w (D i 1) r.val ∧ D i 2 = .int .i64 r.turned ∧ D i 3 = .int .i64 r.holder) := hD
  clear hC hD
  obtain ⟨n, hnn⟩ : ∃ n, n = ss.length := ⟨_, rfl⟩
  rw [← hnn] at h1 h3 h1' h3' hn ⊢
  have HN : Hid (n = ss.length) := hnn
  clear hnn
  have H3 : Hid (0 < n → ∃ b o, a = some ⟨b, o, none⟩ ∧ b < w.heap.size ∧ ∀ i, i < n → ∀ j, j < 4 → w.cell? ⟨b, o + i * 4 + j, none⟩ = some (C i j)) := h3
  have H3' : Hid (0 < n → ∃ b o, a' = some ⟨b, o, none⟩ ∧ b < w.heap.size ∧ ∀ i, i < n → ∀ j, j < 4 → w.cell? ⟨b, o + i * 4 + j, none⟩ = some (D i j)) := h3'
  clear h3 h3'
  have HLN : Hid (∀ (i : Nat) (s : DRow), ss[i]? = some s → s.key.length ≤ 2097152 ∧ s.val.length ≤ 2097152) := hlen
  clear hlen
  have hml2 : (n : Int) ≤ 1048576 := by omega
  go_enter Tryz.func41, Tryz.ntmps41
  go_wp2
  go_loopw [5] (fun i wr => ∃ k : Nat, k ≤ n ∧ i = .int .i64 k ∧ Below w.heap.size w wr) (fun i _ => n - (intOf i).toNat)
  case atStart => exact ⟨0, Nat.zero_le _, rfl, Below.refl _ _⟩
  case round =>
    obtain ⟨k, hk, rfl, hb⟩ := hrel
    by_cases hlt : k < n
    · obtain ⟨b, o, rfl, hbl, hc⟩ := H3.out (by omega)
      obtain ⟨b', o', rfl, hbl', hc'⟩ := H3'.out (by omega)
      obtain ⟨s, hs⟩ : ∃ s, ss[k]? = some s := ⟨_, List.getElem?_eq_getElem (by have := HN.out; omega)⟩
      obtain ⟨e0, e1, e2, e3⟩ := HC.out k s hs
      obtain ⟨y0, y1, y2, y3⟩ := HD.out k s hs
      have X2 : Ext w wr.drew := (ext_below hb).tr (ext_drewN wr 1)
      have c0 := World.grownBy.cell (ext_below hb) (hc k hlt 0 (by omega)) (by simp)
      have cr0 := e0.ext X2
      obtain ⟨ca0, cp0, cx0, _, _, _⟩ := e0
      rw [cx0] at cr0 c0
      rw [Nat.add_zero] at c0
      have c1 := World.grownBy.cell (ext_below hb) (hc k hlt 1 (by omega)) (by simp)
      have cr1 := e1.ext X2
      obtain ⟨ca1, cp1, cx1, _, _, _⟩ := e1
      rw [cx1] at cr1 c1
      have c2 := World.grownBy.cell (ext_below hb) (hc k hlt 2 (by omega)) (by simp)
      rw [e2] at c2
      have c3 := World.grownBy.cell (ext_below hb) (hc k hlt 3 (by omega)) (by simp)
      rw [e3] at c3
      have d0 := World.grownBy.cell (ext_below hb) (hc' k hlt 0 (by omega)) (by simp)
      have dr0 := y0.ext X2
      obtain ⟨da0, dp0, dx0, _, _, _⟩ := y0
      rw [dx0] at dr0 d0
      rw [Nat.add_zero] at d0
      have d1 := World.grownBy.cell (ext_below hb) (hc' k hlt 1 (by omega)) (by simp)
      have dr1 := y1.ext X2
      obtain ⟨da1, dp1, dx1, _, _, _⟩ := y1
      rw [dx1] at dr1 d1
      have d2 := World.grownBy.cell (ext_below hb) (hc' k hlt 2 (by omega)) (by simp)
      rw [y2] at d2
      have d3 := World.grownBy.cell (ext_below hb) (hc' k hlt 3 (by omega)) (by simp)
      rw [y3] at d3
      have hlt' : (k : Int) < (n : Int) := by omega
      have hb5 : Below w.heap.size w wr.drew := below_drewN hb 1
      clear hc hc' X2
      go_wp2_with fail
      go_region_held3 (fun w' => w'.cell? ⟨b, o + k * 4, none⟩ = some (.slice ca0 s.key.length cp0) ∧ w'.cell? ⟨b, o + k * 4 + 1, none⟩ = some (.slice ca1 s.val.length cp1) ∧ w'.cell? ⟨b, o + k * 4 + 2, none⟩ = some (.int .i64 s.turned) ∧ w'.cell? ⟨b, o + k * 4 + 3, none⟩ = some (.int .i64 s.holder) ∧ w'.cell? ⟨b', o' + k * 4, none⟩ = some (.slice da0 s.key.length dp0) ∧ w'.cell? ⟨b', o' + k * 4 + 1, none⟩ = some (.slice da1 s.val.length dp1) ∧ w'.cell? ⟨b', o' + k * 4 + 2, none⟩ = some (.int .i64 s.turned) ∧ w'.cell? ⟨b', o' + k * 4 + 3, none⟩ = some (.int .i64 s.holder)) (simp [*])
        ((go_at_call 87; refine (eqEl_R _ _ _ _ s _ cr0 cr1 dr0 dr1 (HLN.out k s hs).1 (HLN.out k s hs).2).mono ?_; rintro e w7 ⟨rfl, b7⟩; have ck0 := World.grownBy.cell (ext_below b7) (show wr.drew.cell? _ = _ from c0) (by simp); have ck1 := World.grownBy.cell (ext_below b7) (show wr.drew.cell? _ = _ from c1) (by simp); have ck2 := World.grownBy.cell (ext_below b7) (show wr.drew.cell? _ = _ from c2) (by simp); have ck3 := World.grownBy.cell (ext_below b7) (show wr.drew.cell? _ = _ from c3) (by simp); have dk0 := World.grownBy.cell (ext_below b7) (show wr.drew.cell? _ = _ from d0) (by simp); have dk1 := World.grownBy.cell (ext_below b7) (show wr.drew.cell? _ = _ from d1) (by simp); have dk2 := World.grownBy.cell (ext_below b7) (show wr.drew.cell? _ = _ from d2) (by simp); have dk3 := World.grownBy.cell (ext_below b7) (show wr.drew.cell? _ = _ from d3) (by simp)))
      all_goals
        go_wp2
        go_roundw
        case rel => exact ⟨k + 1, by omega, by go_num, hb5.trans (b7.mono hb5.size)⟩
        case measure => simp [intOf]; omega
    · have hkn : k = n := by omega
      subst hkn
      go_wp2
      go_ret
      exact ⟨rfl, hb⟩

end Go.Proofs.YtnklnhnjmikooaaGreat

namespace Go.Proofs.YtnklnhnjmikooaaGreat
open Go.RowKit

set_option maxHeartbeats 1000000 in
theorem eqEl_T (kv kv' : Value) (s : DTomb) (w : World) (rk : RV w kv s.key) (rk' : RV w kv' s.key) (hk : s.key.length ≤ 2097152) :
    Calls Tryz.prog 88 #[.agg #[kv, .int .i64 s.index], .agg #[kv', .int .i64 s.index]] w fun e w' => e = .returned (.bool true) ∧ Below w.heap.size w w' := by
  have hE : ∀ w : World, ∀ o, Ext w (w.alloc o) := fun w o => World.grownBy_alloc _ _ _
  have x2 : ∀ a b, Ext w ((w.alloc a).alloc b) := fun a b => (hE _ _).tr (hE _ _)
  go_enter Tryz.func88, Tryz.ntmps88
  go_wp2_with fail
  refine (eqV_yes kv kv' s.key _ (rk.ext (x2 _ _)) (rk'.ext (x2 _ _)) hk).mono ?_
  rintro e w1 ⟨rfl, q1, rfl⟩
  go_wp2
  go_ret
  exact ⟨rfl, below_drewN (((Below.refl _ w).alloc (Nat.le_refl _) _).alloc (by simp) _) _⟩

set_option maxHeartbeats 2000000 in
theorem eqS_T (v u : Value) (ss : List DTomb) (w : World) (h : VTombs w v ss) (k : VTombs w u ss) (hn : ss.length ≤ 1048576) (hlen : ∀ (i : Nat) (s : DTomb), ss[i]? = some s → s.key.length ≤ 2097152) :
    Calls Tryz.prog 42 #[v, u] w fun e w' => e = .returned (.bool true) ∧ Below w.heap.size w w' := by
  obtain ⟨C, ⟨a, cap, rfl, h1, h2, h3⟩, hC⟩ := h
  obtain ⟨D, ⟨a', cap', rfl, h1', h2', h3'⟩, hD⟩ := k
  have HC : Hid (∀ i r, ss[i]? = some r → RV w (C i 0) r.key ∧ C i 1 = .int .i64 r.index) := hC
  have HD : Hid (∀ i r, ss[i]? = some r → RV w (D i 0) r.key ∧ D i 1 = .int .i64 r.index) := hD
  clear hC hD
  obtain ⟨n, hnn⟩ : ∃ n, n = ss.length := ⟨_, rfl⟩
  rw [← hnn] at h1 h3 h1' h3' hn ⊢
  have HN : Hid (n = ss.length) := hnn
  clear hnn
  have H3 : Hid (0 < n → ∃ b o, a = some ⟨b, o, none⟩ ∧ b < w.heap.size ∧ ∀ i, i < n → ∀ j, j < 2 → w.cell? ⟨b, o + i * 2 + j, none⟩ = some (C i j)) := h3
  have H3' : Hid (0 < n → ∃ b o, a' = some ⟨b, o, none⟩ ∧ b < w.heap.size ∧ ∀ i, i < n → ∀ j, j < 2 → w.cell? ⟨b, o + i * 2 + j, none⟩ = some (D i j)) := h3'
  clear h3 h3'
  have HLN : Hid (∀ (i : Nat) (s : DTomb), ss[i]? = some s → s.key.length ≤ 2097152) := hlen
  clear hlen
  have hml2 : (n : Int) ≤ 1048576 := by omega
  go_enter Tryz.func42, Tryz.ntmps42
  go_wp2
  go_loopw [5] (fun i wr => ∃ k : Nat, k ≤ n ∧ i = .int .i64 k ∧ Below w.heap.size w wr) (fun i _ => n - (intOf i).toNat)
  case atStart => exact ⟨0, Nat.zero_le _, rfl, Below.refl _ _⟩
  case round =>
    obtain ⟨k, hk, rfl, hb⟩ := hrel
    by_cases hlt : k < n
    · obtain ⟨b, o, rfl, hbl, hc⟩ := H3.out (by omega)
      obtain ⟨b', o', rfl, hbl', hc'⟩ := H3'.out (by omega)
      obtain ⟨s, hs⟩ : ∃ s, ss[k]? = some s := ⟨_, List.getElem?_eq_getElem (by have := HN.out; omega)⟩
      obtain ⟨e0, e1⟩ := HC.out k s hs
      obtain ⟨y0, y1⟩ := HD.out k s hs
      have X2 : Ext w wr.drew := (ext_below hb).tr (ext_drewN wr 1)
      have c0 := World.grownBy.cell (ext_below hb) (hc k hlt 0 (by omega)) (by simp)
      have cr0 := e0.ext X2
      obtain ⟨ca0, cp0, cx0, _, _, _⟩ := e0
      rw [cx0] at cr0 c0
      rw [Nat.add_zero] at c0
      have c1 := World.grownBy.cell (ext_below hb) (hc k hlt 1 (by omega)) (by simp)
      rw [e1] at c1
      have d0 := World.grownBy.cell (ext_below hb) (hc' k hlt 0 (by omega)) (by simp)
      have dr0 := y0.ext X2
      obtain ⟨da0, dp0, dx0, _, _, _⟩ := y0
      rw [dx0] at dr0 d0
      rw [Nat.add_zero] at d0
      have d1 := World.grownBy.cell (ext_below hb) (hc' k hlt 1 (by omega)) (by simp)
      rw [y1] at d1
      have hlt' : (k : Int) < (n : Int) := by omega
      have hb5 : Below w.heap.size w wr.drew := below_drewN hb 1
      clear hc hc' X2
      go_wp2_with fail
      go_region_held3 (fun w' => w'.cell? ⟨b, o + k * 2, none⟩ = some (.slice ca0 s.key.length cp0) ∧ w'.cell? ⟨b, o + k * 2 + 1, none⟩ = some (.int .i64 s.index) ∧ w'.cell? ⟨b', o' + k * 2, none⟩ = some (.slice da0 s.key.length dp0) ∧ w'.cell? ⟨b', o' + k * 2 + 1, none⟩ = some (.int .i64 s.index)) (simp [*])
        ((go_at_call 88; refine (eqEl_T _ _ s _ cr0 dr0 (HLN.out k s hs)).mono ?_; rintro e w7 ⟨rfl, b7⟩; have ck0 := World.grownBy.cell (ext_below b7) (show wr.drew.cell? _ = _ from c0) (by simp); have ck1 := World.grownBy.cell (ext_below b7) (show wr.drew.cell? _ = _ from c1) (by simp); have dk0 := World.grownBy.cell (ext_below b7) (show wr.drew.cell? _ = _ from d0) (by simp); have dk1 := World.grownBy.cell (ext_below b7) (show wr.drew.cell? _ = _ from d1) (by simp)))
      all_goals
        go_wp2
        go_roundw
        case rel => exact ⟨k + 1, by omega, by go_num, hb5.trans (b7.mono hb5.size)⟩
        case measure => simp [intOf]; omega
    · have hkn : k = n := by omega
      subst hkn
      go_wp2
      go_ret
      exact ⟨rfl, hb⟩

end Go.Proofs.YtnklnhnjmikooaaGreat

namespace Go.Proofs.YtnklnhnjmikooaaGreat
open Go.RowKit

def zR (s : DRow) : Nat := s.key.length + s.val.length
def zT (s : DTomb) : Nat := s.key.length
def sR (rs : List DRow) : Nat := (rs.map zR).sum
def sT (rs : List DTomb) : Nat := (rs.map zT).sum

set_option maxHeartbeats 1000000 in
theorem szEl_R (kv vv : Value) (s : DRow) (l : Int) (w : World) (rk : RV w kv s.key) (rv : RV w vv s.val) (hl0 : 0 ≤ l) (hl : l ≤ 1048576) :
    Calls Tryz.prog 60 #[.agg #[kv, vv, .int .i64 s.turned, .int .i64 s.holder], .int .i64 l] w (SzPost l (s.key.length + s.val.length) w) := by
  have hE : ∀ w : World, ∀ o, Ext w (w.alloc o) := fun w o => World.grownBy_alloc _ _ _
  have hB : ∀ w : World, ∀ o, Below w.heap.size w (w.alloc o) := fun w o => (Below.refl _ w).alloc (Nat.le_refl _) _
  go_enter Tryz.func60, Tryz.ntmps60
  go_wp2_with fail
  refine (szB kv s.key l _ (rk.ext (hE _ _)) hl0 hl).mono ?_
  rintro e w1 ⟨rfl, rfl⟩
  by_cases h1 : l - s.key.length < 0
  · rw [if_pos (by omega)]
    go_wp2
    go_ret
    exact ⟨-1, rfl, .inl ⟨by omega, rfl⟩, hB _ _⟩
  · rw [if_neg (by omega)]
    go_wp2_with fail
    refine (szB vv s.val (l - s.key.length) _ (rv.ext (hE _ _)) (by omega) (by omega)).mono ?_
    rintro e w2 ⟨rfl, rfl⟩
    by_cases h2 : l - s.key.length - s.val.length < 0
    · rw [if_pos (by omega)]
      go_wp2
      go_ret
      exact ⟨-1, rfl, .inl ⟨by omega, rfl⟩, hB _ _⟩
    · rw [if_neg (by omega)]
      go_wp2
      go_ret
      exact ⟨l - s.key.length - s.val.length, rfl, .inr ⟨by omega, by omega⟩, hB _ _⟩

set_option maxHeartbeats 1000000 in
theorem szEl_T (kv : Value) (s : DTomb) (l : Int) (w : World) (rk : RV w kv s.key) (hl0 : 0 ≤ l) (hl : l ≤ 1048576) :
    Calls Tryz.prog 61 #[.agg #[kv, .int .i64 s.index], .int .i64 l] w (SzPost l s.key.length w) := by
  have hE : ∀ w : World, ∀ o, Ext w (w.alloc o) := fun w o => World.grownBy_alloc _ _ _
  have hB : ∀ w : World, ∀ o, Below w.heap.size w (w.alloc o) := fun w o => (Below.refl _ w).alloc (Nat.le_refl _) _
  go_enter Tryz.func61, Tryz.ntmps61
  go_wp2_with fail
  refine (szB kv s.key l _ (rk.ext (hE _ _)) hl0 hl).mono ?_
  rintro e w1 ⟨rfl, rfl⟩
  by_cases h1 : l - s.key.length < 0
  · rw [if_pos (by omega)]
    go_wp2
    go_ret
    exact ⟨-1, rfl, .inl ⟨by omega, rfl⟩, hB _ _⟩
  · rw [if_neg (by omega)]
    go_wp2
    go_ret
    exact ⟨l - s.key.length, rfl, .inr ⟨by omega, rfl⟩, hB _ _⟩

set_option maxHeartbeats 1000000 in
theorem szS_S (v : Value) (ss : List DSess) (l : Int) (w : World) (h : VSess w v ss) (hl0 : 0 ≤ l) (hl : l ≤ 1048576) :
    Calls Tryz.prog 24 #[v, .int .i64 l] w (SzPost l ss.length w) := by
  obtain ⟨C, ⟨a, cap, rfl, h1, h2, _⟩, _⟩ := h
  unfold maxLen at h2
  generalize ss.length = n at *
  by_cases hn : l - n < 0
  · go_enter Tryz.func24, Tryz.ntmps24
    go_wp2
    go_ret
    exact ⟨-1, rfl, .inl ⟨hn, rfl⟩, Below.refl _ _⟩
  · go_enter Tryz.func24, Tryz.ntmps24
    go_wp2
    go_ret
    exact ⟨l - n, rfl, .inr ⟨by omega, rfl⟩, Below.refl _ _⟩

set_option maxHeartbeats 1000000 in
theorem szS_L (v : Value) (ss : List DLast) (l : Int) (w : World) (h : VLasts w v ss) (hl0 : 0 ≤ l) (hl : l ≤ 1048576) :
    Calls Tryz.prog 25 #[v, .int .i64 l] w (SzPost l ss.length w) := by
  obtain ⟨C, ⟨a, cap, rfl, h1, h2, _⟩, _⟩ := h
  unfold maxLen at h2
  generalize ss.length = n at *
  by_cases hn : l - n < 0
  · go_enter Tryz.func25, Tryz.ntmps25
    go_wp2
    go_ret
    exact ⟨-1, rfl, .inl ⟨hn, rfl⟩, Below.refl _ _⟩
  · go_enter Tryz.func25, Tryz.ntmps25
    go_wp2
    go_ret
    exact ⟨l - n, rfl, .inr ⟨by omega, rfl⟩, Below.refl _ _⟩

set_option maxHeartbeats 2000000 in
theorem szS_R (v : Value) (ss : List DRow) (l : Int) (w : World) (h : VRows w v ss) (hl0 : 0 ≤ l) (hl : l ≤ 1048576) :
    Calls Tryz.prog 22 #[v, .int .i64 l] w (SzPost l (ss.length + sR ss) w) := by
  obtain ⟨C, ⟨a, cap, rfl, h1, h2, h3⟩, hC⟩ := h
  have HC : Hid (∀ i r, ss[i]? = some r → RV w (C i 0) r.key ∧ RV w (C i 1) r.val ∧ C i 2 = .int .i64 r.turned ∧ C i 3 = .int .i64 r.holder) := hC
  clear hC
  unfold maxLen at h2
  obtain ⟨n, hnn⟩ : ∃ n, n = ss.length := ⟨_, rfl⟩
  obtain ⟨q, hqq⟩ : ∃ q, q = sR ss := ⟨_, rfl⟩
  rw [← hnn] at h1 h3 ⊢
  rw [← hqq]
  have HN : Hid (n = ss.length) := hnn
  have HQ : Hid (q = sR ss) := hqq
  clear hnn hqq
  have H3 : Hid (0 < n → ∃ b o, a = some ⟨b, o, none⟩ ∧ b < w.heap.size ∧ ∀ i, i < n → ∀ j, j < 4 → w.cell? ⟨b, o + i * 4 + j, none⟩ = some (C i j)) := h3
  clear h3
  by_cases hn : l - n < 0
  · go_enter Tryz.func22, Tryz.ntmps22
    go_wp2
    go_ret
    exact ⟨-1, rfl, .inl ⟨by omega, rfl⟩, Below.refl _ _⟩
  go_enter Tryz.func22, Tryz.ntmps22
  go_wp2
  go_loopw [1, 5] (fun lv i wr => ∃ k : Nat, k ≤ n ∧ i = .int .i64 k ∧ ∃ L : Int, lv = .int .i64 L ∧ 0 ≤ L ∧ L ≤ 1048576 ∧ Hid (L = l - n - sR (ss.take k)) ∧ Below w.heap.size w wr) (fun _ i _ => n - (intOf i).toNat)
  case atStart => exact ⟨0, Nat.zero_le _, rfl, l - n, rfl, by omega, by omega, by show _ = _; simp [sR], Below.refl _ _⟩
  case round =>
    obtain ⟨k, hk, rfl, L, rfl, hL0, hL1, hL, hb⟩ := hrel
    by_cases hlt : k < n
    · obtain ⟨b, o, rfl, hbl, hc⟩ := H3.out (by omega)
      obtain ⟨s, hs⟩ : ∃ s, ss[k]? = some s := ⟨_, List.getElem?_eq_getElem (by have := HN.out; omega)⟩
      obtain ⟨e0, e1, e2, e3⟩ := HC.out k s hs
      have HZ : Hid (sR (ss.take (k + 1)) = sR (ss.take k) + zR s ∧ sR (ss.take (k + 1)) ≤ q) := ⟨sum_next zR ss k s hs, by rw [HQ.out]; exact sum_take zR ss (k + 1)⟩
      have c0 := World.grownBy.cell (ext_below hb) (hc k hlt 0 (by omega)) (by simp)
      have c1 := World.grownBy.cell (ext_below hb) (hc k hlt 1 (by omega)) (by simp)
      have c2 := World.grownBy.cell (ext_below hb) (hc k hlt 2 (by omega)) (by simp)
      have c3 := World.grownBy.cell (ext_below hb) (hc k hlt 3 (by omega)) (by simp)
      have r0 := e0.ext (ext_below hb)
      obtain ⟨a0, p0, x0, _, _, _⟩ := e0
      rw [x0] at r0 c0
      rw [Nat.add_zero] at c0
      have r1 := e1.ext (ext_below hb)
      obtain ⟨a1, p1, x1, _, _, _⟩ := e1
      rw [x1] at r1 c1
      rw [e2] at c2
      rw [e3] at c3
      have hlt' : (k : Int) < (n : Int) := by omega
      clear hc
      go_wp2_with fail
      refine (szEl_R _ _ s L wr r0 r1 hL0 hL1).mono ?_
      rintro e w2 ⟨r, rfl, hr, b2⟩
      have hb2 := hb.trans (b2.mono hb.size)
      have HZS : Hid (zR s = s.key.length + s.val.length) := rfl
      rcases hr with ⟨g1, rfl⟩ | ⟨g1, g2⟩
      · go_wp2
        go_ret
        refine ⟨-1, rfl, .inl ⟨?_, rfl⟩, hb2⟩
        have := HZ.out
        have := HZS.out
        have := hL.out
        omega
      · have hr0 : 0 ≤ r := by omega
        have hr1 : r ≤ 1048576 := by omega
        have HR : Hid (r = l - n - sR (ss.take (k + 1))) := by
          have := HZ.out
          have := HZS.out
          have := hL.out
          show r = _
          omega
        clear g1 g2
        go_wp2
        go_roundw
        case rel => exact ⟨k + 1, by omega, by go_num, r, rfl, hr0, hr1, HR, hb2⟩
        case measure => simp [intOf]; omega
    · have hkn : k = n := by omega
      subst hkn
      have HR : Hid (L = l - (k + q : Nat)) := by
        have := hL.out
        rw [List.take_of_length_le (by have := HN.out; omega)] at this
        have := HQ.out
        show L = _
        omega
      go_wp2
      go_ret
      exact ⟨L, rfl, .inr ⟨by have := HR.out; omega, HR.out⟩, hb⟩

set_option maxHeartbeats 2000000 in
theorem szS_T (v : Value) (ss : List DTomb) (l : Int) (w : World) (h : VTombs w v ss) (hl0 : 0 ≤ l) (hl : l ≤ 1048576) :
    Calls Tryz.prog 23 #[v, .int .i64 l] w (SzPost l (ss.length + sT ss) w) := by
  obtain ⟨C, ⟨a, cap, rfl, h1, h2, h3⟩, hC⟩ := h
  have HC : Hid (∀ i r, ss[i]? = some r → RV w (C i 0) r.key ∧ C i 1 = .int .i64 r.index) := hC
  clear hC
  unfold maxLen at h2
  obtain ⟨n, hnn⟩ : ∃ n, n = ss.length := ⟨_, rfl⟩
  obtain ⟨q, hqq⟩ : ∃ q, q = sT ss := ⟨_, rfl⟩
  rw [← hnn] at h1 h3 ⊢
  rw [← hqq]
  have HN : Hid (n = ss.length) := hnn
  have HQ : Hid (q = sT ss) := hqq
  clear hnn hqq
  have H3 : Hid (0 < n → ∃ b o, a = some ⟨b, o, none⟩ ∧ b < w.heap.size ∧ ∀ i, i < n → ∀ j, j < 2 → w.cell? ⟨b, o + i * 2 + j, none⟩ = some (C i j)) := h3
  clear h3
  by_cases hn : l - n < 0
  · go_enter Tryz.func23, Tryz.ntmps23
    go_wp2
    go_ret
    exact ⟨-1, rfl, .inl ⟨by omega, rfl⟩, Below.refl _ _⟩
  go_enter Tryz.func23, Tryz.ntmps23
  go_wp2
  go_loopw [1, 5] (fun lv i wr => ∃ k : Nat, k ≤ n ∧ i = .int .i64 k ∧ ∃ L : Int, lv = .int .i64 L ∧ 0 ≤ L ∧ L ≤ 1048576 ∧ Hid (L = l - n - sT (ss.take k)) ∧ Below w.heap.size w wr) (fun _ i _ => n - (intOf i).toNat)
  case atStart => exact ⟨0, Nat.zero_le _, rfl, l - n, rfl, by omega, by omega, by show _ = _; simp [sT], Below.refl _ _⟩
  case round =>
    obtain ⟨k, hk, rfl, L, rfl, hL0, hL1, hL, hb⟩ := hrel
    by_cases hlt : k < n
    · obtain ⟨b, o, rfl, hbl, hc⟩ := H3.out (by omega)
      obtain ⟨s, hs⟩ : ∃ s, ss[k]? = some s := ⟨_, List.getElem?_eq_getElem (by have := HN.out; omega)⟩
      obtain ⟨e0, e1⟩ := HC.out k s hs
      have HZ : Hid (sT (ss.take (k + 1)) = sT (ss.take k) + zT s ∧ sT (ss.take (k + 1)) ≤ q) := ⟨sum_next zT ss k s hs, by rw [HQ.out]; exact sum_take zT ss (k + 1)⟩
      have c0 := World.grownBy.cell (ext_below hb) (hc k hlt 0 (by omega)) (by simp)
      have c1 := World.grownBy.cell (ext_below hb) (hc k hlt 1 (by omega)) (by simp)
      have r0 := e0.ext (ext_below hb)
      obtain ⟨a0, p0, x0, _, _, _⟩ := e0
      rw [x0] at r0 c0
      rw [Nat.add_zero] at c0
      rw [e1] at c1
      have hlt' : (k : Int) < (n : Int) := by omega
      clear hc
      go_wp2_with fail
      refine (szEl_T _ s L wr r0 hL0 hL1).mono ?_
      rintro e w2 ⟨r, rfl, hr, b2⟩
      have hb2 := hb.trans (b2.mono hb.size)
      have HZS : Hid (zT s = s.key.length) := rfl
      rcases hr with ⟨g1, rfl⟩ | ⟨g1, g2⟩
      · go_wp2
        go_ret
        refine ⟨-1, rfl, .inl ⟨?_, rfl⟩, hb2⟩
        have := HZ.out
        have := HZS.out
        have := hL.out
        omega
      · have hr0 : 0 ≤ r := by omega
        have hr1 : r ≤ 1048576 := by omega
        have HR : Hid (r = l - n - sT (ss.take (k + 1))) := by
          have := HZ.out
          have := HZS.out
          have := hL.out
          show r = _
          omega
        clear g1 g2
        go_wp2
        go_roundw
        case rel => exact ⟨k + 1, by omega, by go_num, r, rfl, hr0, hr1, HR, hb2⟩
        case measure => simp [intOf]; omega
    · have hkn : k = n := by omega
      subst hkn
      have HR : Hid (L = l - (k + q : Nat)) := by
        have := hL.out
        rw [List.take_of_length_le (by have := HN.out; omega)] at this
        have := HQ.out
        show L = _
        omega
      go_wp2
      go_ret
      exact ⟨L, rfl, .inr ⟨by have := HR.out; omega, HR.out⟩, hb⟩

/-- The size of a state. -/
def zS (S : DState) : Nat := (S.rows.length + sR S.rows) + (S.tombs.length + sT S.tombs) + S.sess.length + S.lasts.length

set_option maxHeartbeats 2000000 in
theorem szSt (v : Value) (S : DState) (l : Int) (w : World) (h : VState w v S) (hl0 : 0 ≤ l) (hl : l ≤ 1048576) :
    Calls Tryz.prog 6 #[v, .int .i64 l] w (SzPost l (zS S) w) := by
  have hE : ∀ w : World, ∀ o, Ext w (w.alloc o) := fun w o => World.grownBy_alloc _ _ _
  have hB : ∀ w : World, ∀ o, Below w.heap.size w (w.alloc o) := fun w o => (Below.refl _ w).alloc (Nat.le_refl _) _
  obtain ⟨rv, tv, sv, lv, rfl, hr, ht, hs, hll⟩ := h
  have HZ : Hid (zS S = (S.rows.length + sR S.rows) + (S.tombs.length + sT S.tombs) + S.sess.length + S.lasts.length) := rfl
  generalize zS S = Z at HZ ⊢
  go_enter Tryz.func6, Tryz.ntmps6
  go_wp2_with fail
  have P0 := heap_alloc_new w (.cells #[.int .i64 S.index, rv, tv, .int .i64 S.lost, sv, lv] 32 (0, 0))
  have B0 := hB w (.cells #[.int .i64 S.index, rv, tv, .int .i64 S.lost, sv, lv] 32 (0, 0))
  have z0 : w.heap.size < (w.alloc (.cells #[.int .i64 S.index, rv, tv, .int .i64 S.lost, sv, lv] 32 (0, 0))).heap.size := by simp
  generalize w.alloc (.cells #[.int .i64 S.index, rv, tv, .int .i64 S.lost, sv, lv] 32 (0, 0)) = W0 at P0 B0 z0 ⊢
  refine (szS_R rv S.rows l W0 (hr.ext (ext_below B0)) (by omega) (by omega)).mono ?_
  rintro e W1 ⟨l1, rfl, hr1, b1⟩
  have B1 := B0.trans (b1.mono B0.size)
  have P1 := below_blk b1 z0 P0
  have z1 := Nat.lt_of_lt_of_le z0 b1.size
  obtain ⟨m0, hm0⟩ : ∃ m, m = ((((S.rows.length + sR S.rows)) : Nat) : Int) := ⟨_, rfl⟩
  rw [← hm0] at hr1
  have HM0 : Hid (m0 = ((((S.rows.length + sR S.rows)) : Nat) : Int) ∧ 0 ≤ m0) := ⟨hm0, by omega⟩
  clear hm0
  rcases hr1 with ⟨g1, rfl⟩ | ⟨g1, g2⟩
  · go_wp2
    go_ret
    refine ⟨-1, rfl, .inl ⟨?_, rfl⟩, B1⟩
    have := HZ.out
    have := HM0.out
    omega
  have y1 : 0 ≤ l1 ∧ l1 ≤ 1048576 := by
    have := HM0.out.2
    omega
  obtain ⟨v1, x1⟩ := y1
  have E1 : Hid (l1 = l - m0) := g2
  clear g1 g2 B0 P0 b1 z0
  obtain ⟨q0, _⟩ := at_block P1 2 _ rfl
  go_wp2_with fail
  clear q0
  refine (szS_T tv S.tombs l1 W1 (ht.ext (ext_below B1)) (by omega) (by omega)).mono ?_
  rintro e W2 ⟨l2, rfl, hr2, b2⟩
  have B2 := B1.trans (b2.mono B1.size)
  have P2 := below_blk b2 z1 P1
  have z2 := Nat.lt_of_lt_of_le z1 b2.size
  obtain ⟨m1, hm1⟩ : ∃ m, m = ((((S.tombs.length + sT S.tombs)) : Nat) : Int) := ⟨_, rfl⟩
  rw [← hm1] at hr2
  have HM1 : Hid (m1 = ((((S.tombs.length + sT S.tombs)) : Nat) : Int) ∧ 0 ≤ m1) := ⟨hm1, by omega⟩
  clear hm1
  rcases hr2 with ⟨g1, rfl⟩ | ⟨g1, g2⟩
  · go_wp2
    go_ret
    refine ⟨-1, rfl, .inl ⟨?_, rfl⟩, B2⟩
    have := HZ.out
    have := HM0.out
    have := HM1.out
    have := E1.out
    omega
  have y2 : 0 ≤ l2 ∧ l2 ≤ 1048576 := by
    have := HM0.out.2
    have := HM1.out.2
    omega
  obtain ⟨v2, x2⟩ := y2
  have E2 : Hid (l2 = l1 - m1) := g2
  clear g1 g2 B1 P1 b2 z1
  obtain ⟨q0, _⟩ := at_block P2 4 _ rfl
  go_wp2_with fail
  clear q0
  refine (szS_S sv S.sess l2 W2 (hs.ext (ext_below B2)) (by omega) (by omega)).mono ?_
  rintro e W3 ⟨l3, rfl, hr3, b3⟩
  have B3 := B2.trans (b3.mono B2.size)
  have P3 := below_blk b3 z2 P2
  have z3 := Nat.lt_of_lt_of_le z2 b3.size
  obtain ⟨m2, hm2⟩ : ∃ m, m = (((S.sess.length) : Nat) : Int) := ⟨_, rfl⟩
  rw [← hm2] at hr3
  have HM2 : Hid (m2 = (((S.sess.length) : Nat) : Int) ∧ 0 ≤ m2) := ⟨hm2, by omega⟩
  clear hm2
  rcases hr3 with ⟨g1, rfl⟩ | ⟨g1, g2⟩
  · go_wp2
    go_ret
    refine ⟨-1, rfl, .inl ⟨?_, rfl⟩, B3⟩
    have := HZ.out
    have := HM0.out
    have := HM1.out
    have := HM2.out
    have := E1.out
    have := E2.out
    omega
  have y3 : 0 ≤ l3 ∧ l3 ≤ 1048576 := by
    have := HM0.out.2
    have := HM1.out.2
    have := HM2.out.2
    omega
  obtain ⟨v3, x3⟩ := y3
  have E3 : Hid (l3 = l2 - m2) := g2
  clear g1 g2 B2 P2 b3 z2
  obtain ⟨q0, _⟩ := at_block P3 5 _ rfl
  go_wp2_with fail
  clear q0
  refine (szS_L lv S.lasts l3 W3 (hll.ext (ext_below B3)) (by omega) (by omega)).mono ?_
  rintro e W4 ⟨l4, rfl, hr4, b4⟩
  have B4 := B3.trans (b4.mono B3.size)
  have P4 := below_blk b4 z3 P3
  have z4 := Nat.lt_of_lt_of_le z3 b4.size
  obtain ⟨m3, hm3⟩ : ∃ m, m = (((S.lasts.length) : Nat) : Int) := ⟨_, rfl⟩
  rw [← hm3] at hr4
  have HM3 : Hid (m3 = (((S.lasts.length) : Nat) : Int) ∧ 0 ≤ m3) := ⟨hm3, by omega⟩
  clear hm3
  rcases hr4 with ⟨g1, rfl⟩ | ⟨g1, g2⟩
  · go_wp2
    go_ret
    refine ⟨-1, rfl, .inl ⟨?_, rfl⟩, B4⟩
    have := HZ.out
    have := HM0.out
    have := HM1.out
    have := HM2.out
    have := HM3.out
    have := E1.out
    have := E2.out
    have := E3.out
    omega
  have y4 : 0 ≤ l4 ∧ l4 ≤ 1048576 := by
    have := HM0.out.2
    have := HM1.out.2
    have := HM2.out.2
    have := HM3.out.2
    omega
  obtain ⟨v4, x4⟩ := y4
  have E4 : Hid (l4 = l3 - m3) := g2
  clear g1 g2 B3 P3 b4 z3
  obtain ⟨q0, _⟩ := at_block P4 0 _ rfl
  go_wp2
  go_ret
  have : l4 = l - Z := by
    have := HZ.out
    have := HM0.out
    have := HM1.out
    have := HM2.out
    have := HM3.out
    have := E1.out
    have := E2.out
    have := E3.out
    have := E4.out
    omega
  exact ⟨l4, rfl, .inr ⟨by omega, this⟩, B4⟩

end Go.Proofs.YtnklnhnjmikooaaGreat

namespace Go.Proofs.YtnklnhnjmikooaaGreat
open Go.RowKit

/-- The bytes of a state's texts are bytes. -/
def rngSt (S : DState) : Prop := (∀ (i : Nat) (r : DRow), S.rows[i]? = some r → (∀ x ∈ r.key, 0 ≤ x ∧ x ≤ 255) ∧ (∀ x ∈ r.val, 0 ≤ x ∧ x ≤ 255)) ∧ (∀ (i : Nat) (r : DTomb), S.tombs[i]? = some r → ∀ x ∈ r.key, 0 ≤ x ∧ x ≤ 255)
theorem rngSt_of {w : World} {v : Value} {S : DState} (h : VState w v S) : rngSt S := by
  obtain ⟨rv, tv, sv, lv, _, ⟨C, _, hC⟩, ⟨D, _, hD⟩, _, _⟩ := h
  exact ⟨fun i r hr => ⟨rv_rng (hC i r hr).1, rv_rng (hC i r hr).2.1⟩, fun i r hr => rv_rng (hD i r hr).1⟩

/-- Lengths within a size. -/
structure LenSt (S : DState) (B : Nat) : Prop where
  rows : S.rows.length ≤ B
  tombs : S.tombs.length ≤ B
  sess : S.sess.length ≤ B
  lasts : S.lasts.length ≤ B
  row : ∀ (i : Nat) (r : DRow), S.rows[i]? = some r → r.key.length ≤ B ∧ r.val.length ≤ B
  tomb : ∀ (i : Nat) (r : DTomb), S.tombs[i]? = some r → r.key.length ≤ B
theorem lenSt_of {S : DState} {B : Nat} (h : zS S ≤ B) : LenSt S B := by
  unfold zS sR sT at h
  refine ⟨by omega, by omega, by omega, by omega, fun i r hr => ?_, fun i r hr => ?_⟩
  · have := sum_mem zR S.rows i r hr
    unfold zR at *
    omega
  · have := sum_mem zT S.tombs i r hr
    unfold zT at *
    omega
theorem LenSt.mono {S : DState} {B B' : Nat} (h : LenSt S B) (hb : B ≤ B') : LenSt S B' :=
  ⟨Nat.le_trans h.rows hb, Nat.le_trans h.tombs hb, Nat.le_trans h.sess hb, Nat.le_trans h.lasts hb, fun i r hr => ⟨Nat.le_trans (h.row i r hr).1 hb, Nat.le_trans (h.row i r hr).2 hb⟩, fun i r hr => Nat.le_trans (h.tomb i r hr) hb⟩

/-- The block g holds the elements of a list that the call made; their texts lie behind it. -/
def OR (w : World) (g : Nat) (ss : List DRow) : Prop := ∃ F, Blk w g 116 4 ss.length ss.length F ∧ ∀ i s, ss[i]? = some s → Ow w (g + 1) (F i 0) s.key ∧ Ow w (g + 1) (F i 1) s.val ∧ F i 2 = .int .i64 s.turned ∧ F i 3 = .int .i64 s.holder
theorem OR.grown {w w' : World} {g : Nat} {row : Option Nat} {ss : List DRow} (h : OR w g ss) (hg : w.grownBy w' row) (hx : ∀ x, row = some x → x < g) : OR w' g ss := by
  obtain ⟨F, hB, hF⟩ := h
  have KO : ∀ {v : Value} (xs : List Int), Ow w (g + 1) v xs → v.ownBlock = none ∨ v.ownBlock ≠ row := fun {v} xs o => by
    cases hv : v.ownBlock with
    | none => exact .inl rfl
    | some b =>
      right
      intro e
      have := (o.lt b hv).1
      have := hx b e.symm
      omega
  refine ⟨F, blk_kept hB (hg.block g (blk_lt hB) (fun e => ?_)), fun i s hi => ⟨(hF i s hi).1.kept hg (KO _ (hF i s hi).1), (hF i s hi).2.1.kept hg (KO _ (hF i s hi).2.1), (hF i s hi).2.2⟩⟩
  have := hx g e.symm
  omega
theorem OR.set {w : World} {g x j : Nat} {u : Value} {ss : List DRow} (h : OR w g ss) (hx : x < g) : OR (w.setCell ⟨x, j, none⟩ u) g ss := h.grown (set_grown w x j u) (fun y hy => by cases hy; exact hx)
theorem OR.ext {w w' : World} {g : Nat} {ss : List DRow} (h : OR w g ss) (e : Ext w w') : OR w' g ss := h.grown e (fun y hy => by cases hy)
/-- The block g holds the elements of a list that the call made; their texts lie behind it. -/
def OT (w : World) (g : Nat) (ss : List DTomb) : Prop := ∃ F, Blk w g 118 2 ss.length ss.length F ∧ ∀ i s, ss[i]? = some s → Ow w (g + 1) (F i 0) s.key ∧ F i 1 = .int .i64 s.index
theorem OT.grown {w w' : World} {g : Nat} {row : Option Nat} {ss : List DTomb} (h : OT w g ss) (hg : w.grownBy w' row) (hx : ∀ x, row = some x → x < g) : OT w' g ss := by
  obtain ⟨F, hB, hF⟩ := h
  have KO : ∀ {v : Value} (xs : List Int), Ow w (g + 1) v xs → v.ownBlock = none ∨ v.ownBlock ≠ row := fun {v} xs o => by
    cases hv : v.ownBlock with
    | none => exact .inl rfl
    | some b =>
      right
      intro e
      have := (o.lt b hv).1
      have := hx b e.symm
      omega
  refine ⟨F, blk_kept hB (hg.block g (blk_lt hB) (fun e => ?_)), fun i s hi => ⟨(hF i s hi).1.kept hg (KO _ (hF i s hi).1), (hF i s hi).2⟩⟩
  have := hx g e.symm
  omega
theorem OT.set {w : World} {g x j : Nat} {u : Value} {ss : List DTomb} (h : OT w g ss) (hx : x < g) : OT (w.setCell ⟨x, j, none⟩ u) g ss := h.grown (set_grown w x j u) (fun y hy => by cases hy; exact hx)
theorem OT.ext {w w' : World} {g : Nat} {ss : List DTomb} (h : OT w g ss) (e : Ext w w') : OT w' g ss := h.grown e (fun y hy => by cases hy)
/-- The block g holds the elements of a list that the call made; their texts lie behind it. -/
def OS (w : World) (g : Nat) (ss : List DSess) : Prop := ∃ F, Blk w g 121 2 ss.length ss.length F ∧ ∀ i s, ss[i]? = some s → F i 0 = .int .i64 s.id ∧ F i 1 = .bool s.del
theorem OS.grown {w w' : World} {g : Nat} {row : Option Nat} {ss : List DSess} (h : OS w g ss) (hg : w.grownBy w' row) (hx : ∀ x, row = some x → x < g) : OS w' g ss := by
  obtain ⟨F, hB, hF⟩ := h
  refine ⟨F, blk_kept hB (hg.block g (blk_lt hB) (fun e => ?_)), fun i s hi => hF i s hi⟩
  have := hx g e.symm
  omega
theorem OS.set {w : World} {g x j : Nat} {u : Value} {ss : List DSess} (h : OS w g ss) (hx : x < g) : OS (w.setCell ⟨x, j, none⟩ u) g ss := h.grown (set_grown w x j u) (fun y hy => by cases hy; exact hx)
theorem OS.ext {w w' : World} {g : Nat} {ss : List DSess} (h : OS w g ss) (e : Ext w w') : OS w' g ss := h.grown e (fun y hy => by cases hy)
/-- The block g holds the elements of a list that the call made; their texts lie behind it. -/
def OL (w : World) (g : Nat) (ss : List DLast) : Prop := ∃ F, Blk w g 125 4 ss.length ss.length F ∧ ∀ i s, ss[i]? = some s → F i 0 = .int .i64 s.client ∧ F i 1 = .int .i64 s.req ∧ F i 2 = .int .i64 s.code ∧ F i 3 = .int .i64 s.index
theorem OL.grown {w w' : World} {g : Nat} {row : Option Nat} {ss : List DLast} (h : OL w g ss) (hg : w.grownBy w' row) (hx : ∀ x, row = some x → x < g) : OL w' g ss := by
  obtain ⟨F, hB, hF⟩ := h
  refine ⟨F, blk_kept hB (hg.block g (blk_lt hB) (fun e => ?_)), fun i s hi => hF i s hi⟩
  have := hx g e.symm
  omega
theorem OL.set {w : World} {g x j : Nat} {u : Value} {ss : List DLast} (h : OL w g ss) (hx : x < g) : OL (w.setCell ⟨x, j, none⟩ u) g ss := h.grown (set_grown w x j u) (fun y hy => by cases hy; exact hx)
theorem OL.ext {w w' : World} {g : Nat} {ss : List DLast} (h : OL w g ss) (e : Ext w w') : OL w' g ss := h.grown e (fun y hy => by cases hy)
theorem OR.v {w : World} {g : Nat} {ss : List DRow} (h : OR w g ss) (hm : ss.length ≤ 1048576) (hr : ∀ (i : Nat) (r : DRow), ss[i]? = some r → (∀ x ∈ r.key, 0 ≤ x ∧ x ≤ 255) ∧ (∀ x ∈ r.val, 0 ≤ x ∧ x ≤ 255)) : VRows w (.slice (some ⟨g, 0, none⟩) ss.length ss.length) ss := by
  obtain ⟨F, hB, hF⟩ := h
  exact ⟨F, blk_SL hB (by unfold maxLen; omega), fun i r hi => ⟨(hF i r hi).1.rv (hr i r hi).1, (hF i r hi).2.1.rv (hr i r hi).2, (hF i r hi).2.2⟩⟩
theorem OT.v {w : World} {g : Nat} {ss : List DTomb} (h : OT w g ss) (hm : ss.length ≤ 1048576) (hr : ∀ (i : Nat) (r : DTomb), ss[i]? = some r → (∀ x ∈ r.key, 0 ≤ x ∧ x ≤ 255)) : VTombs w (.slice (some ⟨g, 0, none⟩) ss.length ss.length) ss := by
  obtain ⟨F, hB, hF⟩ := h
  exact ⟨F, blk_SL hB (by unfold maxLen; omega), fun i r hi => ⟨(hF i r hi).1.rv (hr i r hi), (hF i r hi).2⟩⟩
theorem OS.v {w : World} {g : Nat} {ss : List DSess} (h : OS w g ss) (hm : ss.length ≤ 1048576) : VSess w (.slice (some ⟨g, 0, none⟩) ss.length ss.length) ss := by
  obtain ⟨F, hB, hF⟩ := h
  exact ⟨F, blk_SL hB (by unfold maxLen; omega), hF⟩
theorem OL.v {w : World} {g : Nat} {ss : List DLast} (h : OL w g ss) (hm : ss.length ≤ 1048576) : VLasts w (.slice (some ⟨g, 0, none⟩) ss.length ss.length) ss := by
  obtain ⟨F, hB, hF⟩ := h
  exact ⟨F, blk_SL hB (by unfold maxLen; omega), hF⟩

/-- A state that the call made, in memory from block base on. -/
def OSt (w : World) (base gr gt gs gl : Nat) (S : DState) : Prop := (base ≤ gr ∧ OR w gr S.rows) ∧ (base ≤ gt ∧ OT w gt S.tombs) ∧ (base ≤ gs ∧ OS w gs S.sess) ∧ (base ≤ gl ∧ OL w gl S.lasts)
/-- The value of such a state. -/
def stV (gr gt gs gl : Nat) (S : DState) : Value := .agg #[.int .i64 S.index, .slice (some ⟨gr, 0, none⟩) S.rows.length S.rows.length, .slice (some ⟨gt, 0, none⟩) S.tombs.length S.tombs.length, .int .i64 S.lost, .slice (some ⟨gs, 0, none⟩) S.sess.length S.sess.length, .slice (some ⟨gl, 0, none⟩) S.lasts.length S.lasts.length]
theorem OSt.v {w : World} {base gr gt gs gl : Nat} {S : DState} (h : OSt w base gr gt gs gl S) (hl : LenSt S 1048576) (hr : rngSt S) : VState w (stV gr gt gs gl S) S :=
  ⟨_, _, _, _, rfl, h.1.2.v hl.rows hr.1, h.2.1.2.v hl.tombs hr.2, h.2.2.1.2.v hl.sess, h.2.2.2.2.v hl.lasts⟩
theorem OSt.ext {w w' : World} {base gr gt gs gl : Nat} {S : DState} (h : OSt w base gr gt gs gl S) (e : Ext w w') : OSt w' base gr gt gs gl S :=
  ⟨⟨h.1.1, h.1.2.ext e⟩, ⟨h.2.1.1, h.2.1.2.ext e⟩, ⟨h.2.2.1.1, h.2.2.1.2.ext e⟩, ⟨h.2.2.2.1, h.2.2.2.2.ext e⟩⟩

set_option maxHeartbeats 4000000 in
theorem toSt (v : Value) (S : DState) (w : World) (h : VState w v S) (hl : LenSt S 1048576) :
    Calls Tryz.prog 9 #[v] w fun e w' => ∃ gr gt gs gl, e = .returned (stV gr gt gs gl S) ∧ OSt w' w.heap.size gr gt gs gl S ∧ Below w.heap.size w w' := by
  have hE : ∀ w : World, ∀ o, Ext w (w.alloc o) := fun w o => World.grownBy_alloc _ _ _
  have x3 : ∀ a b c, Ext w (((w.alloc a).alloc b).alloc c) := fun a b c => ((hE _ _).tr (hE _ _)).tr (hE _ _)
  obtain ⟨rv, tv, sv, lv, rfl, hr, ht, hs, hll⟩ := h
  go_enter Tryz.func9, Tryz.ntmps9
  go_wp2_with fail
  have B0 : ∀ a b c, Below w.heap.size w (((w.alloc a).alloc b).alloc c) := fun a b c => (((Below.refl _ w).alloc (Nat.le_refl _) _).alloc (by simp) _).alloc (by simp; omega) _
  refine (toS_R rv S.rows _ (hr.ext (x3 _ _ _)) hl.rows hl.row).mono ?_
  rintro e w1 ⟨F1, rfl, k1, f1, b1⟩
  have hs1 : w.heap.size + 3 ≤ w1.heap.size := by have := b1.size; simp at this; omega
  have PA := below_blk b1 (by simp; omega) (h3_0 w _ _ _)
  have RA := below_blk b1 (by simp) (h3_1 w _ _ _)
  have TA := below_blk b1 (by simp) (h3_2 w _ _ _)
  have BA := (B0 _ _ _).trans (b1.mono (by simp; omega))
  have oR : OR w1 (w.heap.size + 1 + 1 + 1) S.rows := ⟨F1, by simpa using k1, by simpa using f1⟩
  have e1 : (((w.alloc (.cells #[.int .i64 S.index, rv, tv, .int .i64 S.lost, sv, lv] 32 (0, 0))).alloc (.cells #[.int .i64 0, .slice none 0 0, .slice none 0 0, .int .i64 0, .slice none 0 0, .slice none 0 0] 48 (0, 0))).alloc (.cells #[.int .i64 S.index, .slice none 0 0, .slice none 0 0, .int .i64 0, .slice none 0 0, .slice none 0 0] 48 (0, 0))).heap.size = w.heap.size + 1 + 1 + 1 := by simp
  rw [e1]
  clear k1 f1 b1 e1
  obtain ⟨q0, h0⟩ := at_block TA 1 _ rfl
  have pp := (at_block PA 2 _ rfl).1
  go_wp2_with fail
  have TB0 : (w1.setCell ⟨w.heap.size + 1 + 1, 1, none⟩ (.slice (some ⟨w.heap.size + 1 + 1 + 1, 0, none⟩) S.rows.length S.rows.length)).heap[w.heap.size + 1 + 1]? = some (.cells #[.int .i64 S.index, .slice (some ⟨w.heap.size + 1 + 1 + 1, 0, none⟩) S.rows.length S.rows.length, .slice none 0 0, .int .i64 0, .slice none 0 0, .slice none 0 0] 48 (0, 0)) := (set_block TA 1 (.slice (some ⟨w.heap.size + 1 + 1 + 1, 0, none⟩) S.rows.length S.rows.length))
  have PB0 := (set_other (w.heap.size + 1 + 1) 1 (.slice (some ⟨w.heap.size + 1 + 1 + 1, 0, none⟩) S.rows.length S.rows.length) (by omega) PA)
  have RB0 := (set_other (w.heap.size + 1 + 1) 1 (.slice (some ⟨w.heap.size + 1 + 1 + 1, 0, none⟩) S.rows.length S.rows.length) (by omega) RA)
  have BB0 : Below w.heap.size w (w1.setCell ⟨w.heap.size + 1 + 1, 1, none⟩ (.slice (some ⟨w.heap.size + 1 + 1 + 1, 0, none⟩) S.rows.length S.rows.length)) := (BA.setCell (by simp; omega) _)
  have zB : w.heap.size + 3 ≤ (w1.setCell ⟨w.heap.size + 1 + 1, 1, none⟩ (.slice (some ⟨w.heap.size + 1 + 1 + 1, 0, none⟩) S.rows.length S.rows.length)).heap.size := by simp; omega
  have oRB := (oR.set (x := w.heap.size + 1 + 1) (j := 1) (u := .slice (some ⟨w.heap.size + 1 + 1 + 1, 0, none⟩) S.rows.length S.rows.length) (by omega))
  generalize (w1.setCell ⟨w.heap.size + 1 + 1, 1, none⟩ (.slice (some ⟨w.heap.size + 1 + 1 + 1, 0, none⟩) S.rows.length S.rows.length)) = WB at TB0 PB0 RB0 BB0 zB oRB ⊢
  clear oR q0 h0 pp PA RA TA BA
  refine (toS_T tv S.tombs WB (ht.ext (ext_below BB0)) hl.tombs hl.tomb).mono ?_
  rintro e w2 ⟨FB, rfl, kB, fB, bB⟩
  have PB := below_blk bB (by omega) PB0
  have RB := below_blk bB (by omega) RB0
  have TB := below_blk bB (by omega) TB0
  have BB := BB0.trans (bB.mono BB0.size)
  have oT : OT w2 WB.heap.size S.tombs := ⟨FB, kB, fB⟩
  have yB := bB.size
  generalize WB.heap.size = gB at zB yB oT ⊢
  have oR := oRB.ext (ext_below bB)
  clear kB fB bB TB0 PB0 RB0 BB0 oRB
  obtain ⟨q0, h0⟩ := at_block TB 2 _ rfl
  have pp := (at_block PB 4 _ rfl).1
  have p3 := (at_block PB 3 _ rfl).1
  obtain ⟨q3, h3⟩ := at_block TB 3 _ rfl
  go_wp2_with fail
  have TC0 : ((w2.setCell ⟨w.heap.size + 1 + 1, 2, none⟩ (.slice (some ⟨gB, 0, none⟩) S.tombs.length S.tombs.length)).setCell ⟨w.heap.size + 1 + 1, 3, none⟩ (.int .i64 S.lost)).heap[w.heap.size + 1 + 1]? = some (.cells #[.int .i64 S.index, .slice (some ⟨w.heap.size + 1 + 1 + 1, 0, none⟩) S.rows.length S.rows.length, .slice (some ⟨gB, 0, none⟩) S.tombs.length S.tombs.length, .int .i64 S.lost, .slice none 0 0, .slice none 0 0] 48 (0, 0)) := (set_block (set_block TB 2 (.slice (some ⟨gB, 0, none⟩) S.tombs.length S.tombs.length)) 3 (.int .i64 S.lost))
  have PC0 := (set_other (w.heap.size + 1 + 1) 3 (.int .i64 S.lost) (by omega) (set_other (w.heap.size + 1 + 1) 2 (.slice (some ⟨gB, 0, none⟩) S.tombs.length S.tombs.length) (by omega) PB))
  have RC0 := (set_other (w.heap.size + 1 + 1) 3 (.int .i64 S.lost) (by omega) (set_other (w.heap.size + 1 + 1) 2 (.slice (some ⟨gB, 0, none⟩) S.tombs.length S.tombs.length) (by omega) RB))
  have BC0 : Below w.heap.size w ((w2.setCell ⟨w.heap.size + 1 + 1, 2, none⟩ (.slice (some ⟨gB, 0, none⟩) S.tombs.length S.tombs.length)).setCell ⟨w.heap.size + 1 + 1, 3, none⟩ (.int .i64 S.lost)) := ((BB.setCell (by simp; omega) _).setCell (by simp; omega) _)
  have zC : w.heap.size + 3 ≤ ((w2.setCell ⟨w.heap.size + 1 + 1, 2, none⟩ (.slice (some ⟨gB, 0, none⟩) S.tombs.length S.tombs.length)).setCell ⟨w.heap.size + 1 + 1, 3, none⟩ (.int .i64 S.lost)).heap.size := by simp; omega
  have oRC := ((oR.set (x := w.heap.size + 1 + 1) (j := 2) (u := .slice (some ⟨gB, 0, none⟩) S.tombs.length S.tombs.length) (by omega)).set (x := w.heap.size + 1 + 1) (j := 3) (u := .int .i64 S.lost) (by omega))
  have oTC := ((oT.set (x := w.heap.size + 1 + 1) (j := 2) (u := .slice (some ⟨gB, 0, none⟩) S.tombs.length S.tombs.length) (by omega)).set (x := w.heap.size + 1 + 1) (j := 3) (u := .int .i64 S.lost) (by omega))
  generalize ((w2.setCell ⟨w.heap.size + 1 + 1, 2, none⟩ (.slice (some ⟨gB, 0, none⟩) S.tombs.length S.tombs.length)).setCell ⟨w.heap.size + 1 + 1, 3, none⟩ (.int .i64 S.lost)) = WC at TC0 PC0 RC0 BC0 zC oRC oTC ⊢
  clear oR oT q0 h0 pp PB RB TB BB p3 q3 h3
  refine (toS_S sv S.sess WC (hs.ext (ext_below BC0)) hl.sess).mono ?_
  rintro e w3 ⟨FC, rfl, kC, fC, bC⟩
  have PC := below_blk bC (by omega) PC0
  have RC := below_blk bC (by omega) RC0
  have TC := below_blk bC (by omega) TC0
  have BC := BC0.trans (bC.mono BC0.size)
  have oS : OS w3 WC.heap.size S.sess := ⟨FC, kC, fC⟩
  have yC := bC.size
  generalize WC.heap.size = gC at zC yC oS ⊢
  have oR := oRC.ext (ext_below bC)
  have oT := oTC.ext (ext_below bC)
  clear kC fC bC TC0 PC0 RC0 BC0 oRC oTC
  obtain ⟨q0, h0⟩ := at_block TC 4 _ rfl
  have pp := (at_block PC 5 _ rfl).1
  go_wp2_with fail
  have TD0 : (w3.setCell ⟨w.heap.size + 1 + 1, 4, none⟩ (.slice (some ⟨gC, 0, none⟩) S.sess.length S.sess.length)).heap[w.heap.size + 1 + 1]? = some (.cells #[.int .i64 S.index, .slice (some ⟨w.heap.size + 1 + 1 + 1, 0, none⟩) S.rows.length S.rows.length, .slice (some ⟨gB, 0, none⟩) S.tombs.length S.tombs.length, .int .i64 S.lost, .slice (some ⟨gC, 0, none⟩) S.sess.length S.sess.length, .slice none 0 0] 48 (0, 0)) := (set_block TC 4 (.slice (some ⟨gC, 0, none⟩) S.sess.length S.sess.length))
  have PD0 := (set_other (w.heap.size + 1 + 1) 4 (.slice (some ⟨gC, 0, none⟩) S.sess.length S.sess.length) (by omega) PC)
  have RD0 := (set_other (w.heap.size + 1 + 1) 4 (.slice (some ⟨gC, 0, none⟩) S.sess.length S.sess.length) (by omega) RC)
  have BD0 : Below w.heap.size w (w3.setCell ⟨w.heap.size + 1 + 1, 4, none⟩ (.slice (some ⟨gC, 0, none⟩) S.sess.length S.sess.length)) := (BC.setCell (by simp; omega) _)
  have zD : w.heap.size + 3 ≤ (w3.setCell ⟨w.heap.size + 1 + 1, 4, none⟩ (.slice (some ⟨gC, 0, none⟩) S.sess.length S.sess.length)).heap.size := by simp; omega
  have oRD := (oR.set (x := w.heap.size + 1 + 1) (j := 4) (u := .slice (some ⟨gC, 0, none⟩) S.sess.length S.sess.length) (by omega))
  have oTD := (oT.set (x := w.heap.size + 1 + 1) (j := 4) (u := .slice (some ⟨gC, 0, none⟩) S.sess.length S.sess.length) (by omega))
  have oSD := (oS.set (x := w.heap.size + 1 + 1) (j := 4) (u := .slice (some ⟨gC, 0, none⟩) S.sess.length S.sess.length) (by omega))
  generalize (w3.setCell ⟨w.heap.size + 1 + 1, 4, none⟩ (.slice (some ⟨gC, 0, none⟩) S.sess.length S.sess.length)) = WD at TD0 PD0 RD0 BD0 zD oRD oTD oSD ⊢
  clear oR oT oS q0 h0 pp PC RC TC BC
  refine (toS_L lv S.lasts WD (hll.ext (ext_below BD0)) hl.lasts).mono ?_
  rintro e w4 ⟨FD, rfl, kD, fD, bD⟩
  have PD := below_blk bD (by omega) PD0
  have RD := below_blk bD (by omega) RD0
  have TD := below_blk bD (by omega) TD0
  have BD := BD0.trans (bD.mono BD0.size)
  have oL : OL w4 WD.heap.size S.lasts := ⟨FD, kD, fD⟩
  have yD := bD.size
  generalize WD.heap.size = gD at zD yD oL ⊢
  have oR := oRD.ext (ext_below bD)
  have oT := oTD.ext (ext_below bD)
  have oS := oSD.ext (ext_below bD)
  clear kD fD bD TD0 PD0 RD0 BD0 oRD oTD oSD
  obtain ⟨q0, h0⟩ := at_block TD 0 _ rfl
  obtain ⟨q1, h1⟩ := at_block TD 1 _ rfl
  obtain ⟨q2, h2⟩ := at_block TD 2 _ rfl
  obtain ⟨q3, h3⟩ := at_block TD 3 _ rfl
  obtain ⟨q4, h4⟩ := at_block TD 4 _ rfl
  obtain ⟨q5, h5⟩ := at_block TD 5 _ rfl
  obtain ⟨r0, y0⟩ := at_block RD 0 _ rfl
  obtain ⟨r1, y1⟩ := at_block RD 1 _ rfl
  obtain ⟨r2, y2⟩ := at_block RD 2 _ rfl
  obtain ⟨r3, y3⟩ := at_block RD 3 _ rfl
  obtain ⟨r4, y4⟩ := at_block RD 4 _ rfl
  obtain ⟨r5, y5⟩ := at_block RD 5 _ rfl
  go_wp2
  refine bodyPost_ret (v := stV (w.heap.size + 1 + 1 + 1) gB gC gD S) (by simp [stV, results, Tryz.results9, go_sem, r0, r1, r2, r3, r4, r5]) rfl ?_
  refine ⟨_, _, _, _, rfl, ⟨⟨by omega, ?_⟩, ⟨by omega, ?_⟩, ⟨by omega, ?_⟩, ⟨by omega, ?_⟩⟩, ?_⟩
  · repeat (refine OR.set ?_ (by omega))
    exact oR
  · repeat (refine OT.set ?_ (by omega))
    exact oT
  · repeat (refine OS.set ?_ (by omega))
    exact oS
  · repeat (refine OL.set ?_ (by omega))
    exact oL
  · repeat (refine Below.setCell ?_ (by simp <;> omega) _)
    exact BD
set_option maxHeartbeats 2000000 in
theorem eqSt (v u : Value) (S : DState) (w : World) (h : VState w v S) (k : VState w u S) (hl : LenSt S 1048576) :
    Calls Tryz.prog 12 #[v, u] w fun e w' => e = .returned (.bool true) ∧ Below w.heap.size w w' := by
  have hE : ∀ w : World, ∀ o, Ext w (w.alloc o) := fun w o => World.grownBy_alloc _ _ _
  have x2 : ∀ a b, Ext w ((w.alloc a).alloc b) := fun a b => (hE _ _).tr (hE _ _)
  have B0 : ∀ a b, Below w.heap.size w ((w.alloc a).alloc b) := fun a b => ((Below.refl _ w).alloc (Nat.le_refl _) _).alloc (by simp) _
  have hl2 := hl.mono (B' := 2097152) (by omega)
  obtain ⟨rv, tv, sv, lv, rfl, hr, ht, hs, hll⟩ := h
  obtain ⟨rv', tv', sv', lv', rfl, hr', ht', hs', hll'⟩ := k
  go_enter Tryz.func12, Tryz.ntmps12
  go_wp2_with fail
  refine (eqS_R rv rv' S.rows _ (hr.ext (x2 _ _)) (hr'.ext (x2 _ _)) hl.rows hl2.row).mono ?_
  rintro e w1 ⟨rfl, b1⟩
  have PA := below_blk (k := w.heap.size) b1 (by simp; omega) ((Below.heap_alloc (w.alloc _) _ w.heap.size (by simp)).trans (heap_alloc_new w _))
  have QA := below_blk b1 (by simp) (heap_alloc_new (w.alloc (.cells #[.int .i64 S.index, rv, tv, .int .i64 S.lost, sv, lv] 48 (0, 0))) (.cells #[.int .i64 S.index, rv', tv', .int .i64 S.lost, sv', lv'] 48 (0, 0)))
  rw [show (w.alloc (.cells #[.int .i64 S.index, rv, tv, .int .i64 S.lost, sv, lv] 48 (0, 0))).heap.size = w.heap.size + 1 by simp] at QA
  have z1 : w.heap.size + 2 ≤ w1.heap.size := by have := b1.size; simp at this; omega
  have B1 := (B0 _ _).trans (b1.mono (by simp; omega))
  clear b1
  have p2 := (at_block PA 2 _ rfl).1
  have q2 := (at_block QA 2 _ rfl).1
  go_wp2_with fail
  refine (eqS_T tv tv' S.tombs _ (ht.ext (ext_below B1)) (ht'.ext (ext_below B1)) hl.tombs hl2.tomb).mono ?_
  rintro e w2 ⟨rfl, b2⟩
  have PB := below_blk b2 (by omega) PA
  have QB := below_blk b2 (by omega) QA
  have B2 := B1.trans (b2.mono B1.size)
  have z2 := Nat.le_trans z1 b2.size
  clear b2 p2 q2
  have p3 := (at_block PB 3 _ rfl).1
  have q3 := (at_block QB 3 _ rfl).1
  have p4 := (at_block PB 4 _ rfl).1
  have q4 := (at_block QB 4 _ rfl).1
  go_wp2_with fail
  refine (eqS_S sv sv' S.sess _ (hs.ext (ext_below B2)) (hs'.ext (ext_below B2)) hl.sess).mono ?_
  rintro e w3 ⟨rfl, b3⟩
  have PC := below_blk b3 (by omega) PB
  have QC := below_blk b3 (by omega) QB
  have B3 := B2.trans (b3.mono B2.size)
  have z3 := Nat.le_trans z2 b3.size
  clear b3 p3 q3 p4 q4
  have p5 := (at_block PC 5 _ rfl).1
  have q5 := (at_block QC 5 _ rfl).1
  go_wp2_with fail
  refine (eqS_L lv lv' S.lasts _ (hll.ext (ext_below B3)) (hll'.ext (ext_below B3)) hl.lasts).mono ?_
  rintro e w4 ⟨rfl, b4⟩
  have PD := below_blk b4 (by omega) PC
  have QD := below_blk b4 (by omega) QC
  have B4 := B3.trans (b4.mono B3.size)
  have z4 := Nat.le_trans z3 b4.size
  clear b4 p5 q5
  go_wp2
  go_ret
  exact ⟨rfl, B4⟩

end Go.Proofs.YtnklnhnjmikooaaGreat

namespace Go.Proofs.YtnklnhnjmikooaaGreat
open Go.RowKit

/-- Of the blocks that lay there only some of those from lo up to hi have turned: rows of bytes (their sizes have not), and the block og. -/
structure Mk (lo hi : Nat) (og : Option Nat) (w w' : World) : Prop where
  os : w'.os = w.os
  tape : w'.tape = w.tape
  output : w'.output = w.output
  size : w.heap.size ≤ w'.heap.size
  out : ∀ k, k < w.heap.size → (k < lo ∨ hi ≤ k) → w'.heap[k]? = w.heap[k]?
  byt : ∀ (k : Nat) (cur : Array Value), w.heap[k]? = some (.cells cur 5 (0, 0)) → ∃ cur' : Array Value, w'.heap[k]? = some (.cells cur' 5 (0, 0)) ∧ cur'.size = cur.size
  oth : ∀ (k : Nat) (cur : Array Value) (t : TypeId), t ≠ 5 → some k ≠ og → w.heap[k]? = some (.cells cur t (0, 0)) → w'.heap[k]? = some (.cells cur t (0, 0))

theorem Mk.re (lo hi : Nat) (og : Option Nat) (w : World) : Mk lo hi og w w := ⟨rfl, rfl, rfl, Nat.le_refl _, fun _ _ _ => rfl, fun _ cur h => ⟨cur, h, rfl⟩, fun _ _ _ _ _ h => h⟩
theorem Mk.tr {lo hi : Nat} {og : Option Nat} {a b c : World} (h : Mk lo hi og a b) (k : Mk lo hi og b c) : Mk lo hi og a c :=
  ⟨k.os.trans h.os, k.tape.trans h.tape, k.output.trans h.output, Nat.le_trans h.size k.size, fun i hi' ho => (k.out i (Nat.lt_of_lt_of_le hi' h.size) ho).trans (h.out i hi' ho),
   fun i cur hc => by
     obtain ⟨c1, h1, s1⟩ := h.byt i cur hc
     obtain ⟨c2, h2, s2⟩ := k.byt i c1 h1
     exact ⟨c2, h2, s2.trans s1⟩,
   fun i cur t ht ho hc => k.oth i cur t ht ho (h.oth i cur t ht ho hc)⟩
theorem Mk.some {lo hi : Nat} {og : Option Nat} {a b : World} (h : Mk lo hi none a b) : Mk lo hi og a b :=
  ⟨h.os, h.tape, h.output, h.size, h.out, h.byt, fun i cur t ht _ hc => h.oth i cur t ht (by simp) hc⟩

theorem mk_set {lo hi x j : Nat} {og : Option Nat} {w : World} {cur : Array Value} {t : TypeId} (u : Value) (hx : w.heap[x]? = some (.cells cur t (0, 0))) (h1 : lo ≤ x) (h2 : x < hi) (ht : t = 5 ∨ some x = og) : Mk lo hi og w (w.setCell ⟨x, j, none⟩ u) := by
  have hg := set_grown w x j u
  refine ⟨hg.os, hg.tape, hg.output, hg.size, fun k hk ho => hg.block k hk (by intro e; cases e; omega), fun k c hc => ?_, fun k c t' ht' ho hc => ?_⟩
  · by_cases e : k = x
    · subst e
      rw [hx] at hc
      cases hc
      exact ⟨_, set_block hx j u, by simp⟩
    · exact ⟨c, set_other x j u e hc, rfl⟩
  · by_cases e : k = x
    · subst e
      rw [hx] at hc
      cases hc
      rcases ht with rfl | rfl
      · exact absurd rfl ht'
      · exact absurd rfl ho
    · exact set_other x j u e hc

/-- A slice of bytes that may be marked: it lies in a block from lo up to hi. -/
def WB (lo hi : Nat) (w : World) (v : Value) : Prop :=
  v = .slice none 0 0 ∨ ∃ (g n cap : Nat) (cur : Array Value), v = .slice (some ⟨g, 0, none⟩) n cap ∧ lo ≤ g ∧ g < hi ∧ n ≤ cap ∧ cur.size = cap ∧ w.heap[g]? = some (.cells cur 5 (0, 0)) ∧ n ≤ 1048576

theorem WB.mk {lo hi : Nat} {og : Option Nat} {w w' : World} {v : Value} (h : WB lo hi w v) (k : Mk lo hi og w w') : WB lo hi w' v := by
  rcases h with h | ⟨g, n, cap, cur, rfl, h1, h2, h3, h4, h5, h6⟩
  · exact .inl h
  · obtain ⟨c', e1, e2⟩ := k.byt g cur h5
    exact .inr ⟨g, n, cap, c', rfl, h1, h2, h3, e2.trans h4, e1, h6⟩
theorem WB.of {lo : Nat} {w : World} {v : Value} {xs : List Int} {base : Nat} (h : Ow w base v xs) (hb : lo ≤ base) (hl : xs.length ≤ 1048576) : WB lo w.heap.size w v := by
  rcases h.2 with ⟨rfl, _⟩ | ⟨g, cap, cur, rfl, h1, h2, h3, h4, h5, _⟩
  · exact .inl rfl
  · exact .inr ⟨g, _, cap, cur, rfl, by omega, (Array.getElem?_eq_some_iff.1 h2).1, h3, by omega, h2, hl⟩
theorem WB.grown {lo hi : Nat} {w w' : World} {v : Value} (h : WB lo hi w v) (k : Ext w w') : WB lo hi w' v := by
  rcases h with h | ⟨g, n, cap, cur, rfl, h1, h2, h3, h4, h5, h6⟩
  · exact .inl h
  · exact .inr ⟨g, n, cap, cur, rfl, h1, h2, h3, h4, (k.block g (Array.getElem?_eq_some_iff.1 h5).1 (by simp)).trans h5, h6⟩

set_option maxHeartbeats 1000000 in
theorem markW (lo hi : Nat) (og : Option Nat) (v : Value) (k : Int) (w : World) (h : WB lo hi w v) (hk0 : 0 ≤ k) (hk : k ≤ 1152921504606846976) :
    Calls Tryz.prog 57 #[v, .int .i64 k] w fun e w' => ∃ n : Nat, n ≤ 1048576 ∧ e = .returned (.int .i64 (k + n)) ∧ Mk lo hi og w w' := by
  rcases h with rfl | ⟨g, n, cap, cur, rfl, h1, h2, h3, h4, h5, h6⟩
  · go_enter Tryz.func57, Tryz.ntmps57
    go_wp2
    refine wp_loop_rounds 1 ?_
    rw [rounds_succ]
    go_wp2
    go_ret
    exact ⟨0, by omega, by simp, Mk.re _ _ _ _⟩
  · have H5 : Hid (w.heap[g]? = some (.cells cur 5 (0, 0))) := h5
    have H4 : Hid (cur.size = cap) := h4
    clear h4 h5
    go_enter Tryz.func57, Tryz.ntmps57
    go_wp2
    go_loopw [1, 5] (fun q i wr => ∃ j : Nat, j ≤ n ∧ i = .int .i64 j ∧ q = .int .i64 (k + j) ∧ Mk lo hi og w wr) (fun _ i _ => n - (intOf i).toNat)
    case atStart => exact ⟨0, Nat.zero_le _, rfl, by go_num, Mk.re _ _ _ _⟩
    case round =>
      obtain ⟨j, hj, rfl, rfl, hm⟩ := hrel
      by_cases hlt : j < n
      · obtain ⟨c', e1, e2⟩ := hm.byt g cur H5.out
        obtain ⟨uu, huu⟩ : ∃ uu, c'[j]? = some uu := ⟨_, Array.getElem?_eq_getElem (by have := H4.out; omega)⟩
        obtain ⟨hu, hf⟩ := at_block e1 j uu huu
        have HM : Hid (∀ u, Mk lo hi og w (wr.setCell ⟨g, j, none⟩ u)) := fun u => hm.tr (mk_set u e1 h1 h2 (.inl rfl))
        clear e1 e2 hm huu
        go_wp2
        go_roundw
        case rel => exact ⟨j + 1, by omega, by go_num, by go_num, HM.out _⟩
        case measure => simp [intOf]; omega
      · have hjn : j = n := by omega
        subst hjn
        go_wp2
        go_ret
        exact ⟨j, h6, rfl, hm⟩

/-- An array of n elements of k cells in the block g; of its cells those of the texts (tx) are known. -/
def Arr (w : World) (g : Nat) (t : TypeId) (k n : Nat) (tx : Nat → Prop) (F : Nat → Nat → Value) : Prop :=
  ∃ cur : Array Value, w.heap[g]? = some (.cells cur t (0, 0)) ∧ cur.size = n * k ∧ ∀ i, i < n → ∀ j, j < k → tx j → cur[i * k + j]? = some (F i j)
theorem Arr.of {w : World} {g : Nat} {t : TypeId} {k n : Nat} {tx : Nat → Prop} {F : Nat → Nat → Value} (h : Blk w g t k n n F) : Arr w g t k n tx F := by
  obtain ⟨cur, h1, h2, h3⟩ := h
  exact ⟨cur, h1, h2, fun i hi j hj _ => h3 i hi j hj⟩
theorem Arr.mk {lo hi : Nat} {og : Option Nat} {w w' : World} {g : Nat} {t : TypeId} {k n : Nat} {tx : Nat → Prop} {F : Nat → Nat → Value} (h : Arr w g t k n tx F) (m : Mk lo hi og w w') (ht : t ≠ 5) (hg : some g ≠ og) : Arr w' g t k n tx F := by
  obtain ⟨cur, h1, h2, h3⟩ := h
  exact ⟨cur, m.oth g cur t ht hg h1, h2, h3⟩
theorem Arr.ext {w w' : World} {g : Nat} {t : TypeId} {k n : Nat} {tx : Nat → Prop} {F : Nat → Nat → Value} (h : Arr w g t k n tx F) (m : Ext w w') : Arr w' g t k n tx F := by
  obtain ⟨cur, h1, h2, h3⟩ := h
  exact ⟨cur, (m.block g (Array.getElem?_eq_some_iff.1 h1).1 (by simp)).trans h1, h2, h3⟩
theorem Arr.cell {w : World} {g : Nat} {t : TypeId} {k n : Nat} {tx : Nat → Prop} {F : Nat → Nat → Value} (h : Arr w g t k n tx F) (i : Nat) (hi : i < n) (j : Nat) (hj : j < k) (ht : tx j) : w.cell? ⟨g, i * k + j, none⟩ = some (F i j) := by
  obtain ⟨cur, h1, h2, h3⟩ := h
  rw [cell_of_row w g _ cur t (0, 0) h1]
  exact h3 i hi j hj ht
theorem Arr.at {w : World} {g : Nat} {t : TypeId} {k n : Nat} {tx : Nat → Prop} {F : Nat → Nat → Value} (h : Arr w g t k n tx F) (x : Nat) (hx : x < n * k) : (∃ u, w.cell? ⟨g, x, none⟩ = some u) ∧ w.frozen? ⟨g, x, none⟩ = false := by
  obtain ⟨cur, h1, h2, _⟩ := h
  have := at_block h1 x cur[x] (Array.getElem?_eq_getElem (by omega))
  exact ⟨⟨_, this.1⟩, this.2⟩
theorem Arr.set {w : World} {g : Nat} {t : TypeId} {k n : Nat} {tx : Nat → Prop} {F : Nat → Nat → Value} (h : Arr w g t k n tx F) (i j : Nat) (hj : j < k) (ht : ¬ tx j) (u : Value) : Arr (w.setCell ⟨g, i * k + j, none⟩ u) g t k n tx F := by
  obtain ⟨cur, h1, h2, h3⟩ := h
  refine ⟨_, set_block h1 _ u, by simp [h2], fun i' hi' j' hj' ht' => ?_⟩
  rw [Array.getElem?_setIfInBounds, if_neg]
  · exact h3 i' hi' j' hj' ht'
  · intro e
    have e1 : (j + i * k) % k = (j' + i' * k) % k := by rw [Nat.add_comm j, Nat.add_comm j', e]
    rw [Nat.add_mul_mod_self_right, Nat.add_mul_mod_self_right, Nat.mod_eq_of_lt hj, Nat.mod_eq_of_lt hj'] at e1
    exact ht (e1 ▸ ht')
theorem Arr.mkset {lo hi : Nat} {w : World} {g : Nat} {t : TypeId} {k n : Nat} {tx : Nat → Prop} {F : Nat → Nat → Value} (h : Arr w g t k n tx F) (h1 : lo ≤ g) (h2 : g < hi) (x : Nat) (u : Value) : Mk lo hi (Option.some g) w (w.setCell ⟨g, x, none⟩ u) := by
  obtain ⟨cur, hc, _, _⟩ := h
  exact mk_set u hc h1 h2 (.inr rfl)

end Go.Proofs.YtnklnhnjmikooaaGreat

namespace Go.Proofs.YtnklnhnjmikooaaGreat
open Go.RowKit

/-- Which cells of an element are texts. -/
def txR : Nat → Prop := fun j => j = 0 ∨ j = 1

set_option maxHeartbeats 4000000 in
theorem markRM (lo hi g n : Nat) (F : Nat → Nat → Value) (k : Int) (w : World) (h : Arr w g 116 4 n txR F) (hw : ∀ i, i < n → WB lo hi w (F i 0) ∧ WB lo hi w (F i 1)) (h1 : lo ≤ g) (h2 : g < hi) (hn : n ≤ 1048576) (hk0 : 0 ≤ k) (hk : k ≤ 70368744177664) :
    Calls Tryz.prog 46 #[.slice (some ⟨g, 0, none⟩) n n, .int .i64 k] w fun e w' => ∃ m : Nat, m ≤ n * 2097154 ∧ e = .returned (.int .i64 (k + m)) ∧ Mk lo hi (some g) w w' := by
  have HW : Hid (∀ i, i < n → WB lo hi w (F i 0) ∧ WB lo hi w (F i 1)) := hw
  have HA : Hid (Arr w g 116 4 n txR F) := h
  have h5 : (116 : TypeId) ≠ 5 := by decide
  have H5 : Hid ((116 : TypeId) ≠ 5) := h5
  clear hw h h5
  go_enter Tryz.func46, Tryz.ntmps46
  go_wp2
  go_loopw [1, 5] (fun q i wr => ∃ j m : Nat, j ≤ n ∧ m ≤ j * 2097154 ∧ i = .int .i64 j ∧ q = .int .i64 (k + m) ∧ Mk lo hi (some g) w wr ∧ Hid (Arr wr g 116 4 n txR F)) (fun _ i _ => n - (intOf i).toNat)
  case atStart => exact ⟨0, 0, Nat.zero_le _, by omega, rfl, by go_num, Mk.re _ _ _ _, HA.out⟩
  case round =>
    obtain ⟨j, m, hj, hmj, rfl, rfl, hm, ha⟩ := hrel
    by_cases hlt : j < n
    · have hlt' : (j : Int) < (n : Int) := by omega
      have HM0 : Hid (Mk lo hi (some g) w wr) := hm
      clear hm
      have d0 := Arr.cell ha.out j hlt 0 (by omega) (by unfold txR; omega)
      rw [Nat.add_zero] at d0
      go_wp2_with fail
      refine (markW lo hi none _ _ wr ((HW.out j hlt).1.mk HM0.out) (by omega) (by omega)).mono ?_
      rintro e w1 ⟨n1, hn1, rfl, M1⟩
      have HM1 : Hid (Mk lo hi (some g) w w1) := (HM0.out).tr M1.some
      have HA1 : Hid (Arr w1 g 116 4 n txR F) := (ha.out).mk M1 H5.out (by simp)
      clear M1 d0
      have d1 := Arr.cell HA1.out j hlt 1 (by omega) (by unfold txR; omega)
      go_wp2_with fail
      refine (markW lo hi none _ _ w1 ((HW.out j hlt).2.mk HM1.out) (by omega) (by omega)).mono ?_
      rintro e w2 ⟨n2, hn2, rfl, M2⟩
      have HM2 : Hid (Mk lo hi (some g) w w2) := (HM1.out).tr M2.some
      have HA2 : Hid (Arr w2 g 116 4 n txR F) := (HA1.out).mk M2 H5.out (by simp)
      clear M2 d1
      obtain ⟨⟨u0, a0⟩, f0⟩ := Arr.at HA2.out (j * 4 + 2) (by omega)
      obtain ⟨⟨u1, a1⟩, f1⟩ := Arr.at HA2.out (j * 4 + 3) (by omega)
      have HZ : Hid (∀ V0 V1 : Value, Mk lo hi (some g) w ((w2.setCell ⟨g, j * 4 + 2, none⟩ V0).setCell ⟨g, j * 4 + 3, none⟩ V1) ∧ Arr ((w2.setCell ⟨g, j * 4 + 2, none⟩ V0).setCell ⟨g, j * 4 + 3, none⟩ V1) g 116 4 n txR F) := fun V0 V1 => ⟨((((HM2.out).tr (Arr.mkset (HA2.out) h1 h2 (j * 4 + 2) V0))).tr (Arr.mkset (((HA2.out).set j 2 (by omega) (by unfold txR; first | omega | simp) V0)) h1 h2 (j * 4 + 3) V1)), ((((HA2.out).set j 2 (by omega) (by unfold txR; first | omega | simp) V0)).set j 3 (by omega) (by unfold txR; first | omega | simp) V1)⟩
      clear ha HM0 HM1 HA1 HM2 HA2
      go_wp2
      go_roundw
      case rel => exact ⟨j + 1, m + n1 + n2 + 2, by omega, by omega, by go_num, by go_num, (HZ.out _ _).1, (HZ.out _ _).2⟩
      case measure => simp [intOf]; omega
    · have hjn : j = n := by omega
      subst hjn
      clear ha
      go_wp2
      go_ret
      exact ⟨m, hmj, rfl, hm⟩

/-- Which cells of an element are texts. -/
def txT : Nat → Prop := fun j => j = 0

set_option maxHeartbeats 4000000 in
theorem markTM (lo hi g n : Nat) (F : Nat → Nat → Value) (k : Int) (w : World) (h : Arr w g 118 2 n txT F) (hw : ∀ i, i < n → WB lo hi w (F i 0)) (h1 : lo ≤ g) (h2 : g < hi) (hn : n ≤ 1048576) (hk0 : 0 ≤ k) (hk : k ≤ 70368744177664) :
    Calls Tryz.prog 47 #[.slice (some ⟨g, 0, none⟩) n n, .int .i64 k] w fun e w' => ∃ m : Nat, m ≤ n * 1048577 ∧ e = .returned (.int .i64 (k + m)) ∧ Mk lo hi (some g) w w' := by
  have HW : Hid (∀ i, i < n → WB lo hi w (F i 0)) := hw
  have HA : Hid (Arr w g 118 2 n txT F) := h
  have h5 : (118 : TypeId) ≠ 5 := by decide
  have H5 : Hid ((118 : TypeId) ≠ 5) := h5
  clear hw h h5
  go_enter Tryz.func47, Tryz.ntmps47
  go_wp2
  go_loopw [1, 5] (fun q i wr => ∃ j m : Nat, j ≤ n ∧ m ≤ j * 1048577 ∧ i = .int .i64 j ∧ q = .int .i64 (k + m) ∧ Mk lo hi (some g) w wr ∧ Hid (Arr wr g 118 2 n txT F)) (fun _ i _ => n - (intOf i).toNat)
  case atStart => exact ⟨0, 0, Nat.zero_le _, by omega, rfl, by go_num, Mk.re _ _ _ _, HA.out⟩
  case round =>
    obtain ⟨j, m, hj, hmj, rfl, rfl, hm, ha⟩ := hrel
    by_cases hlt : j < n
    · have hlt' : (j : Int) < (n : Int) := by omega
      have HM0 : Hid (Mk lo hi (some g) w wr) := hm
      clear hm
      have d0 := Arr.cell ha.out j hlt 0 (by omega) (by unfold txT; omega)
      rw [Nat.add_zero] at d0
      go_wp2_with fail
      refine (markW lo hi none _ _ wr ((HW.out j hlt).mk HM0.out) (by omega) (by omega)).mono ?_
      rintro e w1 ⟨n1, hn1, rfl, M1⟩
      have HM1 : Hid (Mk lo hi (some g) w w1) := (HM0.out).tr M1.some
      have HA1 : Hid (Arr w1 g 118 2 n txT F) := (ha.out).mk M1 H5.out (by simp)
      clear M1 d0
      obtain ⟨⟨u0, a0⟩, f0⟩ := Arr.at HA1.out (j * 2 + 1) (by omega)
      have HZ : Hid (∀ V0 : Value, Mk lo hi (some g) w (w1.setCell ⟨g, j * 2 + 1, none⟩ V0) ∧ Arr (w1.setCell ⟨g, j * 2 + 1, none⟩ V0) g 118 2 n txT F) := fun V0 => ⟨((HM1.out).tr (Arr.mkset (HA1.out) h1 h2 (j * 2 + 1) V0)), ((HA1.out).set j 1 (by omega) (by unfold txT; first | omega | simp) V0)⟩
      clear ha HM0 HM1 HA1
      go_wp2
      go_roundw
      case rel => exact ⟨j + 1, m + n1 + 1, by omega, by omega, by go_num, by go_num, (HZ.out _).1, (HZ.out _).2⟩
      case measure => simp [intOf]; omega
    · have hjn : j = n := by omega
      subst hjn
      clear ha
      go_wp2
      go_ret
      exact ⟨m, hmj, rfl, hm⟩

/-- Which cells of an element are texts. -/
def txS : Nat → Prop := fun _ => False

set_option maxHeartbeats 4000000 in
theorem markSM (lo hi g n : Nat) (F : Nat → Nat → Value) (k : Int) (w : World) (h : Arr w g 121 2 n txS F) (hw : ∀ i, i < n → True) (h1 : lo ≤ g) (h2 : g < hi) (hn : n ≤ 1048576) (hk0 : 0 ≤ k) (hk : k ≤ 70368744177664) :
    Calls Tryz.prog 48 #[.slice (some ⟨g, 0, none⟩) n n, .int .i64 k] w fun e w' => ∃ m : Nat, m ≤ n * 2 ∧ e = .returned (.int .i64 (k + m)) ∧ Mk lo hi (some g) w w' := by
  have HW : Hid (∀ i, i < n → True) := hw
  have HA : Hid (Arr w g 121 2 n txS F) := h
  have h5 : (121 : TypeId) ≠ 5 := by decide
  have H5 : Hid ((121 : TypeId) ≠ 5) := h5
  clear hw h h5
  go_enter Tryz.func48, Tryz.ntmps48
  go_wp2
  go_loopw [1, 5] (fun q i wr => ∃ j m : Nat, j ≤ n ∧ m ≤ j * 2 ∧ i = .int .i64 j ∧ q = .int .i64 (k + m) ∧ Mk lo hi (some g) w wr ∧ Hid (Arr wr g 121 2 n txS F)) (fun _ i _ => n - (intOf i).toNat)
  case atStart => exact ⟨0, 0, Nat.zero_le _, by omega, rfl, by go_num, Mk.re _ _ _ _, HA.out⟩
  case round =>
    obtain ⟨j, m, hj, hmj, rfl, rfl, hm, ha⟩ := hrel
    by_cases hlt : j < n
    · have hlt' : (j : Int) < (n : Int) := by omega
      have HM0 : Hid (Mk lo hi (some g) w wr) := hm
      clear hm
      obtain ⟨⟨u0, a0⟩, f0⟩ := Arr.at ha.out (j * 2 + 0) (by omega)
      rw [Nat.add_zero] at a0 f0
      obtain ⟨⟨u1, a1⟩, f1⟩ := Arr.at ha.out (j * 2 + 1) (by omega)
      have HZ : Hid (∀ V0 V1 : Value, Mk lo hi (some g) w ((wr.setCell ⟨g, j * 2 + 0, none⟩ V0).setCell ⟨g, j * 2 + 1, none⟩ V1) ∧ Arr ((wr.setCell ⟨g, j * 2 + 0, none⟩ V0).setCell ⟨g, j * 2 + 1, none⟩ V1) g 121 2 n txS F) := fun V0 V1 => ⟨((((HM0.out).tr (Arr.mkset (ha.out) h1 h2 (j * 2 + 0) V0))).tr (Arr.mkset (((ha.out).set j 0 (by omega) (by unfold txS; first | omega | simp) V0)) h1 h2 (j * 2 + 1) V1)), ((((ha.out).set j 0 (by omega) (by unfold txS; first | omega | simp) V0)).set j 1 (by omega) (by unfold txS; first | omega | simp) V1)⟩
      clear ha HM0
      go_wp2
      go_roundw
      case rel => exact ⟨j + 1, m + 2, by omega, by omega, by go_num, by go_num, (HZ.out _ _).1, (HZ.out _ _).2⟩
      case measure => simp [intOf]; omega
    · have hjn : j = n := by omega
      subst hjn
      clear ha
      go_wp2
      go_ret
      exact ⟨m, hmj, rfl, hm⟩

/-- Which cells of an element are texts. -/
def txL : Nat → Prop := fun _ => False

set_option maxHeartbeats 4000000 in
theorem markLM (lo hi g n : Nat) (F : Nat → Nat → Value) (k : Int) (w : World) (h : Arr w g 125 4 n txL F) (hw : ∀ i, i < n → True) (h1 : lo ≤ g) (h2 : g < hi) (hn : n ≤ 1048576) (hk0 : 0 ≤ k) (hk : k ≤ 70368744177664) :
    Calls Tryz.prog 49 #[.slice (some ⟨g, 0, none⟩) n n, .int .i64 k] w fun e w' => ∃ m : Nat, m ≤ n * 4 ∧ e = .returned (.int .i64 (k + m)) ∧ Mk lo hi (some g) w w' := by
  have HW : Hid (∀ i, i < n → True) := hw
  have HA : Hid (Arr w g 125 4 n txL F) := h
  have h5 : (125 : TypeId) ≠ 5 := by decide
  have H5 : Hid ((125 : TypeId) ≠ 5) := h5
  clear hw h h5
  go_enter Tryz.func49, Tryz.ntmps49
  go_wp2
  go_loopw [1, 5] (fun q i wr => ∃ j m : Nat, j ≤ n ∧ m ≤ j * 4 ∧ i = .int .i64 j ∧ q = .int .i64 (k + m) ∧ Mk lo hi (some g) w wr ∧ Hid (Arr wr g 125 4 n txL F)) (fun _ i _ => n - (intOf i).toNat)
  case atStart => exact ⟨0, 0, Nat.zero_le _, by omega, rfl, by go_num, Mk.re _ _ _ _, HA.out⟩
  case round =>
    obtain ⟨j, m, hj, hmj, rfl, rfl, hm, ha⟩ := hrel
    by_cases hlt : j < n
    · have hlt' : (j : Int) < (n : Int) := by omega
      have HM0 : Hid (Mk lo hi (some g) w wr) := hm
      clear hm
      obtain ⟨⟨u0, a0⟩, f0⟩ := Arr.at ha.out (j * 4 + 0) (by omega)
      rw [Nat.add_zero] at a0 f0
      obtain ⟨⟨u1, a1⟩, f1⟩ := Arr.at ha.out (j * 4 + 1) (by omega)
      obtain ⟨⟨u2, a2⟩, f2⟩ := Arr.at ha.out (j * 4 + 2) (by omega)
      obtain ⟨⟨u3, a3⟩, f3⟩ := Arr.at ha.out (j * 4 + 3) (by omega)
      have HZ : Hid (∀ V0 V1 V2 V3 : Value, Mk lo hi (some g) w ((((wr.setCell ⟨g, j * 4 + 0, none⟩ V0).setCell ⟨g, j * 4 + 1, none⟩ V1).setCell ⟨g, j * 4 + 2, none⟩ V2).setCell ⟨g, j * 4 + 3, none⟩ V3) ∧ Arr ((((wr.setCell ⟨g, j * 4 + 0, none⟩ V0).setCell ⟨g, j * 4 + 1, none⟩ V1).setCell ⟨g, j * 4 + 2, none⟩ V2).setCell ⟨g, j * 4 + 3, none⟩ V3) g 125 4 n txL F) := fun V0 V1 V2 V3 => ⟨((((((((HM0.out).tr (Arr.mkset (ha.out) h1 h2 (j * 4 + 0) V0))).tr (Arr.mkset (((ha.out).set j 0 (by omega) (by unfold txL; first | omega | simp) V0)) h1 h2 (j * 4 + 1) V1))).tr (Arr.mkset (((((ha.out).set j 0 (by omega) (by unfold txL; first | omega | simp) V0)).set j 1 (by omega) (by unfold txL; first | omega | simp) V1)) h1 h2 (j * 4 + 2) V2))).tr (Arr.mkset (((((((ha.out).set j 0 (by omega) (by unfold txL; first | omega | simp) V0)).set j 1 (by omega) (by unfold txL; first | omega | simp) V1)).set j 2 (by omega) (by unfold txL; first | omega | simp) V2)) h1 h2 (j * 4 + 3) V3)), ((((((((ha.out).set j 0 (by omega) (by unfold txL; first | omega | simp) V0)).set j 1 (by omega) (by unfold txL; first | omega | simp) V1)).set j 2 (by omega) (by unfold txL; first | omega | simp) V2)).set j 3 (by omega) (by unfold txL; first | omega | simp) V3)⟩
      clear ha HM0
      go_wp2
      go_roundw
      case rel => exact ⟨j + 1, m + 4, by omega, by omega, by go_num, by go_num, (HZ.out _ _ _ _).1, (HZ.out _ _ _ _).2⟩
      case measure => simp [intOf]; omega
    · have hjn : j = n := by omega
      subst hjn
      clear ha
      go_wp2
      go_ret
      exact ⟨m, hmj, rfl, hm⟩

/-- Only blocks from lo up to hi have turned. -/
structure Mid (lo hi : Nat) (w w' : World) : Prop where
  os : w'.os = w.os
  tape : w'.tape = w.tape
  output : w'.output = w.output
  size : w.heap.size ≤ w'.heap.size
  out : ∀ k, k < w.heap.size → (k < lo ∨ hi ≤ k) → w'.heap[k]? = w.heap[k]?
theorem Mk.mid {lo hi : Nat} {og : Option Nat} {w w' : World} (h : Mk lo hi og w w') : Mid lo hi w w' := ⟨h.os, h.tape, h.output, h.size, h.out⟩
theorem Mid.tr {lo hi : Nat} {a b c : World} (h : Mid lo hi a b) (k : Mid lo hi b c) : Mid lo hi a c :=
  ⟨k.os.trans h.os, k.tape.trans h.tape, k.output.trans h.output, Nat.le_trans h.size k.size, fun i hi' ho => (k.out i (Nat.lt_of_lt_of_le hi' h.size) ho).trans (h.out i hi' ho)⟩
theorem Mid.ext {lo hi : Nat} {a b : World} (h : Ext a b) : Mid lo hi a b := ⟨h.os, h.tape, h.output, h.size, fun i hi' _ => h.block i hi' (by simp)⟩
theorem Mid.below {lo hi B : Nat} {w0 w w' : World} (hb : Below B w0 w) (hs : B ≤ w.heap.size) (hl : B ≤ lo) (h : Mid lo hi w w') : Below B w0 w' :=
  ⟨h.os.trans hb.os, h.tape.trans hb.tape, h.output.trans hb.output, Nat.le_trans hb.size h.size, fun k hk => (h.out k (by omega) (.inl (by omega))).trans (hb.block k hk)⟩

/-- A state's memory, as far as its marks need it: its four arrays and its texts, all from lo up to hi. -/
def Shp (lo hi : Nat) (w : World) (gr gt gs gl nr nt ns nl : Nat) : Prop :=
  ∃ FR FT FS FL : Nat → Nat → Value, (Arr w gr 116 4 nr txR FR ∧ ∀ i, i < nr → WB lo hi w (FR i 0) ∧ WB lo hi w (FR i 1)) ∧ (Arr w gt 118 2 nt txT FT ∧ ∀ i, i < nt → WB lo hi w (FT i 0)) ∧
    Arr w gs 121 2 ns txS FS ∧ Arr w gl 125 4 nl txL FL ∧ (lo ≤ gr ∧ gr < hi) ∧ (lo ≤ gt ∧ gt < hi) ∧ (lo ≤ gs ∧ gs < hi) ∧ (lo ≤ gl ∧ gl < hi) ∧ nr ≤ 1048576 ∧ nt ≤ 1048576 ∧ ns ≤ 1048576 ∧ nl ≤ 1048576

theorem Shp.ext {lo hi : Nat} {w w' : World} {gr gt gs gl nr nt ns nl : Nat} (h : Shp lo hi w gr gt gs gl nr nt ns nl) (e : Ext w w') : Shp lo hi w' gr gt gs gl nr nt ns nl := by
  obtain ⟨FR, FT, FS, FL, ⟨a1, a2⟩, ⟨b1, b2⟩, c1, d1, r⟩ := h
  exact ⟨FR, FT, FS, FL, ⟨a1.ext e, fun i hi => ⟨(a2 i hi).1.grown e, (a2 i hi).2.grown e⟩⟩, ⟨b1.ext e, fun i hi => (b2 i hi).grown e⟩, c1.ext e, d1.ext e, r⟩

theorem shp_of {w : World} {base gr gt gs gl : Nat} {S : DState} (h : OSt w base gr gt gs gl S) (hl : LenSt S 1048576) : Shp base w.heap.size w gr gt gs gl S.rows.length S.tombs.length S.sess.length S.lasts.length := by
  obtain ⟨⟨b1, FR, r1, r2⟩, ⟨b2, FT, t1, t2⟩, ⟨b3, FS, s1, _⟩, ⟨b4, FL, l1, _⟩⟩ := h
  refine ⟨FR, FT, FS, FL, ⟨Arr.of r1, fun i hi => ?_⟩, ⟨Arr.of t1, fun i hi => ?_⟩, Arr.of s1, Arr.of l1, ⟨b1, blk_lt r1⟩, ⟨b2, blk_lt t1⟩, ⟨b3, blk_lt s1⟩, ⟨b4, blk_lt l1⟩, hl.rows, hl.tombs, hl.sess, hl.lasts⟩
  · obtain ⟨r, hr⟩ : ∃ r, S.rows[i]? = some r := ⟨_, List.getElem?_eq_getElem hi⟩
    obtain ⟨o1, o2, _, _⟩ := r2 i r hr
    exact ⟨WB.of o1 (by omega) (hl.row i r hr).1, WB.of o2 (by omega) (hl.row i r hr).2⟩
  · obtain ⟨r, hr⟩ : ∃ r, S.tombs[i]? = some r := ⟨_, List.getElem?_eq_getElem hi⟩
    exact WB.of (t2 i r hr).1 (by omega) (hl.tomb i r hr)

set_option maxHeartbeats 4000000 in
theorem markStM (lo hi gr gt gs gl nr nt ns nl : Nat) (x0 x3 : Value) (k : Int) (w : World) (h : Shp lo hi w gr gt gs gl nr nt ns nl) (hh : hi ≤ w.heap.size) (hk0 : 0 ≤ k) (hk : k ≤ 1073741824) :
    Calls Tryz.prog 14 #[.agg #[x0, .slice (some ⟨gr, 0, none⟩) nr nr, .slice (some ⟨gt, 0, none⟩) nt nt, x3, .slice (some ⟨gs, 0, none⟩) ns ns, .slice (some ⟨gl, 0, none⟩) nl nl], .int .i64 k] w fun e w' =>
      ∃ k' : Int, 0 ≤ k' ∧ k' ≤ 35184372088832 ∧ e = .returned (.int .i64 k') ∧ Mid lo hi w w' := by
  have hE : ∀ w : World, ∀ o, Ext w (w.alloc o) := fun w o => World.grownBy_alloc _ _ _
  go_enter Tryz.func14, Tryz.ntmps14
  go_wp2_with fail
  have P0 := heap_alloc_new w (.cells #[x0, .slice (some ⟨gr, 0, none⟩) nr nr, .slice (some ⟨gt, 0, none⟩) nt nt, x3, .slice (some ⟨gs, 0, none⟩) ns ns, .slice (some ⟨gl, 0, none⟩) nl nl] 48 (0, 0))
  have E0 := hE w (.cells #[x0, .slice (some ⟨gr, 0, none⟩) nr nr, .slice (some ⟨gt, 0, none⟩) nt nt, x3, .slice (some ⟨gs, 0, none⟩) ns ns, .slice (some ⟨gl, 0, none⟩) nl nl] 48 (0, 0))
  have z0 : w.heap.size < (w.alloc (.cells #[x0, .slice (some ⟨gr, 0, none⟩) nr nr, .slice (some ⟨gt, 0, none⟩) nt nt, x3, .slice (some ⟨gs, 0, none⟩) ns ns, .slice (some ⟨gl, 0, none⟩) nl nl] 48 (0, 0))).heap.size := by simp
  generalize w.alloc (.cells #[x0, .slice (some ⟨gr, 0, none⟩) nr nr, .slice (some ⟨gt, 0, none⟩) nt nt, x3, .slice (some ⟨gs, 0, none⟩) ns ns, .slice (some ⟨gl, 0, none⟩) nl nl] 48 (0, 0)) = W0 at P0 E0 z0 ⊢
  have HS : Hid (Shp lo hi W0 gr gt gs gl nr nt ns nl) := h.ext E0
  have HD : Hid (Mid lo hi w W0) := Mid.ext E0
  clear h E0
  obtain ⟨FR, FT, FS, FL, ⟨a1, a2⟩, ⟨b1, b2⟩, c1, d1, ⟨l1, l1'⟩, ⟨l2, l2'⟩, ⟨l3, l3'⟩, ⟨l4, l4'⟩, n1, n2, n3, n4⟩ := HS.out
  have neq : gr ≠ gt ∧ gr ≠ gs ∧ gr ≠ gl ∧ gt ≠ gs ∧ gt ≠ gl ∧ gs ≠ gl := by
    obtain ⟨u1, e1, _, _⟩ := a1
    obtain ⟨u2, e2, _, _⟩ := b1
    obtain ⟨u3, e3, _, _⟩ := c1
    obtain ⟨u4, e4, _, _⟩ := d1
    refine ⟨?_, ?_, ?_, ?_, ?_, ?_⟩
    · intro e; subst e; rw [e1] at e2; simp at e2
    · intro e; subst e; rw [e1] at e3; simp at e3
    · intro e; subst e; rw [e1] at e4; simp at e4
    · intro e; subst e; rw [e2] at e3; simp at e3
    · intro e; subst e; rw [e2] at e4; simp at e4
    · intro e; subst e; rw [e3] at e4; simp at e4
  have HNE : Hid (gr ≠ gt ∧ gr ≠ gs ∧ gr ≠ gl ∧ gt ≠ gs ∧ gt ≠ gl ∧ gs ≠ gl) := neq
  have HA : Hid (Arr W0 gr 116 4 nr txR FR ∧ ∀ i, i < nr → WB lo hi W0 (FR i 0) ∧ WB lo hi W0 (FR i 1)) := ⟨a1, a2⟩
  have HB : Hid (Arr W0 gt 118 2 nt txT FT ∧ ∀ i, i < nt → WB lo hi W0 (FT i 0)) := ⟨b1, b2⟩
  have HC : Hid (Arr W0 gs 121 2 ns txS FS) := c1
  have HDD : Hid (Arr W0 gl 125 4 nl txL FL) := d1
  clear HS a1 a2 b1 b2 c1 d1 neq
  refine (markRM lo hi gr nr FR k W0 HA.out.1 HA.out.2 l1 l1' n1 hk0 (by omega)).mono ?_
  rintro e W1 ⟨m1, hm1, rfl, M1⟩
  have P1 := (M1.out w.heap.size z0 (.inr hh)).trans P0
  have z1 := Nat.lt_of_lt_of_le z0 M1.size
  have HM1 : Hid (Mk lo hi (some gr) W0 W1) := M1
  clear M1 P0 z0
  obtain ⟨p2, _⟩ := at_block P1 2 _ rfl
  go_wp2_with fail
  refine (markTM lo hi gt nt FT _ W1 (HB.out.1.mk HM1.out (by decide) (by simp [Ne.symm HNE.out.1])) (fun i hi => (HB.out.2 i hi).mk HM1.out) l2 l2' n2 (by omega) (by omega)).mono ?_
  rintro e W2 ⟨m2, hm2, rfl, M2⟩
  have P2 := (M2.out w.heap.size z1 (.inr hh)).trans P1
  have z2 := Nat.lt_of_lt_of_le z1 M2.size
  have HM2 : Hid (Mk lo hi (some gt) W1 W2) := M2
  clear M2 P1 z1 p2
  obtain ⟨p4, _⟩ := at_block P2 4 _ rfl
  go_wp2_with fail
  refine (markSM lo hi gs ns FS _ W2 ((HC.out.mk HM1.out (by decide) (by simp [Ne.symm HNE.out.2.1])).mk HM2.out (by decide) (by simp [Ne.symm HNE.out.2.2.2.1])) (fun _ _ => trivial) l3 l3' n3 (by omega) (by omega)).mono ?_
  rintro e W3 ⟨m3, hm3, rfl, M3⟩
  have P3 := (M3.out w.heap.size z2 (.inr hh)).trans P2
  have z3 := Nat.lt_of_lt_of_le z2 M3.size
  have HM3 : Hid (Mk lo hi (some gs) W2 W3) := M3
  clear M3 P2 z2 p4
  obtain ⟨p5, _⟩ := at_block P3 5 _ rfl
  go_wp2_with fail
  refine (markLM lo hi gl nl FL _ W3 (((HDD.out.mk HM1.out (by decide) (by simp [Ne.symm HNE.out.2.2.1])).mk HM2.out (by decide) (by simp [Ne.symm HNE.out.2.2.2.2.1])).mk HM3.out (by decide) (by simp [Ne.symm HNE.out.2.2.2.2.2])) (fun _ _ => trivial) l4 l4' n4 (by omega) (by omega)).mono ?_
  rintro e W4 ⟨m4, hm4, rfl, M4⟩
  have HM4 : Hid (Mid lo hi w W4) := (((HD.out.tr HM1.out.mid).tr HM2.out.mid).tr HM3.out.mid).tr M4.mid
  clear M4 P3 z3 p5
  go_wp2
  go_ret
  exact ⟨_, by omega, by omega, rfl, HM4.out⟩

end Go.Proofs.YtnklnhnjmikooaaGreat

namespace Go.Proofs.YtnklnhnjmikooaaGreat
open Go.RowKit

theorem Shp.frame {lo hi : Nat} {w w' : World} {gr gt gs gl nr nt ns nl : Nat} (h : Shp lo hi w gr gt gs gl nr nt ns nl) (e : ∀ k, lo ≤ k → k < hi → k < w.heap.size → w'.heap[k]? = w.heap[k]?) : Shp lo hi w' gr gt gs gl nr nt ns nl := by
  obtain ⟨FR, FT, FS, FL, ⟨a1, a2⟩, ⟨b1, b2⟩, c1, d1, r1, r2, r3, r4, r⟩ := h
  have ar : ∀ {g : Nat} {t : TypeId} {k n : Nat} {tx : Nat → Prop} {F : Nat → Nat → Value}, Arr w g t k n tx F → lo ≤ g ∧ g < hi → Arr w' g t k n tx F := fun ⟨cur, h1, h2, h3⟩ hg => ⟨cur, (e _ hg.1 hg.2 (Array.getElem?_eq_some_iff.1 h1).1).trans h1, h2, h3⟩
  have wb : ∀ {v : Value}, WB lo hi w v → WB lo hi w' v := fun h => by
    rcases h with h | ⟨g, n, cap, cur, rfl, h1, h2, h3, h4, h5, h6⟩
    · exact .inl h
    · exact .inr ⟨g, n, cap, cur, rfl, h1, h2, h3, h4, (e g h1 h2 (Array.getElem?_eq_some_iff.1 h5).1).trans h5, h6⟩
  exact ⟨FR, FT, FS, FL, ⟨ar a1 r1, fun i hi => ⟨wb (a2 i hi).1, wb (a2 i hi).2⟩⟩, ⟨ar b1 r2, fun i hi => wb (b2 i hi)⟩, ar c1 r3, ar d1 r4, r1, r2, r3, r4, r⟩

/-- A duty that a call answered lies in a box, and owns its timers. -/
def BoxD (w1 : World) (R : DDuty) (m bs : Nat) (sa : Option Addr) (sc : Nat) (W : World) : Prop :=
  W.heap[bs]? = some (.cells #[.int .i64 R.ttl, .int .i64 R.wh.now, .slice sa m sc] 39 (0, 0)) ∧ Ext w1 W ∧ OwT W w1.heap.size (.slice sa m sc) R.wh.tms ∧ w1.heap.size ≤ bs
theorem boxd_new {w1 z : World} {R : DDuty} {m sc base : Nat} {sa : Option Addr} (X : Ext w1 z) (o : OwT z base (.slice sa m sc) R.wh.tms) (hb : w1.heap.size ≤ base) : BoxD w1 R m z.heap.size sa sc (z.alloc (.cells #[.int .i64 R.ttl, .int .i64 R.wh.now, .slice sa m sc] 39 (0, 0))) :=
  ⟨heap_alloc_new z _, X.trans (World.grownBy_alloc _ _ _), (baseT o hb).alloc _, X.size⟩
theorem boxd_set {w1 z : World} {R : DDuty} {m sc base bs : Nat} {sa : Option Addr} {c0 c1 c2 : Value} (X : Ext w1 z) (o : OwT z base (.slice sa m sc) R.wh.tms) (hb : w1.heap.size ≤ base) (P : z.heap[bs]? = some (.cells #[c0, c1, c2] 39 (0, 0))) (hs : w1.heap.size ≤ bs) :
    BoxD w1 R m bs sa sc (((z.setCell ⟨bs, 0, none⟩ (.int .i64 R.ttl)).setCell ⟨bs, 1, none⟩ (.int .i64 R.wh.now)).setCell ⟨bs, 2, none⟩ (.slice sa m sc)) := by
  have P1 : (z.setCell ⟨bs, 0, none⟩ (.int .i64 R.ttl)).heap[bs]? = some (.cells #[.int .i64 R.ttl, c1, c2] 39 (0, 0)) := by rw [set_block P 0]; simp
  have P2 : ((z.setCell ⟨bs, 0, none⟩ (.int .i64 R.ttl)).setCell ⟨bs, 1, none⟩ (.int .i64 R.wh.now)).heap[bs]? = some (.cells #[.int .i64 R.ttl, .int .i64 R.wh.now, c2] 39 (0, 0)) := by rw [set_block P1 1]; simp
  have nb : (Value.slice sa m sc).ownBlock = none ∨ (Value.slice sa m sc).ownBlock ≠ some bs := .inr (Ne.symm (ne_row o P (by decide)))
  have hbl : Below w1.heap.size w1 (((z.setCell ⟨bs, 0, none⟩ (.int .i64 R.ttl)).setCell ⟨bs, 1, none⟩ (.int .i64 R.wh.now)).setCell ⟨bs, 2, none⟩ (.slice sa m sc)) := (((ext_bel X).setCell hs _).setCell hs _).setCell hs _
  exact ⟨by rw [set_block P2 2]; simp, ext_below hbl, ((baseT o hb).kept (set_grown _ _ _ _) nb |>.kept (set_grown _ _ _ _) nb).kept (set_grown _ _ _ _) nb, hs⟩

/-- What is carried: the arguments' boxes, the specification's answer (of the world Ws), the program's arguments (the state's rows lie from lo up to hi) and its answer. -/
structure LSy (w Ws W : World) (D R : DDuty) (AD AS YS : Array Value) (sv xv gv : Value) (zs zx zy zg xb gb lo hi : Nat) (X G : List DTim) : Prop where
  low : Below w.heap.size w W
  sB : Below Ws.heap.size Ws W
  sV : VTims Ws sv R.wh.tms
  aD : W.heap[w.heap.size]? = some (.cells AD 26 (0, 0))
  aS : W.heap[w.heap.size + 1]? = some (.cells AS 32 (0, 0))
  s : W.heap[zs]? = some (.cells #[.int .i64 R.ttl, .int .i64 R.wh.now, sv] 39 (0, 0))
  x : W.heap[zx]? = some (.cells #[.int .i64 D.ttl, .int .i64 D.wh.now, xv] 39 (0, 0))
  y : W.heap[zy]? = some (.cells YS 48 (0, 0))
  g : W.heap[zg]? = some (.cells #[.int .i64 R.ttl, .int .i64 R.wh.now, gv] 39 (0, 0))
  xO : OwT W xb xv X
  gO : OwT W gb gv G
  xl : ∀ k, xv.ownBlock = some k → k < lo
  ord : w.heap.size + 1 < Ws.heap.size ∧ Ws.heap.size ≤ xb ∧ Ws.heap.size ≤ lo ∧ zs < lo ∧ zx < lo ∧ lo ≤ hi ∧ hi ≤ zy ∧ hi ≤ zg ∧ hi ≤ gb
section
variable {w Ws W W' : World} {D R : DDuty} {AD AS YS : Array Value} {sv xv gv : Value} {zs zx zy zg xb gb lo hi : Nat} {X X' G G' : List DTim}
theorem LSy.grow (h : LSy w Ws W D R AD AS YS sv xv gv zs zx zy zg xb gb lo hi X G) (b : Below W.heap.size W W') : LSy w Ws W' D R AD AS YS sv xv gv zs zx zy zg xb gb lo hi X G :=
  ⟨h.low.trans (b.mono h.low.size), h.sB.trans (b.mono h.sB.size), h.sV, ext_blk (ext_below b) h.aD, ext_blk (ext_below b) h.aS, ext_blk (ext_below b) h.s, ext_blk (ext_below b) h.x, ext_blk (ext_below b) h.y, ext_blk (ext_below b) h.g, h.xO.kept (ext_below b) (by cases xv.ownBlock <;> simp), h.gO.kept (ext_below b) (by cases gv.ownBlock <;> simp), h.xl, h.ord⟩
/-- The timers of its argument have turned. -/
theorem LSy.turnX (h : LSy w Ws W D R AD AS YS sv xv gv zs zx zy zg xb gb lo hi X G) (t : W.grownBy W' xv.ownBlock) (o : OwT W' xb xv X') : LSy w Ws W' D R AD AS YS sv xv gv zs zx zy zg xb gb lo hi X' G := by
  have hr : ∀ k, xv.ownBlock = some k → Ws.heap.size ≤ k := fun k hk => Nat.le_trans h.ord.2.1 (World.ownsRow.lt h.xO k hk).1
  have kp : ∀ (b : Nat) (cs : Array Value) (t' : TypeId), W.heap[b]? = some (.cells cs t' (0, 0)) → t' ≠ 114 → W'.heap[b]? = some (.cells cs t' (0, 0)) := fun b cs t' hbb ht => (t.block b (Array.getElem?_eq_some_iff.1 hbb).1 (ne_row h.xO hbb ht)).trans hbb
  refine ⟨h.low.grown t h.low.size (fun k hk => by have := hr k hk; have := h.ord; omega), h.sB.grown t h.sB.size hr, h.sV, kp _ _ _ h.aD (by decide), kp _ _ _ h.aS (by decide), kp _ _ _ h.s (by decide), kp _ _ _ h.x (by decide), kp _ _ _ h.y (by decide), kp _ _ _ h.g (by decide), o, h.gO.kept t ?_, h.xl, h.ord⟩
  cases hg : gv.ownBlock with
  | none => exact .inl rfl
  | some k =>
    right
    intro e
    have h1 := h.xl k e.symm
    have h2 := (World.ownsRow.lt h.gO k hg).1
    have := h.ord
    omega
/-- The state's memory has turned. -/
theorem LSy.turnS (h : LSy w Ws W D R AD AS YS sv xv gv zs zx zy zg xb gb lo hi X G) (t : Mid lo hi W W') : LSy w Ws W' D R AD AS YS sv xv gv zs zx zy zg xb gb lo hi X G := by
  have o := h.ord
  have kp : ∀ (b : Nat) (ob : Obj), W.heap[b]? = some ob → (b < lo ∨ hi ≤ b) → W'.heap[b]? = some ob := fun b ob hb hn => (t.out b (Array.getElem?_eq_some_iff.1 hb).1 hn).trans hb
  have row : ∀ {base : Nat} {v : Value} {ts : List DTim}, OwT W base v ts → (∀ k, v.ownBlock = some k → k < lo ∨ hi ≤ k) → OwT W' base v ts := fun {base v ts} ho hn => by
    obtain ⟨h1, h2⟩ := ho
    refine ⟨h1, ?_⟩
    rcases h2 with h2 | ⟨k, c, cur, hv, hb, hg, r⟩
    · exact .inl h2
    · exact .inr ⟨k, c, cur, hv, hb, kp k _ hg (hn k (by rw [hv]; rfl)), r⟩
  exact ⟨Mid.below h.low h.low.size (by omega) t, Mid.below h.sB h.sB.size (by omega) t, h.sV, kp _ _ h.aD (.inl (by omega)), kp _ _ h.aS (.inl (by omega)), kp _ _ h.s (.inl (by omega)), kp _ _ h.x (.inl (by omega)), kp _ _ h.y (.inr (by omega)), kp _ _ h.g (.inr (by omega)), row h.xO (fun k hk => .inl (h.xl k hk)), row h.gO (fun k hk => .inr (Nat.le_trans o.2.2.2.2.2.2.2.2 (World.ownsRow.lt h.gO k hk).1)), h.xl, h.ord⟩
/-- The timers of its answer have turned. -/
theorem LSy.turnG (h : LSy w Ws W D R AD AS YS sv xv gv zs zx zy zg xb gb lo hi X G) (t : W.grownBy W' gv.ownBlock) (o : OwT W' gb gv G') : LSy w Ws W' D R AD AS YS sv xv gv zs zx zy zg xb gb lo hi X G' := by
  have hr : ∀ k, gv.ownBlock = some k → hi ≤ k := fun k hk => Nat.le_trans h.ord.2.2.2.2.2.2.2.2 (World.ownsRow.lt h.gO k hk).1
  have kp : ∀ (b : Nat) (cs : Array Value) (t' : TypeId), W.heap[b]? = some (.cells cs t' (0, 0)) → t' ≠ 114 → W'.heap[b]? = some (.cells cs t' (0, 0)) := fun b cs t' hbb ht => (t.block b (Array.getElem?_eq_some_iff.1 hbb).1 (ne_row h.gO hbb ht)).trans hbb
  refine ⟨h.low.grown t h.low.size (fun k hk => by have := hr k hk; have := h.ord; omega), h.sB.grown t h.sB.size (fun k hk => by have := hr k hk; have := h.ord; omega), h.sV, kp _ _ _ h.aD (by decide), kp _ _ _ h.aS (by decide), kp _ _ _ h.s (by decide), kp _ _ _ h.x (by decide), kp _ _ _ h.y (by decide), kp _ _ _ h.g (by decide), h.xO.kept t ?_, o, h.xl, h.ord⟩
  cases hx : xv.ownBlock with
  | none => exact .inl rfl
  | some k =>
    right
    intro e
    have h1 := h.xl k hx
    have h2 := hr k e.symm
    have := h.ord
    omega
theorem LSy.sW (h : LSy w Ws W D R AD AS YS sv xv gv zs zx zy zg xb gb lo hi X G) : VDuty W (.agg #[.int .i64 R.ttl, .int .i64 R.wh.now, sv]) R := ⟨sv, rfl, h.sV.ext (ext_below h.sB)⟩
end

end Go.Proofs.YtnklnhnjmikooaaGreat

namespace Go.Proofs.YtnklnhnjmikooaaGreat
open Go.RowKit

/-- In v, operations that shut these can be read. -/
def RdO (w : World) (v : Value) (ids : List Int) : Prop := ∃ a c, v = .slice a ids.length c ∧ (0 < ids.length → ∃ g, a = some ⟨g, 0, none⟩ ∧ ∀ i, i < ids.length → ∀ c, c < 4 → w.cell? ⟨g, i * 4 + c, none⟩ = some (opF ids i c))
theorem row4_cell {base T n cap g : Nat} {w : World} {F : Nat → Nat → Value} (h : Row base T 4 w (.slice (some ⟨g, 0, none⟩) n cap) n F) (i : Nat) (hi : i < n) (c : Nat) (hc : c < 4) : w.cell? ⟨g, i * 4 + c, none⟩ = some (F i c) ∧ w.frozen? ⟨g, i * 4 + c, none⟩ = false := by
  rcases h.blk with ⟨h1, _⟩ | ⟨g', cap', h1, _, _, _, cur, p1, p2, p3⟩
  · cases h1
  · simp only [Value.slice.injEq, Option.some.injEq, Addr.mk.injEq, and_true] at h1
    obtain ⟨rfl, _, rfl⟩ := h1
    exact at_block p1 (i * 4 + c) _ (p3 i hi c hc)
theorem row4_set {base T n cap g : Nat} {w : World} {F : Nat → Nat → Value} (h : Row base T 4 w (.slice (some ⟨g, 0, none⟩) n cap) n F) (i c : Nat) (hc : c < 4) (u : Value) : Row base T 4 (w.setCell ⟨g, i * 4 + c, none⟩ u) (.slice (some ⟨g, 0, none⟩) n cap) n (fun i' c' => if i' = i ∧ c' = c then u else F i' c') := by
  rcases h.blk with ⟨h1, _⟩ | ⟨g', cap', h1, hb, hn, hm, cur, p1, p2, p3⟩
  · cases h1
  · simp only [Value.slice.injEq, Option.some.injEq, Addr.mk.injEq, and_true] at h1
    obtain ⟨rfl, _, rfl⟩ := h1
    refine Row.of_blk (by omega) ⟨_, set_block p1 (i * 4 + c) u, by simp [p2], fun i' hi' c' hc' => ?_⟩ hb hn hm
    rw [Array.getElem?_setIfInBounds]
    by_cases e : i * 4 + c = i' * 4 + c'
    · have e1 : i' = i := by omega
      have e2 : c' = c := by omega
      subst e1
      subst e2
      show _ = some (if i' = i' ∧ c' = c' then u else F i' c')
      rw [if_pos rfl, if_pos (by omega), if_pos ⟨rfl, rfl⟩]
    · show _ = some (if i' = i ∧ c' = c then u else F i' c')
      rw [if_neg e, if_neg (by rintro ⟨rfl, rfl⟩; exact e rfl)]
      exact p3 i' hi' c' hc'
theorem Row.rdO {base : Nat} {T : Nat} {w : World} {v : Value} {ids : List Int} (h : Row base T 4 w v ids.length (opF ids)) : RdO w v ids := by
  rcases h.blk with ⟨h1, h2⟩ | ⟨g, cap, rfl, _⟩
  · exact ⟨none, 0, by rw [h1, h2], fun h => by omega⟩
  · exact ⟨_, _, rfl, fun _ => ⟨g, rfl, fun i hi c hc => (row4_cell h i hi c hc).1⟩⟩
theorem RdO.ext {w w' : World} {v : Value} {ids : List Int} (h : RdO w v ids) (e : Ext w w') : RdO w' v ids := by
  obtain ⟨a, c, h1, h2⟩ := h
  refine ⟨a, c, h1, fun hl => ?_⟩
  obtain ⟨g, h3, h4⟩ := h2 hl
  exact ⟨g, h3, fun i hi c hc => World.grownBy.cell e (h4 i hi c hc) (by simp)⟩
theorem rv_nilO (w : World) : RV w (.slice none 0 0) [] := ⟨none, 0, rfl, Rd.nil _ _, Nat.le_refl _, Nat.zero_le _⟩

set_option maxHeartbeats 1000000 in
theorem eqOp5 (id : Int) (w : World) :
    Calls Tryz.prog 56 #[.agg #[.int .i64 5, .slice none 0 0, .slice none 0 0, .int .i64 id], .agg #[.int .i64 5, .slice none 0 0, .slice none 0 0, .int .i64 id]] w fun e w' => e = .returned (.bool true) ∧ Below w.heap.size w w' := by
  go_enter Tryz.func56, Tryz.ntmps56
  go_wp2_with fail
  refine (eqV_yes _ _ [] _ (rv_nilO _) (rv_nilO _) (by simp)).mono ?_
  rintro e w1 ⟨rfl, q1, rfl⟩
  go_wp2_with fail
  refine (eqV_yes _ _ [] _ (rv_nilO _) (rv_nilO _) (by simp)).mono ?_
  rintro e w2 ⟨rfl, q2, rfl⟩
  go_wp2
  go_ret
  exact ⟨rfl, below_drewN (((Below.refl _ w).alloc (Nat.le_refl _) _).alloc (by simp) _) _⟩

set_option maxHeartbeats 2000000 in
theorem eqOpsV (v u : Value) (ids : List Int) (w : World) (h : RdO w v ids) (k : RdO w u ids) (hn : ids.length ≤ 1000) :
    Calls Tryz.prog 18 #[v, u] w fun e w' => e = .returned (.bool true) ∧ Below w.heap.size w w' := by
  obtain ⟨a, c, rfl, h1⟩ := h
  obtain ⟨b, d, rfl, k1⟩ := k
  obtain ⟨n, hnn⟩ : ∃ n, n = ids.length := ⟨_, rfl⟩
  rw [← hnn] at h1 k1 hn ⊢
  have HN := hideD hnn
  have H1 := hideD h1
  have K1 := hideD k1
  have hml : (n : Int) ≤ 1000 := by omega
  clear hnn h1 k1
  go_enter Tryz.func18, Tryz.ntmps18
  go_wp2
  go_loopw [5] (fun i wr => ∃ k : Nat, k ≤ n ∧ i = .int .i64 k ∧ Below w.heap.size w wr) (fun i _ => n - (intOf i).toNat)
  case atStart => exact ⟨0, Nat.zero_le _, rfl, Below.refl _ _⟩
  case round =>
    obtain ⟨k, hk, rfl, hb⟩ := hrel
    by_cases hlt : k < n
    · obtain ⟨g, rfl, hc⟩ := H1.out (by omega)
      obtain ⟨g', rfl, hc'⟩ := K1.out (by omega)
      have cel : ∀ g, (∀ i, i < n → ∀ c, c < 4 → w.cell? ⟨g, i * 4 + c, none⟩ = some (opF ids i c)) → wr.cell? ⟨g, k * 4, none⟩ = some (.int .i64 5) ∧ wr.cell? ⟨g, k * 4 + 1, none⟩ = some (.slice none 0 0) ∧ wr.cell? ⟨g, k * 4 + 2, none⟩ = some (.slice none 0 0) ∧ wr.cell? ⟨g, k * 4 + 3, none⟩ = some (.int .i64 (ids.getD k 0)) := fun g h =>
        ⟨World.grownBy.cell (ext_below hb) (h k hlt 0 (by omega)) (by simp), World.grownBy.cell (ext_below hb) (h k hlt 1 (by omega)) (by simp), World.grownBy.cell (ext_below hb) (h k hlt 2 (by omega)) (by simp), World.grownBy.cell (ext_below hb) (h k hlt 3 (by omega)) (by simp)⟩
      obtain ⟨c0, c1, c2, c3⟩ := cel g hc
      obtain ⟨d0, d1, d2, d3⟩ := cel g' hc'
      have HEQ : Hid (∀ V, Calls Tryz.prog 56 #[.agg #[.int .i64 5, .slice none 0 0, .slice none 0 0, .int .i64 (ids.getD k 0)], .agg #[.int .i64 5, .slice none 0 0, .slice none 0 0, .int .i64 (ids.getD k 0)]] V fun e w' => e = .returned (.bool true) ∧ Below V.heap.size V w') := fun V => eqOp5 _ V
      have hlt' : (k : Int) < (n : Int) := by omega
      have hb5 : Below w.heap.size w wr.drew := below_drewN hb 1
      clear hc hc' cel
      go_wp2_with fail
      go_region_law (first | (go_simp; go_at_call 56; refine (HEQ.out _).mono ?_; rintro e w7 ⟨rfl, b7⟩))
      all_goals
        go_wp2
        go_roundw
        case rel => exact ⟨k + 1, by omega, by go_num, hb5.trans (b7.mono hb5.size)⟩
        case measure => simp [intOf]; omega
    · have hkn : k = n := by omega
      subst hkn
      go_wp2
      go_ret
      exact ⟨rfl, hb⟩

/-- The cells of operations the first j of which bear marks. -/
def mkO (k : Int) (j : Nat) (ids : List Int) : Nat → Nat → Value := fun i c => if c = 0 then (if i < j then .int .i64 (k + 2 * (i : Int)) else .int .i64 5) else if c = 3 then (if i < j then .int .i64 (k + 2 * (i : Int) + 1) else .int .i64 (ids.getD i 0)) else .slice none 0 0
theorem mkO_0 (k : Int) (ids : List Int) (i c : Nat) : opF ids i c = mkO k 0 ids i c := by
  unfold opF mkO
  simp
theorem mkO_next (k : Int) (ids : List Int) (j i c : Nat) : (if i = j ∧ c = 3 then (.int .i64 (k + 2 * (j : Int) + 1) : Value) else if i = j ∧ c = 0 then .int .i64 (k + 2 * (j : Int)) else mkO k j ids i c) = mkO k (j + 1) ids i c := by
  unfold mkO
  by_cases e : i = j
  · subst e
    by_cases h0 : c = 0
    · subst h0
      simp
    · by_cases h3 : c = 3
      · subst h3
        simp
      · simp [h0, h3]
  · have : (i < j + 1) = (i < j) := by simp; omega
    simp [e, this]

set_option maxHeartbeats 2000000 in
theorem markOpsV (base T : Nat) (v : Value) (ids : List Int) (k : Int) (w : World) (h : Row base T 4 w v ids.length (opF ids)) (hn : ids.length ≤ 1000) (hk0 : 0 ≤ k) (hk1 : k ≤ 100000000) :
    Calls Tryz.prog 19 #[v, .int .i64 k] w fun e w' => e = .returned (.int .i64 (k + 2 * ids.length)) ∧ Row base T 4 w' v ids.length (mkO k ids.length ids) ∧ w.grownBy w' v.ownBlock := by
  rcases h.blk with ⟨rfl, h0⟩ | ⟨g, cap, rfl, _⟩
  · rw [h0]
    go_enter Tryz.func19, Tryz.ntmps19
    go_wp2
    refine wp_loop_rounds 1 ?_
    rw [rounds_succ]
    go_wp2
    go_ret
    exact ⟨by simp, Row.nil _ _ _ _ _, grown_re _ _⟩
  · obtain ⟨n, hnn⟩ : ∃ n, n = ids.length := ⟨_, rfl⟩
    rw [← hnn] at hn h ⊢
    have HN := hideD hnn
    have HR0 : Hid (Row base T 4 w (.slice (some ⟨g, 0, none⟩) n cap) n (mkO k 0 ids)) := h.congr fun i _ c _ => mkO_0 k ids i c
    clear hnn h
    go_enter Tryz.func19, Tryz.ntmps19
    go_wp2
    go_loopw [1, 5] (fun kv i wr => ∃ j : Nat, j ≤ n ∧ i = .int .i64 j ∧ kv = .int .i64 (k + 2 * j) ∧ Hid (Row base T 4 wr (.slice (some ⟨g, 0, none⟩) n cap) n (mkO k j ids)) ∧ Hid (w.grownBy wr (some g))) (fun _ i _ => n - (intOf i).toNat)
    case atStart => exact ⟨0, Nat.zero_le _, rfl, by simp, HR0, grown_re _ _⟩
    case round =>
      obtain ⟨j, hj, rfl, rfl, HO, HG⟩ := hrel
      by_cases hlt : j < n
      · obtain ⟨c0, f0⟩ := row4_cell HO.out j hlt 0 (by omega)
        obtain ⟨c1, _⟩ := row4_cell HO.out j hlt 1 (by omega)
        obtain ⟨c2, _⟩ := row4_cell HO.out j hlt 2 (by omega)
        obtain ⟨c3, f3⟩ := row4_cell HO.out j hlt 3 (by omega)
        have e1 : mkO k j ids j 1 = .slice none 0 0 := rfl
        have e2 : mkO k j ids j 2 = .slice none 0 0 := rfl
        rw [e1] at c1
        rw [e2] at c2
        simp only [Nat.add_zero] at c0 f0
        have HR : Hid (Row base T 4 ((wr.setCell ⟨g, j * 4, none⟩ (.int .i64 (k + 2 * (j : Int)))).setCell ⟨g, j * 4 + 3, none⟩ (.int .i64 (k + 2 * (j : Int) + 1))) (.slice (some ⟨g, 0, none⟩) n cap) n (mkO k (j + 1) ids)) :=
          (row4_set (row4_set HO.out j 0 (by omega) (.int .i64 (k + 2 * (j : Int)))) j 3 (by omega) (.int .i64 (k + 2 * (j : Int) + 1))).congr fun i _ c _ => mkO_next k ids j i c
        have HG2 : Hid (w.grownBy ((wr.setCell ⟨g, j * 4, none⟩ (.int .i64 (k + 2 * (j : Int)))).setCell ⟨g, j * 4 + 3, none⟩ (.int .i64 (k + 2 * (j : Int) + 1))) (some g)) := (HG.out.trans (set_grown wr g _ _)).trans (set_grown _ g _ _)
        have hlt' : (j : Int) < (n : Int) := by omega
        have hw1 : IntKind.i64.wrap (k + 2 * (j : Int) + 1) = k + 2 * (j : Int) + 1 := by rw [IntKind.wrap_i64]; omega
        have hw2 : IntKind.i64.wrap (k + 2 * (j : Int) + 1 + 1) = k + 2 * (j : Int) + 1 + 1 := by rw [IntKind.wrap_i64]; omega
        have hw3 : IntKind.i64.wrap ((j : Int) + 1) = (j : Int) + 1 := by rw [IntKind.wrap_i64]; omega
        clear e1 e2 HO HG
        go_wp2_with fail
        refine (markB0 none 0 _ _).mono ?_
        rintro e w1 ⟨rfl, rfl⟩
        go_wp2_with fail
        refine (markB0 none 0 _ _).mono ?_
        rintro e w2 ⟨rfl, rfl⟩
        go_wp2
        go_roundw
        case rel => exact ⟨j + 1, by omega, by go_num, by go_num, HR, HG2⟩
        case measure => simp [intOf]; omega
      · have hin : j = n := by omega
        subst hin
        go_wp2
        go_ret
        exact ⟨rfl, HO.out, HG.out⟩

set_option maxHeartbeats 2000000 in
theorem heldOpsV (base T : Nat) (v : Value) (ids : List Int) (n : Nat) (k : Int) (w : World) (h : Row base T 4 w v n (mkO k n ids)) (hn : n ≤ 1000) (hk0 : 0 ≤ k) (hk1 : k ≤ 100000000) :
    Calls Tryz.prog 20 #[v, .int .i64 k] w fun e w' => e = .returned (.int .i64 (k + 2 * n)) ∧ w' = w := by
  rcases h.blk with ⟨rfl, rfl⟩ | ⟨g, cap, rfl, _⟩
  · go_enter Tryz.func20, Tryz.ntmps20
    go_wp2
    refine wp_loop_rounds 1 ?_
    rw [rounds_succ]
    go_wp2
    go_ret
    exact ⟨by simp, rfl⟩
  · have HO := hideD h
    clear h
    go_enter Tryz.func20, Tryz.ntmps20
    go_wp2
    go_loopw [1, 5] (fun kv i wr => ∃ j : Nat, j ≤ n ∧ i = .int .i64 j ∧ kv = .int .i64 (k + 2 * j) ∧ wr = w) (fun _ i _ => n - (intOf i).toNat)
    case atStart => exact ⟨0, Nat.zero_le _, rfl, by simp, rfl⟩
    case round =>
      obtain ⟨j, hj, rfl, rfl, rfl⟩ := hrel
      by_cases hlt : j < n
      · have c0 := (row4_cell HO.out j hlt 0 (by omega)).1
        have c1 := (row4_cell HO.out j hlt 1 (by omega)).1
        have c2 := (row4_cell HO.out j hlt 2 (by omega)).1
        have c3 := (row4_cell HO.out j hlt 3 (by omega)).1
        have e0 : mkO k n ids j 0 = .int .i64 (k + 2 * (j : Int)) := by unfold mkO; simp [hlt]
        have e1 : mkO k n ids j 1 = .slice none 0 0 := rfl
        have e2 : mkO k n ids j 2 = .slice none 0 0 := rfl
        have e3 : mkO k n ids j 3 = .int .i64 (k + 2 * (j : Int) + 1) := by unfold mkO; simp [hlt]
        rw [e0] at c0
        rw [e1] at c1
        rw [e2] at c2
        rw [e3] at c3
        simp only [Nat.add_zero] at c0
        have hlt' : (j : Int) < (n : Int) := by omega
        have hw1 : IntKind.i64.wrap (k + 2 * (j : Int) + 1) = k + 2 * (j : Int) + 1 := by rw [IntKind.wrap_i64]; omega
        have hw2 : IntKind.i64.wrap (k + 2 * (j : Int) + 1 + 1) = k + 2 * (j : Int) + 1 + 1 := by rw [IntKind.wrap_i64]; omega
        have hw3 : IntKind.i64.wrap ((j : Int) + 1) = (j : Int) + 1 := by rw [IntKind.wrap_i64]; omega
        have hng : ¬ (k + 2 * (j : Int) + 1 < 0) := by omega
        have hngd : decide (k + 2 * (j : Int) + 1 < 0) = false := decide_eq_false hng
        clear e0 e1 e2 e3
        go_wp2_with fail
        refine (heldV (.slice none 0 0) 0 _ _ (rv_nilO _) (by omega) (by omega) (by omega)).mono ?_
        rintro e w1 ⟨rfl, rfl⟩
        go_wp2_with fail
        refine (heldV (.slice none 0 0) 0 _ _ (rv_nilO _) (by omega) (by omega) (by omega)).mono ?_
        rintro e w2 ⟨rfl, rfl⟩
        go_wp2
        go_roundw
        case rel => exact ⟨j + 1, by omega, by go_num, by go_num, by first | trivial | rfl⟩
        case measure => simp [intOf]; omega
      · have hin : j = n := by omega
        subst hin
        go_wp2
        go_ret
        exact ⟨rfl, rfl⟩

end Go.Proofs.YtnklnhnjmikooaaGreat

namespace Go.Proofs.YtnklnhnjmikooaaGreat
open Go.RowKit

/-- What a call that turns the duty's wheel leaves: its box holds this wheel now. -/
def DSet (base h : Nat) (ttl : Int) (R : DWheel) (w : World) (w' : World) : Prop := ∃ a cap, DB w' base h ttl R.now a cap R.tms ∧ w.grownBy w' (some h)
theorem DB.blk {w : World} {base h cap : Nat} {ttl now : Int} {a : Option Addr} {ts : List DTim} (p : DB w base h ttl now a cap ts) : h < w.heap.size := (Array.getElem?_eq_some_iff.1 p.box).1

set_option maxRecDepth 20000 in
set_option maxHeartbeats 4000000 in
theorem ssyncV (h base cap : Nat) (ttl now : Int) (a : Option Addr) (ts : List DTim) (v : Value) (S : DState) (w0 w : World) (p : DB w base h ttl now a cap ts) (hb : base ≤ w.heap.size) (hp : WheelP ⟨now, ts⟩) (hv : VState w0 v S) (hx : Below w0.heap.size w0 w) (hh : w0.heap.size ≤ h) (hl : S.sess.length ≤ 1000000) :
    Calls Tryz.prog 29 #[.pointer (some ⟨h, 0, none⟩), v] w fun e w' => e = .returned (.bool (syncW ⟨ttl, ⟨now, ts⟩⟩ S.sess).2) ∧ DSet base h ttl (syncW ⟨ttl, ⟨now, ts⟩⟩ S.sess).1 w w' := by
  have hE : ∀ w : World, ∀ o, Ext w (w.alloc o) := fun w o => World.grownBy_alloc _ _ _
  have HVS0 : Hid (VState w0 v S) := hv
  obtain ⟨rv, uv, sev, lv, rfl, hr, ht, hse, hla⟩ := hv
  have HSE : Hid (VSess w0 sev S.sess) := hse
  obtain ⟨ss, hss⟩ : ∃ ss, ss = S.sess := ⟨_, rfl⟩
  have HSS := hideD hss
  rw [← hss] at HSE hl ⊢
  obtain ⟨C, ⟨sa, sc, rfl, h1, h2, h3⟩, hC⟩ := HSE.out
  obtain ⟨m, hm⟩ : ∃ m, m = ss.length := ⟨_, rfl⟩
  have HMM := hideD hm
  have HC : Hid (∀ (i : Nat) (r : DSess), ss[i]? = some r → C i 0 = .int .i64 r.id ∧ C i 1 = .bool r.del) := hC
  have HSL : S.sess.length = m := by rw [hm, hss]
  have HSLh := hideD HSL
  rw [← hm] at h1 h3 HSE HVS0 ⊢
  have H3 : Hid (0 < m → ∃ b o, sa = some ⟨b, o, none⟩ ∧ b < w0.heap.size ∧ ∀ i, i < m → ∀ j, j < 2 → w0.cell? ⟨b, o + i * 2 + j, none⟩ = some (C i j)) := h3
  have HX := hideD hx
  have HH := hideD hh
  have HBB := hideD hb
  have HWP := hideD hp
  have hml : (m : Int) ≤ 1000000 := by omega
  have HP : Hid (DB w base h ttl now a cap ts) := p
  obtain ⟨n, hn⟩ : ∃ n, n = ts.length := ⟨_, rfl⟩
  have HN := hideD hn
  have hnl : n ≤ 40 := by rw [hn]; exact hp.2.1
  have hhw : h < w.heap.size := p.blk
  obtain ⟨R, hR⟩ : ∃ R, R = syncW ⟨ttl, ⟨now, ts⟩⟩ ss := ⟨_, rfl⟩
  rw [← hR]
  have HR : Hid (R = syncW ⟨ttl, ⟨now, ts⟩⟩ ss) := hR
  have hscl : sc ≤ 9223372036854775807 := by unfold maxLen at h2; omega
  clear hC hm hx hh hb hp hn p h3 hR hss HSL hr ht hse hla h2
  go_enter Tryz.func29, Tryz.ntmps29
  go_upto_region 1 with fail
  generalize hW : w.alloc _ = W
  have PS : W.heap[w.heap.size]? = some (.cells #[.int .i64 S.index, rv, uv, .int .i64 S.lost, .slice sa m sc, lv] 48 (0, 0)) := by rw [← hW]; exact heap_alloc_new _ _
  have XW : Ext w W := by rw [← hW]; exact hE _ _
  clear hW
  have HPS := hideD PS
  have HXW := hideD XW
  have HK0 : Hid (DSet base h ttl ⟨now, ts⟩ W W) := ⟨a, cap, HP.out.below (ext_bel XW), World.grownBy.refl _ _⟩
  have HBW := hideD (HX.out.trans ((ext_bel XW).mono HX.out.size))
  have HBB2 : Hid (base ≤ W.heap.size) := Nat.le_trans HBB.out XW.size
  have HNE : Hid (h ≠ w.heap.size) := by show _ ≠ _; omega
  clear PS XW
  go_wp2_with fail
  go_loopg [5, 6] n (fun gk b i wr => ∃ j : Nat, j ≤ n ∧ n - j ≤ gk ∧ b = .bool (goneT ss (ts.take j)) ∧ i = .int .i64 ((keepT ss (ts.take j)).length : Nat) ∧ Hid (DSet base h ttl ⟨now, keepT ss (ts.take j) ++ ts.drop j⟩ W wr))
  case atStart => exact ⟨0, Nat.zero_le _, Nat.le_refl _, rfl, rfl, HK0⟩
  case round =>
    obtain ⟨j, hj, hgk, rfl, rfl, HK⟩ := hrel
    obtain ⟨HG, HKB⟩ : Hid (W.grownBy wr (some h)) ∧ Hid (∃ a2 cap2, DB wr base h ttl now a2 cap2 (keepT ss (ts.take j) ++ ts.drop j)) := by
      obtain ⟨a2, cap2, k1, k2⟩ := HK.out
      exact ⟨k2, a2, cap2, k1⟩
    have HB0 : Hid (Below w0.heap.size w0 wr) := HBW.out.grown HG.out HBW.out.size (fun k hk => by cases hk; exact HH.out)
    have HPSR : Hid (wr.heap[w.heap.size]? = some (.cells #[.int .i64 S.index, rv, uv, .int .i64 S.lost, .slice sa m sc, lv] 48 (0, 0))) := (HG.out.block _ (Array.getElem?_eq_some_iff.1 HPS.out).1 (fun e => HNE.out (by cases e; rfl))).trans HPS.out
    obtain ⟨q, hq⟩ : ∃ q, q = (keepT ss (ts.take j)).length := ⟨_, rfl⟩
    have HQ := hideD hq
    have hqn : q ≤ j := by rw [hq]; exact Nat.le_trans (List.length_filter_le _ _) (by simp; omega)
    rw [← hq]
    clear hq
    obtain ⟨L, hL⟩ : ∃ L, L = keepT ss (ts.take j) ++ ts.drop j := ⟨_, rfl⟩
    have HL := hideD hL
    have hLl : L.length = q + (n - j) := by rw [hL, List.length_append, ← HQ.out, List.length_drop, ← HN.out]
    obtain ⟨l, hl⟩ : ∃ l, l = L.length := ⟨_, rfl⟩
    have HLL := hideD hl
    have hlq : l = q + (n - j) := by omega
    rw [← hL] at HKB
    obtain ⟨a2, cap2, kb⟩ := HKB.out
    obtain ⟨e0, e1, _⟩ := kb.cells
    rw [← hl] at e1
    have HKX := hideD kb
    have hlx : (l : Int) ≤ 40 := by omega
    by_cases hlt : j < n
    · obtain ⟨t, ht⟩ : ∃ t, ts[j]? = some t := ⟨_, List.getElem?_eq_getElem (by have := HN.out; omega)⟩
      have hLt : L[q]? = some t := by rw [hL, List.getElem?_append_right (by rw [HQ.out]; exact Nat.le_refl _), ← HQ.out, Nat.sub_self, List.getElem?_drop, Nat.add_zero]; exact ht
      obtain ⟨g, ha2⟩ : ∃ g, a2 = some ⟨g, 0, none⟩ := by
        rcases kb.row.2 with ⟨_, h0⟩ | ⟨g, c, cur, hv, _⟩
        · omega
        · simp only [Value.slice.injEq] at hv
          exact ⟨g, hv.1⟩
      subst ha2
      obtain ⟨f0, f1, _, _⟩ := OwT.cells kb.row rfl hLt
      have zs0 := bw_cell (at_block HPSR.out 0 _ rfl).1
      have zs1 := bw_cell (at_block HPSR.out 1 _ rfl).1
      have zs2 := bw_cell (at_block HPSR.out 2 _ rfl).1
      have zs3 := bw_cell (at_block HPSR.out 3 _ rfl).1
      have zs4 := bw_cell (at_block HPSR.out 4 _ rfl).1
      have zs5 := bw_cell (at_block HPSR.out 5 _ rfl).1
      have z1 := bw_cell e1
      have zt := bw_cell f0
      have nonV := bw_ne wr
      have HT := hideD ht
      have HLT := hideD hLt
      have hlt' : (q : Int) < (l : Int) := by omega
      have hlp : (0 : Int) ≤ (q : Int) := by omega
      obtain ⟨r, hr⟩ : ∃ r, r = fnd (fun s : DSess => decide (s.id = t.id)) ss := ⟨_, rfl⟩
      have HHR : Hid (hasI ss t.id = decide (0 ≤ r)) := by show _ = _; rw [hr]; rfl
      have HSES : Hid (∀ z : BW wr, Calls Tryz.prog 66 #[.agg #[.int .i64 S.index, rv, uv, .int .i64 S.lost, .slice sa m sc, lv], .int .i64 t.id] z.u fun e w' => e = .returned (.int .i64 r) ∧ Below z.u.heap.size z.u w') := fun z => by
        rw [hr]
        exact sl2sessV _ _ _ _ _ _ ss t.id z.u ((HSE.out.ext (ext_below HB0.out)).ext (bw_ext z))
      clear HK HKB ht hLt kb f0 f1 hr hL hl
      by_cases hneg : r < 0
      · have hneg' : decide (r < 0) = true := decide_eq_true hneg
        have HHS : Hid (hasI ss t.id = false) := by show _ = _; rw [HHR.out]; exact decide_eq_false (by omega)
        have HGN : Hid (goneT ss (ts.take (j + 1)) = true) := by show _ = _; rw [gone_next HT.out, HHS.out]; simp
        have HKN : Hid (keepT ss (ts.take (j + 1)) = keepT ss (ts.take j)) := by show _ = _; rw [keep_next HT.out, HHS.out]; simp
        have HST : Hid (∀ V, Ext wr V → Calls Tryz.prog 70 #[.pointer (some ⟨h, 1, none⟩), .int .i64 t.id] V fun e w' => ∃ bb, e = .returned (.bool bb) ∧ Hid (DSet base h ttl ⟨now, keepT ss (ts.take (j + 1)) ++ ts.drop (j + 1)⟩ W w')) := fun V hV => by
          have hwp := wheel_sub HWP.out (keep_sub ss ts j)
          have hkb := HKX.out.below (ext_bel hV)
          refine (sstopVD h base cap2 ttl now _ L t.id V hkb (by have := HLL.out; omega) (Nat.le_trans HBB2.out (Nat.le_trans HG.out.size hV.size))).mono ?_
          rintro e w' ⟨b, a3, cap3, ts', rfl, hq, k1, k2⟩
          refine ⟨b, rfl, a3, cap3, ?_, (HG.out.trans (grown_below (ext_bel hV) _)).trans k2⟩
          have hst : stopD true ⟨now, L⟩ t.id = (⟨now, ts'⟩, b) := by
            unfold stopD
            rcases hq with ⟨q1, q2, q3⟩ | ⟨q1, i, q2, q3, q4⟩
            · rw [if_pos rfl, q2, if_pos (by omega), q1, q3]
            · rw [if_pos rfl, q2, if_neg (by omega), q1, q4, Int.toNat_natCast]
          rw [HL.out, drop_next HT.out] at hst
          rw [drop_next HT.out] at hwp
          rw [stop_mid hwp] at hst
          injection hst with q1 _
          injection q1 with _ q2
          rw [HKN.out, q2]
          exact k1
        go_wp2_with fail
        refine wp_region_bw (by kernel_rfl) (by kernel_rfl) ?_
        repeat (go_big_quiet_step ((go_at_call 66; exact bw_below (HSES.out _))))
        refine wpQuiet_nil ?_
        intro _ hw'
        obtain ⟨z, hw''⟩ := hw'
        subst hw''
        have y1 := z1 z
        have yt := zt z
        have HXZ := hideD (bw_ext z)
        generalize z.u = Z at *
        clear zs0 zs1 zs2 zs3 zs4 zs5 z1 zt nonV HSES e0 e1
        go_wp2_with fail
        go_region_law (first | (go_simp; go_at_call 70; refine (HST.out _ ?_).mono ?_; exact HXZ.out.trans (ext_drewN _ 1); rintro e w3 ⟨bb, rfl, K3⟩))
        all_goals
          have hw1 : IntKind.i64.wrap ((q : Int) - 1) = (q : Int) - 1 := by rw [IntKind.wrap_i64]; omega
          have hw2 : IntKind.i64.wrap ((q : Int) - 1 + 1) = (q : Int) := by rw [IntKind.wrap_i64]; omega
          go_wp2
          go_roundg (n - (j + 1))
          case measure => omega
          case rel => exact ⟨j + 1, by omega, Nat.le_refl _, by rw [HGN.out], by rw [HKN.out, ← HQ.out], K3⟩
      · have hneg' : decide (r < 0) = false := decide_eq_false hneg
        have HHS : Hid (hasI ss t.id = true) := by show _ = _; rw [HHR.out]; exact decide_eq_true (by omega)
        have HGN : Hid (goneT ss (ts.take (j + 1)) = goneT ss (ts.take j)) := by show _ = _; rw [gone_next HT.out, HHS.out]; simp
        have HKN : Hid ((keepT ss (ts.take (j + 1))).length = q + 1) := by show _ = _; rw [keep_next HT.out, HHS.out, if_pos rfl, List.length_append, ← HQ.out]; rfl
        have HKS : Hid (∀ V, Ext wr V → DSet base h ttl ⟨now, keepT ss (ts.take (j + 1)) ++ ts.drop (j + 1)⟩ W V) := fun V hV => by
          have e : keepT ss (ts.take (j + 1)) ++ ts.drop (j + 1) = L := by
            rw [HL.out, keep_next HT.out, HHS.out, if_pos rfl, drop_next HT.out]
            simp
          rw [e]
          exact ⟨some ⟨g, 0, none⟩, cap2, HKX.out.below (ext_bel hV), HG.out.trans (grown_below (ext_bel hV) _)⟩
        go_wp2_with fail
        refine wp_region_bw (by kernel_rfl) (by kernel_rfl) ?_
        repeat (go_big_quiet_step ((go_at_call 66; exact bw_below (HSES.out _))))
        refine wpQuiet_nil ?_
        intro _ hw'
        obtain ⟨z, hw''⟩ := hw'
        subst hw''
        have HKZ := hideD (HKS.out _ (bw_ext z))
        generalize z.u = Z at *
        clear zs0 zs1 zs2 zs3 zs4 zs5 z1 zt nonV HSES e0 e1 HKS
        have hw1 : IntKind.i64.wrap ((q : Int) + 1) = (q : Int) + 1 := by rw [IntKind.wrap_i64]; omega
        go_wp2
        go_roundg (n - (j + 1))
        case measure => omega
        case rel => exact ⟨j + 1, by omega, Nat.le_refl _, by rw [HGN.out], by rw [HKN.out]; go_num, HKZ⟩
    · have hjn : j = n := by omega
      subst hjn
      obtain ⟨wo, hwo⟩ : ∃ wo, wo = wr := ⟨_, rfl⟩
      subst hwo
      have hlq' : ¬ ((q : Int) < (l : Int)) := by omega
      have hlqd : decide ((q : Int) < (l : Int)) = false := decide_eq_false hlq'
      have hE1 : L = keepT ss ts := by rw [HL.out, List.take_of_length_le (by have := HN.out; omega), List.drop_of_length_le (by have := HN.out; omega), List.append_nil]
      have hE2 : goneT ss (ts.take j) = goneT ss ts := by rw [List.take_of_length_le (by have := HN.out; omega)]
      rw [← HL.out, hE1] at HK
      rw [hE2]
      obtain ⟨W0, hW0⟩ : ∃ W0, W0 = (⟨now, keepT ss ts⟩ : DWheel) := ⟨_, rfl⟩
      obtain ⟨b0, hb0⟩ : ∃ b0, b0 = goneT ss ts := ⟨_, rfl⟩
      have HW0 : Hid (WheelP W0) := by rw [hW0]; exact wheel_sub HWP.out List.filter_sublist
      have HRR : Hid (R = addS ttl ss W0 b0) := by show _ = _; rw [HR.out, hW0, hb0]; rfl
      rw [← hW0] at HK
      rw [← hb0]
      have HKI := HK
      obtain ⟨s4, _⟩ := at_block HPSR.out 4 _ rfl
      clear hE1 hE2 hW0 hb0 HKB HB0 HG hlt hj hgk hL hl hLl hlq kb HKX HL HLL HQ hqn hlx
      go_wp2_with fail
      go_loopw [5, 7] (fun b i wr => ∃ j : Nat, j ≤ m ∧ b = .bool (addS ttl (ss.take j) W0 b0).2 ∧ i = .int .i64 j ∧ Hid (DSet base h ttl (addS ttl (ss.take j) W0 b0).1 W wr)) (fun _ i _ => m - (intOf i).toNat)
      case atStart => exact ⟨0, Nat.zero_le _, rfl, rfl, HKI⟩
      case round =>
        clear HK HKI e0 e1 s4 HPSR
        obtain ⟨j, hj, rfl, rfl, HK⟩ := hrel
        obtain ⟨⟨V, fl⟩, hWf⟩ : ∃ p, p = addS ttl (ss.take j) W0 b0 := ⟨_, rfl⟩
        have HWF : Hid ((V, fl) = addS ttl (ss.take j) W0 b0) := hWf
        rw [← hWf] at HK ⊢
        have HWP2 : Hid (WheelP V) := by have := (addS_p ttl (ss.take j) (b := b0) HW0.out).1; rw [← hWf] at this; exact this
        clear hWf
        obtain ⟨HG, HKB⟩ : Hid (W.grownBy wr (some h)) ∧ Hid (∃ a2 cap2, DB wr base h ttl V.now a2 cap2 V.tms) := by
          obtain ⟨a2, cap2, k1, k2⟩ := HK.out
          exact ⟨k2, a2, cap2, k1⟩
        have HB0 : Hid (Below w0.heap.size w0 wr) := HBW.out.grown HG.out HBW.out.size (fun k hk => by cases hk; exact HH.out)
        have HPSR : Hid (wr.heap[w.heap.size]? = some (.cells #[.int .i64 S.index, rv, uv, .int .i64 S.lost, .slice sa m sc, lv] 48 (0, 0))) := (HG.out.block _ (Array.getElem?_eq_some_iff.1 HPS.out).1 (fun e => HNE.out (by cases e; rfl))).trans HPS.out
        obtain ⟨s4, _⟩ := at_block HPSR.out 4 _ rfl
        by_cases hlt : j < m
        · obtain ⟨s, hs⟩ : ∃ s, ss[j]? = some s := ⟨_, List.getElem?_eq_getElem (by have := HMM.out; omega)⟩
          obtain ⟨b, o, ha, hbl, hc⟩ := H3.out (by omega)
          subst ha
          obtain ⟨f0, f1⟩ := HC.out j s hs
          have x0 := World.grownBy.cell (ext_below HB0.out) (hc j hlt 0 (by omega)) (by simp)
          rw [f0, Nat.add_zero] at x0
          have HS := hideD hs
          have hlt' : (j : Int) < (m : Int) := by omega
          obtain ⟨a2, cap2, kb⟩ := HKB.out
          have ktt := (at_block kb.box 0 _ rfl).1
          obtain ⟨e0, e1, _⟩ := kb.cells
          obtain ⟨l, hl⟩ : ∃ l, l = V.tms.length := ⟨_, rfl⟩
          have HLL := hideD hl
          have HVT : Hid (VTims wr (.slice a2 l cap2) V.tms) := by rw [hl]; exact kb.row.v
          rw [← hl] at e1
          have HKX := hideD kb
          have z1 := bw_cell e1
          have z4 := bw_cell s4
          have zx := bw_cell x0
          have nonV := bw_ne wr
          obtain ⟨r, hr⟩ : ∃ r, r = placeT V.tms s.id := ⟨_, rfl⟩
          have HPR := hideD hr
          have HF : Hid (∀ z : BW wr, Calls Tryz.prog 71 #[.slice a2 l cap2, .int .i64 s.id] z.u fun e w' => e = .returned (.int .i64 r) ∧ w' = z.u) := fun z => by
            rw [hr]
            exact sfindV _ _ _ _ (HVT.out.ext (bw_ext z))
          have HNX : Hid (addS ttl (ss.take (j + 1)) W0 b0 = if r < 0 then ((setD true V s.id ttl).1, true) else (V, fl)) := by
            show _ = _
            rw [addS_next HS.out, ← HWF.out, hr]
          clear HK HKB hbl f0 f1 hc hs kb hr hl e0
          by_cases hneg : r < 0
          · have hneg' : decide (r < 0) = true := decide_eq_true hneg
            have HFN : Hid ((addS ttl (ss.take (j + 1)) W0 b0).2 = true) := by show _ = _; rw [HNX.out, if_pos hneg]
            have HST : Hid (∀ Z, Ext wr Z → Calls Tryz.prog 52 #[.pointer (some ⟨h, 1, none⟩), .int .i64 s.id, .int .i64 ttl] Z fun e w' => ∃ bb, e = .returned (.bool bb) ∧ Hid (DSet base h ttl (addS ttl (ss.take (j + 1)) W0 b0).1 W w')) := fun Z hZ => by
              have hw2 := HWP2.out
              refine (ssetVD h base cap2 ttl V.now a2 V.tms s.id ttl Z (HKX.out.below (ext_bel hZ)) (Nat.le_trans hw2.2.1 (by omega)) (Nat.le_trans HBB2.out (Nat.le_trans HG.out.size hZ.size)) hw2.1.1 hw2.1.2).mono ?_
              rintro e w' ⟨b, a3, cap3, ts', rfl, hq, k1, k2⟩
              refine ⟨b, rfl, ?_⟩
              have hst : setD true V s.id ttl = (⟨V.now, ts'⟩, b) := by
                rcases hq with ⟨q1, q2, q3⟩ | ⟨q1, q2, q3⟩
                · rw [q1, q3]
                  exact set_bad q2
                · rw [q1, q3]
                  exact set_good q2
              rw [HNX.out, if_pos hneg, hst]
              exact ⟨a3, cap3, k1, (HG.out.trans (grown_below (ext_bel hZ) _)).trans k2⟩
            go_wp2_with fail
            refine wp_region_bw (by kernel_rfl) (by kernel_rfl) ?_
            repeat (go_big_quiet_step ((go_at_call 71; exact bw_same (HF.out _))))
            refine wpQuiet_nil ?_
            intro _ hw'
            obtain ⟨z, hw''⟩ := hw'
            subst hw''
            have y1 := z1 z
            have y4 := z4 z
            have yx := zx z
            have yt := bw_cell ktt z
            have HXZ := hideD (bw_ext z)
            generalize z.u = Z at *
            clear z1 z4 zx nonV HF ktt e1 s4 x0
            go_wp2_with fail
            go_region_law (first | (go_simp; go_at_call 52; refine (HST.out _ ?_).mono ?_; exact HXZ.out.trans (ext_drewN _ 1); rintro e w3 ⟨bb, rfl, K3⟩))
            all_goals
              go_wp2
              go_roundw
              case rel => exact ⟨j + 1, by omega, by rw [HFN.out], by go_num, K3⟩
              case measure => simp [intOf]; omega
          · have hneg' : decide (r < 0) = false := decide_eq_false hneg
            have HFN : Hid ((addS ttl (ss.take (j + 1)) W0 b0).2 = fl) := by show _ = _; rw [HNX.out, if_neg hneg]
            have HKS : Hid (∀ Z, Ext wr Z → DSet base h ttl (addS ttl (ss.take (j + 1)) W0 b0).1 W Z) := fun Z hZ => by
              rw [HNX.out, if_neg hneg]
              exact ⟨a2, cap2, HKX.out.below (ext_bel hZ), HG.out.trans (grown_below (ext_bel hZ) _)⟩
            go_wp2_with fail
            refine wp_region_bw (by kernel_rfl) (by kernel_rfl) ?_
            repeat (go_big_quiet_step ((go_at_call 71; exact bw_same (HF.out _))))
            refine wpQuiet_nil ?_
            intro _ hw'
            obtain ⟨z, hw''⟩ := hw'
            subst hw''
            have HKZ := hideD (HKS.out _ (bw_ext z))
            generalize z.u = Z at *
            clear z1 z4 zx nonV HF HKS ktt e1 s4 x0
            go_wp2
            go_roundw
            case rel => exact ⟨j + 1, by omega, by rw [HFN.out], by go_num, HKZ⟩
            case measure => simp [intOf]; omega
        · have hjm : j = m := by omega
          subst hjm
          have HKN : Hid (R = (V, fl)) := by
            show _ = _
            rw [HRR.out, HWF.out, List.take_of_length_le (by have := HMM.out; omega)]
          have HKF : Hid (DSet base h ttl V w wr) := by
            obtain ⟨a2, cap2, k1, k2⟩ := HK.out
            exact ⟨a2, cap2, k1, (grown_below (ext_bel HXW.out) _).trans k2⟩
          clear HKB HB0 HG HK
          go_wp2
          go_ret
          rw [HKN.out]
          exact ⟨rfl, HKF.out⟩

end Go.Proofs.YtnklnhnjmikooaaGreat

namespace Go.Proofs.YtnklnhnjmikooaaGreat
open Go.RowKit

set_option maxRecDepth 20000 in
set_option maxHeartbeats 4000000 in
theorem sDutySyncV (v sv : Value) (D : DDuty) (S : DState) (w : World) (h : VDuty w v D) (hs : VState w sv S) (hl : D.wh.tms.length ≤ 1048576) :
    Calls Tryz.prog 7 #[v, sv] w (ResD (syncX (tB (DutyP D)) (tB (StP S)) D S.sess) w) := by
  have HV0 : Hid (VDuty w v D) := h
  have HS0 : Hid (VState w sv S) := hs
  have HL : Hid (D.wh.tms.length ≤ 1048576) := hl
  obtain ⟨tv, rfl, h⟩ := h
  obtain ⟨ta, tc', rfl⟩ := h.shape
  obtain ⟨n, hn⟩ : ∃ n, n = D.wh.tms.length := ⟨_, rfl⟩
  rw [← hn] at HV0 ⊢
  obtain ⟨rv, uv, sev, lv, rfl, hr, ht, hse, hla⟩ := hs
  have HSE : Hid (VSess w sev S.sess) := hse
  obtain ⟨sea, sec, hsev⟩ : ∃ a c, sev = .slice a S.sess.length c := by
    obtain ⟨C, ⟨a, c, e, _⟩, _⟩ := hse
    exact ⟨a, c, e⟩
  obtain ⟨sm, hsm⟩ : ∃ m, m = S.sess.length := ⟨_, rfl⟩
  rw [← hsm] at hsev
  subst hsev
  clear h hn hl hr ht hse hla hsm
  obtain ⟨c, hc⟩ : ∃ c, c = tB (DutyP D) := ⟨_, rfl⟩
  obtain ⟨d, hd⟩ : ∃ d, d = tB (StP S) := ⟨_, rfl⟩
  have HC : Hid (c = tB (DutyP D)) := hc
  have HD : Hid (d = tB (StP S)) := hd
  rw [← hc, ← hd]
  clear hc hd
  have HSO : Hid (∀ V, Ext w V → Calls Tryz.prog 27 #[.agg #[.int .i64 S.index, rv, uv, .int .i64 S.lost, .slice sea sm sec, lv]] V fun e w' => e = .returned (.bool d) ∧ Below V.heap.size V w') := fun V e => by rw [HD.out]; exact sStateOkV _ S V (HS0.out.ext e)
  have HDO : Hid (∀ V, Ext w V → Calls Tryz.prog 26 #[.agg #[.int .i64 D.ttl, .int .i64 D.wh.now, .slice ta n tc']] V fun e w' => e = .returned (.bool c) ∧ Below V.heap.size V w') := fun V e => by rw [HC.out]; exact sDutyOkV _ D V (HV0.out.ext e)
  obtain ⟨R, hR⟩ : ∃ R, R = syncX c d D S.sess := ⟨_, rfl⟩
  have HR : Hid (R = syncX c d D S.sess) := hR
  rw [← hR]
  clear hR
  go_enter Tryz.func7, Tryz.ntmps7
  go_upto_region 1 with fail
  have PA := al3a w (.cells #[.int .i64 D.ttl, .int .i64 D.wh.now, .slice ta n tc'] 39 (0, 0)) (.cells #[.int .i64 S.index, rv, uv, .int .i64 S.lost, .slice sea sm sec, lv] 48 (0, 0)) (.cells #[.int .i64 0, .int .i64 0, .slice none 0 0] 39 (0, 0))
  have PB := al3b w (.cells #[.int .i64 D.ttl, .int .i64 D.wh.now, .slice ta n tc'] 39 (0, 0)) (.cells #[.int .i64 S.index, rv, uv, .int .i64 S.lost, .slice sea sm sec, lv] 48 (0, 0)) (.cells #[.int .i64 0, .int .i64 0, .slice none 0 0] 39 (0, 0))
  have PR := al3c w (.cells #[.int .i64 D.ttl, .int .i64 D.wh.now, .slice ta n tc'] 39 (0, 0)) (.cells #[.int .i64 S.index, rv, uv, .int .i64 S.lost, .slice sea sm sec, lv] 48 (0, 0)) (.cells #[.int .i64 0, .int .i64 0, .slice none 0 0] 39 (0, 0))
  generalize hW : World.alloc (World.alloc (World.alloc w _) _) _ = W at PA PB PR ⊢
  have BW : Below w.heap.size w W := by rw [← hW]; exact (((Below.refl _ w).alloc (Nat.le_refl _) _).alloc (by simp) _).alloc (by simp; omega) _
  clear hW
  obtain ⟨x0, _⟩ := at_block PA 0 _ rfl
  obtain ⟨x1, _⟩ := at_block PA 1 _ rfl
  obtain ⟨x2, _⟩ := at_block PA 2 _ rfl
  go_wp2_with fail
  refine (HDO.out W (ext_below BW)).mono ?_
  rintro e w1 ⟨rfl, b1⟩
  have PA1 := below_blk b1 (Array.getElem?_eq_some_iff.1 PA).1 PA
  have PB1 := below_blk b1 (Array.getElem?_eq_some_iff.1 PB).1 PB
  have PR1 := below_blk b1 (Array.getElem?_eq_some_iff.1 PR).1 PR
  have HB1 : Hid (Below w.heap.size w w1) := BW.trans (b1.mono BW.size)
  clear b1 PA PB PR BW x0 x1 x2
  cases c
  · have HRZ : Hid (R = (⟨0, ⟨0, []⟩⟩, false)) := HR.out
    obtain ⟨z0, y0⟩ := at_block PR1 0 _ rfl
    obtain ⟨z1, y1⟩ := at_block PR1 1 _ rfl
    obtain ⟨z2, y2⟩ := at_block PR1 2 _ rfl
    clear PA1 PB1 PR1
    go_wp2
    refine bodyPost_ret (v := .tuple #[.agg #[.int .i64 0, .int .i64 0, .slice none 0 0], .bool false]) (by simp [results, Tryz.results7, go_sem, *]) rfl ?_
    rw [HRZ.out]
    refine ⟨_, rfl, World.ownsRow_nil _ _ _ _, ?_⟩
    repeat (first | exact HB1.out | (refine Below.setCell ?_ (by simp <;> omega) _))
  obtain ⟨x0, _⟩ := at_block PB1 0 _ rfl
  obtain ⟨x1, _⟩ := at_block PB1 1 _ rfl
  obtain ⟨x2, _⟩ := at_block PB1 2 _ rfl
  obtain ⟨x3, _⟩ := at_block PB1 3 _ rfl
  obtain ⟨x4, _⟩ := at_block PB1 4 _ rfl
  obtain ⟨x5, _⟩ := at_block PB1 5 _ rfl
  go_wp2_with fail
  refine (HSO.out w1 (ext_below HB1.out)).mono ?_
  rintro e w2 ⟨rfl, b2⟩
  have PA2 := below_blk b2 (Array.getElem?_eq_some_iff.1 PA1).1 PA1
  have PB2 := below_blk b2 (Array.getElem?_eq_some_iff.1 PB1).1 PB1
  have PR2 := below_blk b2 (Array.getElem?_eq_some_iff.1 PR1).1 PR1
  have HB2 : Hid (Below w.heap.size w w2) := HB1.out.trans (b2.mono HB1.out.size)
  clear b2 PA1 PB1 PR1 x0 x1 x2 x3 x4 x5 HB1
  cases d
  · have HRZ : Hid (R = (⟨0, ⟨0, []⟩⟩, false)) := HR.out
    obtain ⟨z0, y0⟩ := at_block PR2 0 _ rfl
    obtain ⟨z1, y1⟩ := at_block PR2 1 _ rfl
    obtain ⟨z2, y2⟩ := at_block PR2 2 _ rfl
    clear PA2 PB2 PR2
    go_wp2
    refine bodyPost_ret (v := .tuple #[.agg #[.int .i64 0, .int .i64 0, .slice none 0 0], .bool false]) (by simp [results, Tryz.results7, go_sem, *]) rfl ?_
    rw [HRZ.out]
    refine ⟨_, rfl, World.ownsRow_nil _ _ _ _, ?_⟩
    repeat (first | exact HB2.out | (refine Below.setCell ?_ (by simp <;> omega) _))
  have HDP : Hid (DutyP D) := tB_iff.1 HC.out.symm
  have HSP : Hid (StP S) := tB_iff.1 HD.out.symm
  have HRZ : Hid (R = (⟨D.ttl, (syncW D S.sess).1⟩, (syncW D S.sess).2)) := HR.out
  obtain ⟨⟨Q, qb⟩, hQ⟩ : ∃ q, q = syncW D S.sess := ⟨_, rfl⟩
  have HQ : Hid ((Q, qb) = syncW D S.sess) := hQ
  rw [← hQ] at HRZ
  clear hQ
  obtain ⟨x0, _⟩ := at_block PA2 0 _ rfl
  obtain ⟨x1, _⟩ := at_block PA2 1 _ rfl
  obtain ⟨x2, _⟩ := at_block PA2 2 _ rfl
  have HPB2 := hideD PB2
  have HPR2 := hideD PR2
  have HLO := hideD (Array.getElem?_eq_some_iff.1 PR2).1
  clear PA2 PB2 PR2
  go_wp2_with fail
  refine (ownDuV _ D w2 (HV0.out.ext (ext_below HB2.out)) HL.out).mono ?_
  rintro e w3 ⟨a3, c3, rfl, o3, b3⟩
  obtain ⟨m, hm⟩ : ∃ m, m = D.wh.tms.length := ⟨_, rfl⟩
  have HF : Hid (∀ W, W = w3.alloc (.cells #[.int .i64 D.ttl, .int .i64 D.wh.now, .slice a3 m c3] 39) → DB W w2.heap.size w3.heap.size D.ttl D.wh.now a3 c3 D.wh.tms ∧ Below w.heap.size w W ∧ W.heap[w.heap.size + 2]? = some (.cells #[.int .i64 0, .int .i64 0, .slice none 0 0] 39 (0, 0)) ∧ W.heap[w.heap.size + 1]? = some (.cells #[.int .i64 S.index, rv, uv, .int .i64 S.lost, .slice sea sm sec, lv] 48 (0, 0)) ∧ w3.heap.size ≤ W.heap.size) := fun W hW => by
    subst hW
    rw [hm]
    exact ⟨⟨heap_alloc_new _ _, o3.alloc _, b3.size⟩, (HB2.out.trans (b3.mono HB2.out.size)).alloc (Nat.le_trans HB2.out.size b3.size) _, ext_blk ((ext_below b3).trans (World.grownBy_alloc _ _ _)) HPR2.out, ext_blk ((ext_below b3).trans (World.grownBy_alloc _ _ _)) HPB2.out, by simp⟩
  rw [← hm]
  have HS3 := hideD b3.size
  clear hm o3 b3 x0 x1 x2
  go_upto_region 4 with fail
  generalize hV : w3.alloc _ = w4
  obtain ⟨K4, B4, R4, A4, Z4⟩ := HF.out w4 hV.symm
  clear hV HF
  generalize w3.heap.size = k at *
  have HK4 := hideD K4
  have HR4 := hideD R4
  have HB4 := hideD B4
  have HZ4 := hideD Z4
  obtain ⟨x0, _⟩ := at_block A4 0 _ rfl
  obtain ⟨x1, _⟩ := at_block A4 1 _ rfl
  obtain ⟨x2, _⟩ := at_block A4 2 _ rfl
  obtain ⟨x3, _⟩ := at_block A4 3 _ rfl
  obtain ⟨x4, _⟩ := at_block A4 4 _ rfl
  obtain ⟨x5, _⟩ := at_block A4 5 _ rfl
  clear K4 B4 R4 A4 Z4
  go_wp2_with fail
  refine (ssyncV k w2.heap.size c3 D.ttl D.wh.now a3 D.wh.tms _ S w w4 HK4.out (Nat.le_trans HS3.out HZ4.out) HDP.out.2.1 HS0.out HB4.out (by have := HK4.out.low; have := HB2.out.size; omega) (by have := HSP.out.2.2.1.1; omega)).mono ?_
  rintro e w5 ⟨rfl, a5, c5, K5, g5⟩
  rw [show (⟨D.ttl, ⟨D.wh.now, D.wh.tms⟩⟩ : DDuty) = D from rfl, ← HQ.out] at K5 ⊢
  obtain ⟨n5, hn5⟩ : ∃ n, n = Q.tms.length := ⟨_, rfl⟩
  have HK5 : Hid (OwT w5 w2.heap.size (.slice a5 n5 c5) Q.tms) := by rw [hn5]; exact K5.row
  have HR5 : Hid (w5.heap[w.heap.size + 2]? = some (.cells #[.int .i64 0, .int .i64 0, .slice none 0 0] 39 (0, 0))) := (g5.block _ (Array.getElem?_eq_some_iff.1 HR4.out).1 (by have := HK4.out.low; have := HLO.out; simp; omega)).trans HR4.out
  have HB5 : Hid (Below w.heap.size w w5) := HB4.out.grown g5 HB4.out.size (fun k' hk => by cases hk; exact Nat.le_trans HB2.out.size HK4.out.low)
  have HNV : Hid ((Value.slice a5 n5 c5).ownBlock = none ∨ (Value.slice a5 n5 c5).ownBlock ≠ some (w.heap.size + 2)) := by
    right
    intro e
    have h1 := (World.ownsRow.lt HK5.out _ e).1
    have h2 := HLO.out
    omega
  have hkne : w.heap.size + 2 ≠ k := by have := HK4.out.low; have := HLO.out; omega
  have hkne2 : k ≠ w.heap.size + 2 := by omega
  obtain ⟨u0, u1, u2⟩ := bx3 K5.box
  rw [← hn5] at u2
  clear x0 x1 x2 x3 x4 x5
  obtain ⟨x0, f0⟩ := at_block HR5.out 0 _ rfl
  obtain ⟨x1, f1⟩ := at_block HR5.out 1 _ rfl
  obtain ⟨x2, f2⟩ := at_block HR5.out 2 _ rfl
  clear K5 g5 HK4 HR4 HB4 hn5
  go_wp2
  refine bodyPost_ret (v := .tuple #[.agg #[.int .i64 D.ttl, .int .i64 Q.now, .slice a5 n5 c5], .bool qb]) (by simp [results, Tryz.results7, go_sem, *]) rfl ?_
  rw [HRZ.out]
  refine ⟨_, rfl, baseT ((((HK5.out.kept (set_grown _ _ _ _) HNV.out).kept (set_grown _ _ _ _) HNV.out).kept (set_grown _ _ _ _) HNV.out)) HB2.out.size, ?_⟩
  repeat (first | exact HB5.out | (refine Below.setCell ?_ (by simp <;> omega) _))

end Go.Proofs.YtnklnhnjmikooaaGreat

namespace Go.Proofs.YtnklnhnjmikooaaGreat
open Go.RowKit

theorem DB.put {w w' : World} {base h cap cap' : Nat} {ttl now now' : Int} {a a' : Option Addr} {ts ts' : List DTim} (p : DB w base h ttl now a cap ts) (b : Below w.heap.size w w') (hb : base ≤ w.heap.size) (o : OwT w' w.heap.size (.slice a' ts'.length cap') ts') (l : Nat) (hl : l = ts'.length) :
    DB ((w'.setCell ⟨h, 1, none⟩ (.int .i64 now')).setCell ⟨h, 2, none⟩ (.slice a' l cap')) base h ttl now' a' cap' ts' ∧ w.grownBy ((w'.setCell ⟨h, 1, none⟩ (.int .i64 now')).setCell ⟨h, 2, none⟩ (.slice a' l cap')) (some h) := by
  subst hl
  have hh : h < w.heap.size := p.blk
  have P1 := below_blk b hh p.box
  have hne : (Value.slice a' ts'.length cap').ownBlock = none ∨ (Value.slice a' ts'.length cap').ownBlock ≠ some h := by
    right
    intro e
    have := (World.ownsRow.lt o _ e).1
    omega
  refine ⟨⟨?_, ?_, p.low⟩, ((grown_below b _).trans (set_grown _ _ _ _)).trans (set_grown _ _ _ _)⟩
  · have P2 : (w'.setCell ⟨h, 1, none⟩ (.int .i64 now')).heap[h]? = some (.cells #[.int .i64 ttl, .int .i64 now', .slice a ts.length cap] 39 (0, 0)) := by
      rw [set_block P1 1]
      simp
    rw [set_block P2 2]
    simp
  · exact baseT ((o.kept (set_grown _ _ _ _) hne).kept (set_grown _ _ _ _) hne) hb

set_option maxRecDepth 20000 in
set_option maxHeartbeats 4000000 in
theorem sDutyTickV (v sv : Value) (D : DDuty) (S : DState) (k : Int) (w : World) (h : VDuty w v D) (hs : VState w sv S) (hl : D.wh.tms.length ≤ 1048576) :
    Calls Tryz.prog 16 #[v, sv, .int .i64 k] w (ResT (tickX (tB (DutyP D) && tB (StP S) && inB k 0 (1000000 - D.wh.now)) D S.sess k) w) := by
  have HV0 : Hid (VDuty w v D) := h
  have HS0 : Hid (VState w sv S) := hs
  have HL : Hid (D.wh.tms.length ≤ 1048576) := hl
  obtain ⟨tv, rfl, h⟩ := h
  obtain ⟨ta, tc', rfl⟩ := h.shape
  obtain ⟨n, hn⟩ : ∃ n, n = D.wh.tms.length := ⟨_, rfl⟩
  rw [← hn] at HV0 ⊢
  obtain ⟨rv, uv, sev, lv, rfl, hr, ht, hse, hla⟩ := hs
  have HSE : Hid (VSess w sev S.sess) := hse
  obtain ⟨sea, sec, hsev⟩ : ∃ a c, sev = .slice a S.sess.length c := by
    obtain ⟨C, ⟨a, c, e, _⟩, _⟩ := hse
    exact ⟨a, c, e⟩
  obtain ⟨sm, hsm⟩ : ∃ m, m = S.sess.length := ⟨_, rfl⟩
  rw [← hsm] at hsev
  subst hsev
  clear h hn hl hr ht hse hla hsm
  obtain ⟨c, hc⟩ : ∃ c, c = tB (DutyP D) := ⟨_, rfl⟩
  obtain ⟨d, hd⟩ : ∃ d, d = tB (StP S) := ⟨_, rfl⟩
  have HC : Hid (c = tB (DutyP D)) := hc
  have HD : Hid (d = tB (StP S)) := hd
  rw [← hc, ← hd]
  clear hc hd
  have HSO : Hid (∀ V, Ext w V → Calls Tryz.prog 27 #[.agg #[.int .i64 S.index, rv, uv, .int .i64 S.lost, .slice sea sm sec, lv]] V fun e w' => e = .returned (.bool d) ∧ Below V.heap.size V w') := fun V e => by rw [HD.out]; exact sStateOkV _ S V (HS0.out.ext e)
  have HDO : Hid (∀ V, Ext w V → Calls Tryz.prog 26 #[.agg #[.int .i64 D.ttl, .int .i64 D.wh.now, .slice ta n tc']] V fun e w' => e = .returned (.bool c) ∧ Below V.heap.size V w') := fun V e => by rw [HC.out]; exact sDutyOkV _ D V (HV0.out.ext e)
  obtain ⟨R, hR⟩ : ∃ R, R = tickX (c && d && inB k 0 (1000000 - D.wh.now)) D S.sess k := ⟨_, rfl⟩
  have HR : Hid (R = tickX (c && d && inB k 0 (1000000 - D.wh.now)) D S.sess k) := hR
  rw [← hR]
  clear hR
  go_enter Tryz.func16, Tryz.ntmps16
  go_upto_region 1 with fail
  have PA := al3a w (.cells #[.int .i64 D.ttl, .int .i64 D.wh.now, .slice ta n tc'] 39 (0, 0)) (.cells #[.int .i64 S.index, rv, uv, .int .i64 S.lost, .slice sea sm sec, lv] 48 (0, 0)) (.cells #[.int .i64 0, .int .i64 0, .slice none 0 0] 39 (0, 0))
  have PB := al3b w (.cells #[.int .i64 D.ttl, .int .i64 D.wh.now, .slice ta n tc'] 39 (0, 0)) (.cells #[.int .i64 S.index, rv, uv, .int .i64 S.lost, .slice sea sm sec, lv] 48 (0, 0)) (.cells #[.int .i64 0, .int .i64 0, .slice none 0 0] 39 (0, 0))
  have PR := al3c w (.cells #[.int .i64 D.ttl, .int .i64 D.wh.now, .slice ta n tc'] 39 (0, 0)) (.cells #[.int .i64 S.index, rv, uv, .int .i64 S.lost, .slice sea sm sec, lv] 48 (0, 0)) (.cells #[.int .i64 0, .int .i64 0, .slice none 0 0] 39 (0, 0))
  generalize hW : World.alloc (World.alloc (World.alloc w _) _) _ = W at PA PB PR ⊢
  have BW : Below w.heap.size w W := by rw [← hW]; exact (((Below.refl _ w).alloc (Nat.le_refl _) _).alloc (by simp) _).alloc (by simp; omega) _
  clear hW
  obtain ⟨x0, _⟩ := at_block PA 0 _ rfl
  obtain ⟨x1, _⟩ := at_block PA 1 _ rfl
  obtain ⟨x2, _⟩ := at_block PA 2 _ rfl
  go_wp2_with fail
  refine (HDO.out W (ext_below BW)).mono ?_
  rintro e w1 ⟨rfl, b1⟩
  have PA1 := below_blk b1 (Array.getElem?_eq_some_iff.1 PA).1 PA
  have PB1 := below_blk b1 (Array.getElem?_eq_some_iff.1 PB).1 PB
  have PR1 := below_blk b1 (Array.getElem?_eq_some_iff.1 PR).1 PR
  have HB1 : Hid (Below w.heap.size w w1) := BW.trans (b1.mono BW.size)
  clear b1 PA PB PR BW x0 x1 x2
  cases c
  · have HRZ : Hid (R = (⟨0, ⟨0, []⟩⟩, [])) := HR.out
    obtain ⟨z0, y0⟩ := at_block PR1 0 _ rfl
    obtain ⟨z1, y1⟩ := at_block PR1 1 _ rfl
    obtain ⟨z2, y2⟩ := at_block PR1 2 _ rfl
    clear PA1 PB1 PR1
    go_wp2
    refine bodyPost_ret (v := .tuple #[.agg #[.int .i64 0, .int .i64 0, .slice none 0 0], .slice none 0 0]) (by simp [results, Tryz.results16, go_sem, *]) rfl ?_
    rw [HRZ.out]
    refine ⟨_, _, rfl, World.ownsRow_nil _ _ _ _, Row.nil _ _ _ _ _, ?_⟩
    repeat (first | exact HB1.out | (refine Below.setCell ?_ (by simp <;> omega) _))
  obtain ⟨x0, _⟩ := at_block PB1 0 _ rfl
  obtain ⟨x1, _⟩ := at_block PB1 1 _ rfl
  obtain ⟨x2, _⟩ := at_block PB1 2 _ rfl
  obtain ⟨x3, _⟩ := at_block PB1 3 _ rfl
  obtain ⟨x4, _⟩ := at_block PB1 4 _ rfl
  obtain ⟨x5, _⟩ := at_block PB1 5 _ rfl
  go_wp2_with fail
  refine (HSO.out w1 (ext_below HB1.out)).mono ?_
  rintro e w2 ⟨rfl, b2⟩
  have PA2 := below_blk b2 (Array.getElem?_eq_some_iff.1 PA1).1 PA1
  have PB2 := below_blk b2 (Array.getElem?_eq_some_iff.1 PB1).1 PB1
  have PR2 := below_blk b2 (Array.getElem?_eq_some_iff.1 PR1).1 PR1
  have HB2 : Hid (Below w.heap.size w w2) := HB1.out.trans (b2.mono HB1.out.size)
  clear b2 PA1 PB1 PR1 x0 x1 x2 x3 x4 x5 HB1
  cases d
  · have HRZ : Hid (R = (⟨0, ⟨0, []⟩⟩, [])) := HR.out
    obtain ⟨z0, y0⟩ := at_block PR2 0 _ rfl
    obtain ⟨z1, y1⟩ := at_block PR2 1 _ rfl
    obtain ⟨z2, y2⟩ := at_block PR2 2 _ rfl
    clear PA2 PB2 PR2
    go_wp2
    refine bodyPost_ret (v := .tuple #[.agg #[.int .i64 0, .int .i64 0, .slice none 0 0], .slice none 0 0]) (by simp [results, Tryz.results16, go_sem, *]) rfl ?_
    rw [HRZ.out]
    refine ⟨_, _, rfl, World.ownsRow_nil _ _ _ _, Row.nil _ _ _ _ _, ?_⟩
    repeat (first | exact HB2.out | (refine Below.setCell ?_ (by simp <;> omega) _))
  have HDP : Hid (DutyP D) := tB_iff.1 HC.out.symm
  have HSP : Hid (StP S) := tB_iff.1 HD.out.symm
  obtain ⟨x0, _⟩ := at_block PA2 0 _ rfl
  obtain ⟨x1, _⟩ := at_block PA2 1 _ rfl
  obtain ⟨x2, _⟩ := at_block PA2 2 _ rfl
  have hnow := HDP.out.2.1.1
  have hw : IntKind.i64.wrap (1000000 - D.wh.now) = 1000000 - D.wh.now := wrapS (by omega) (by omega)
  by_cases hk0 : k < 0
  · have hk0' : decide (k < 0) = true := decide_eq_true hk0
    have HRZ : Hid (R = (⟨0, ⟨0, []⟩⟩, [])) := by show _ = _; rw [HR.out]; unfold tickX; rw [if_neg]; simp only [inB, Bool.and_eq_true, decide_eq_true_eq]; omega
    obtain ⟨z0, y0⟩ := at_block PR2 0 _ rfl
    obtain ⟨z1, y1⟩ := at_block PR2 1 _ rfl
    obtain ⟨z2, y2⟩ := at_block PR2 2 _ rfl
    clear PA2 PB2 PR2
    go_wp2
    refine bodyPost_ret (v := .tuple #[.agg #[.int .i64 0, .int .i64 0, .slice none 0 0], .slice none 0 0]) (by simp [results, Tryz.results16, go_sem, *]) rfl ?_
    rw [HRZ.out]
    refine ⟨_, _, rfl, World.ownsRow_nil _ _ _ _, Row.nil _ _ _ _ _, ?_⟩
    repeat (first | exact HB2.out | (refine Below.setCell ?_ (by simp <;> omega) _))
  have hk0' : decide (k < 0) = false := decide_eq_false hk0
  by_cases hk1 : 1000000 - D.wh.now < k
  · have hk1' : decide (1000000 - D.wh.now < k) = true := decide_eq_true hk1
    have HRZ : Hid (R = (⟨0, ⟨0, []⟩⟩, [])) := by show _ = _; rw [HR.out]; unfold tickX; rw [if_neg]; simp only [inB, Bool.and_eq_true, decide_eq_true_eq]; omega
    obtain ⟨z0, y0⟩ := at_block PR2 0 _ rfl
    obtain ⟨z1, y1⟩ := at_block PR2 1 _ rfl
    obtain ⟨z2, y2⟩ := at_block PR2 2 _ rfl
    clear PA2 PB2 PR2
    go_wp2
    refine bodyPost_ret (v := .tuple #[.agg #[.int .i64 0, .int .i64 0, .slice none 0 0], .slice none 0 0]) (by simp [results, Tryz.results16, go_sem, *]) rfl ?_
    rw [HRZ.out]
    refine ⟨_, _, rfl, World.ownsRow_nil _ _ _ _, Row.nil _ _ _ _ _, ?_⟩
    repeat (first | exact HB2.out | (refine Below.setCell ?_ (by simp <;> omega) _))
  have hk1' : decide (1000000 - D.wh.now < k) = false := decide_eq_false hk1
  have HKR : Hid (0 ≤ k ∧ k ≤ 1000000 - D.wh.now) := ⟨by omega, by omega⟩
  obtain ⟨⟨Q, qb⟩, hQ⟩ : ∃ q, q = syncW D S.sess := ⟨_, rfl⟩
  have HQ : Hid ((Q, qb) = syncW D S.sess) := hQ
  have HQP : Hid (WheelP Q ∧ Q.now = D.wh.now) := by have := syncW_p S.sess HDP.out.2.1; rw [← hQ] at this; exact this
  obtain ⟨⟨K, ids⟩, hK⟩ : ∃ q, q = tickD true Q k := ⟨_, rfl⟩
  have HK : Hid ((K, ids) = tickD true Q k) := hK
  have HKP : Hid (WheelP K) := by have := tickD_p HQP.out.1 HKR.out.1 (by have := HQP.out.2; have := HKR.out.2; omega); rw [← hK] at this; exact this
  have HIL : Hid (ids.length ≤ 40) := by have := tickD_len Q k; rw [← hK] at this; exact Nat.le_trans this HQP.out.1.2.1
  have HRZ : Hid (R = (⟨D.ttl, ringS D.ttl ids K⟩, ids)) := by
    show _ = _
    have hin : inB k 0 (1000000 - D.wh.now) = true := by simp only [inB, Bool.and_eq_true, decide_eq_true_eq]; exact HKR.out
    rw [HR.out, hin]
    unfold tickX
    rw [if_pos (show (true && true && true) = true from rfl), ← hQ]
    simp only
    rw [← hK]
  clear hQ hK HR
  have HPA2 := hideD PA2
  have HPB2 := hideD PB2
  have HPR2 := hideD PR2
  have HLO := hideD (Array.getElem?_eq_some_iff.1 PR2).1
  clear PA2 PB2 PR2
  go_upto_region 3 with fail
  clear hk0 hk1 hk0' hk1' hw hnow
  go_wp2_with fail
  refine (ownDuV _ D w2 (HV0.out.ext (ext_below HB2.out)) HL.out).mono ?_
  rintro e w3 ⟨a3, c3, rfl, o3, b3⟩
  obtain ⟨m, hm⟩ : ∃ m, m = D.wh.tms.length := ⟨_, rfl⟩
  have HF : Hid (∀ W, W = w3.alloc (.cells #[.int .i64 D.ttl, .int .i64 D.wh.now, .slice a3 m c3] 39) → DB W w2.heap.size w3.heap.size D.ttl D.wh.now a3 c3 D.wh.tms ∧ Below w.heap.size w W ∧ W.heap[w.heap.size + 2]? = some (.cells #[.int .i64 0, .int .i64 0, .slice none 0 0] 39 (0, 0)) ∧ W.heap[w.heap.size + 1]? = some (.cells #[.int .i64 S.index, rv, uv, .int .i64 S.lost, .slice sea sm sec, lv] 48 (0, 0)) ∧ W.heap[w.heap.size]? = some (.cells #[.int .i64 D.ttl, .int .i64 D.wh.now, .slice ta n tc'] 39 (0, 0)) ∧ w3.heap.size ≤ W.heap.size) := fun W hW => by
    subst hW
    rw [hm]
    exact ⟨⟨heap_alloc_new _ _, o3.alloc _, b3.size⟩, (HB2.out.trans (b3.mono HB2.out.size)).alloc (Nat.le_trans HB2.out.size b3.size) _, ext_blk ((ext_below b3).trans (World.grownBy_alloc _ _ _)) HPR2.out, ext_blk ((ext_below b3).trans (World.grownBy_alloc _ _ _)) HPB2.out, ext_blk ((ext_below b3).trans (World.grownBy_alloc _ _ _)) HPA2.out, by simp⟩
  rw [← hm]
  have HS3 := hideD b3.size
  clear hm o3 b3 x0 x1 x2
  go_upto_region 4 with fail
  generalize hV : w3.alloc _ = w4
  obtain ⟨K4, B4, R4, A4, D4, Z4⟩ := HF.out w4 hV.symm
  clear hV HF
  generalize w3.heap.size = h at *
  have HK4 := hideD K4
  have HR4 := hideD R4
  have HB4 := hideD B4
  have HD4 := hideD D4
  have HZ4 := hideD Z4
  obtain ⟨x0, _⟩ := at_block A4 0 _ rfl
  obtain ⟨x1, _⟩ := at_block A4 1 _ rfl
  obtain ⟨x2, _⟩ := at_block A4 2 _ rfl
  obtain ⟨x3, _⟩ := at_block A4 3 _ rfl
  obtain ⟨x4, _⟩ := at_block A4 4 _ rfl
  obtain ⟨x5, _⟩ := at_block A4 5 _ rfl
  have HLW : Hid (w.heap.size + 2 < h) := Nat.lt_of_lt_of_le HLO.out K4.low
  clear K4 B4 R4 A4 D4 Z4
  go_wp2_with fail
  refine (ssyncV h w2.heap.size c3 D.ttl D.wh.now a3 D.wh.tms _ S w w4 HK4.out (Nat.le_trans HS3.out HZ4.out) HDP.out.2.1 HS0.out HB4.out (by have := HLW.out; omega) (by have := HSP.out.2.2.1.1; omega)).mono ?_
  rintro e w5 ⟨rfl, a5, c5, K5, g5⟩
  rw [show (⟨D.ttl, ⟨D.wh.now, D.wh.tms⟩⟩ : DDuty) = D from rfl, ← HQ.out] at K5 ⊢
  obtain ⟨n5, hn5⟩ : ∃ n, n = Q.tms.length := ⟨_, rfl⟩
  have HK5 := hideD K5
  have HVQ : Hid (VTims w5 (.slice a5 n5 c5) Q.tms) := by rw [hn5]; exact K5.row.v
  have HR5 : Hid (w5.heap[w.heap.size + 2]? = some (.cells #[.int .i64 0, .int .i64 0, .slice none 0 0] 39 (0, 0))) := (g5.block _ (Array.getElem?_eq_some_iff.1 HR4.out).1 (by have := HLW.out; simp; omega)).trans HR4.out
  have HD5 : Hid (w5.heap[w.heap.size]? = some (.cells #[.int .i64 D.ttl, .int .i64 D.wh.now, .slice ta n tc'] 39 (0, 0))) := (g5.block _ (Array.getElem?_eq_some_iff.1 HD4.out).1 (by have := HLW.out; simp; omega)).trans HD4.out
  have HB5 : Hid (Below w.heap.size w w5) := HB4.out.grown g5 HB4.out.size (fun k' hk => by cases hk; have := HLW.out; omega)
  have HBW5 : Hid (w2.heap.size ≤ w5.heap.size) := Nat.le_trans (Nat.le_trans HS3.out HZ4.out) g5.size
  have HH5 : Hid (h < w5.heap.size) := K5.blk
  obtain ⟨u0, u1, u2⟩ := bx3 K5.box
  rw [← hn5] at u2
  clear K5 g5 HK4 HR4 HB4 HD4 hn5 x0 x1 x2 x3 x4 x5
  go_wp2_with fail
  refine (sTickO _ Q k w5 ⟨_, rfl, HVQ.out⟩ (Nat.le_trans HQP.out.1.2.1 (by omega)) (by have := HKR.out.1; omega) (by have := HKR.out.2; have := HDP.out.2.1.1; omega)).mono ?_
  rintro e w6 ⟨tv, rgv, rfl, o6, i6, b6⟩
  rw [tB_true HQP.out.1, ← HK.out] at o6 i6 ⊢
  obtain ⟨a6, c6, rfl⟩ := o6.v.shape
  have hrv : ∃ ra rc, rgv = .slice ra ids.length rc := by
    rcases i6.2 with ⟨h1, h2⟩ | ⟨g, c, cur, h1, _⟩
    · exact ⟨none, 0, by rw [h1, h2]⟩
    · exact ⟨_, c, h1⟩
  obtain ⟨ra, rc, rfl⟩ := hrv
  obtain ⟨q, hq⟩ : ∃ q, q = ids.length := ⟨_, rfl⟩
  have HQL := hideD hq
  obtain ⟨m6, hm6⟩ : ∃ m, m = K.tms.length := ⟨_, rfl⟩
  have HM6 := hideD hm6
  have HO6 : Hid (OwT w6 w5.heap.size (.slice a6 K.tms.length c6) K.tms) := o6
  have HI6 : Hid (OwI w6 w5.heap.size (.slice ra ids.length rc) ids) := i6
  rw [← hq] at HI6
  simp only [← hq, ← hm6]
  have HW7 : Hid (∀ V, V = w6.alloc (.cells #[.int .i64 K.now, .slice a6 m6 c6] 37 (0, 0)) → Below w5.heap.size w5 V ∧ OwT V w5.heap.size (.slice a6 K.tms.length c6) K.tms ∧ OwI V w5.heap.size (.slice ra q rc) ids ∧ V.heap[w6.heap.size]? = some (.cells #[.int .i64 K.now, .slice a6 m6 c6] 37 (0, 0))) := fun V hV => by
    subst hV
    exact ⟨b6.alloc b6.size _, HO6.out.alloc _, World.ownsRow.kept HI6.out (World.grownBy_alloc _ _ none) (by cases (Value.slice ra q rc).ownBlock <;> simp), heap_alloc_new _ _⟩
  have hql : (q : Int) ≤ 40 := by have := HIL.out; omega
  clear o6 i6 b6 hq hm6 u0 u1 u2
  go_upto_region 6 with fail
  generalize hV : w6.alloc _ = w7
  obtain ⟨b7, o7, i7, P7⟩ := HW7.out w7 hV.symm
  clear hV HW7
  have HB7 := hideD b7
  have HO7 := hideD o7
  have HI7 := hideD i7
  have P8 := below_blk b7 HH5.out HK5.out.box
  obtain ⟨x0, f0⟩ := at_block P8 0 _ rfl
  obtain ⟨x1, f1⟩ := at_block P8 1 _ rfl
  obtain ⟨x2, f2⟩ := at_block P8 2 _ rfl
  obtain ⟨z0, _⟩ := at_block P7 0 _ rfl
  obtain ⟨z1, _⟩ := at_block P7 1 _ rfl
  have HPUT : Hid (∀ V, V = ((w7.setCell ⟨h, 1, none⟩ (.int .i64 K.now)).setCell ⟨h, 2, none⟩ (.slice a6 m6 c6)) → DB V w2.heap.size h D.ttl K.now a6 c6 K.tms ∧ OwI V w5.heap.size (.slice ra q rc) ids ∧ V.heap[w.heap.size]? = some (.cells #[.int .i64 D.ttl, .int .i64 D.wh.now, .slice ta n tc'] 39 (0, 0)) ∧ V.heap[w.heap.size + 2]? = some (.cells #[.int .i64 0, .int .i64 0, .slice none 0 0] 39 (0, 0)) ∧ Below w.heap.size w V ∧ w5.heap.size ≤ V.heap.size) := fun V hV => by
    subst hV
    obtain ⟨p1, p2⟩ := HK5.out.put HB7.out HBW5.out HO7.out (now' := K.now) m6 HM6.out
    have hb : ∀ b, b ≠ h → b < w5.heap.size → ((w7.setCell ⟨h, 1, none⟩ (.int .i64 K.now)).setCell ⟨h, 2, none⟩ (.slice a6 m6 c6)).heap[b]? = w5.heap[b]? := fun b hb hl => p2.block b hl (by simpa using hb)
    have hne : (Value.slice ra q rc).ownBlock = none ∨ (Value.slice ra q rc).ownBlock ≠ some h := by
      right
      intro e
      have := (World.ownsRow.lt HI7.out _ e).1
      have := HH5.out
      omega
    refine ⟨p1, World.ownsRow.kept (World.ownsRow.kept HI7.out (set_grown _ _ _ _) hne) (set_grown _ _ _ _) hne, (hb _ (by have := HLW.out; omega) (Array.getElem?_eq_some_iff.1 HD5.out).1).trans HD5.out, (hb _ (by have := HLW.out; omega) (Array.getElem?_eq_some_iff.1 HR5.out).1).trans HR5.out, HB5.out.grown p2 HB5.out.size (fun k' hk => by cases hk; have := HLW.out; omega), p2.size⟩
  clear P7 P8 b7 o7 i7
  go_upto_region 8 with fail
  generalize hV : World.setCell (World.setCell w7 _ _) _ _ = W
  obtain ⟨K8, i8, D8, R8, B8, Z8⟩ := HPUT.out W hV.symm
  clear hV HPUT x0 x1 x2 f0 f1 f2 z0 z1
  have HK8 := hideD K8
  have HI8 := hideD i8
  have HD8 := hideD D8
  have HR8 := hideD R8
  have HB8 := hideD B8
  have HBW8 : Hid (w2.heap.size ≤ W.heap.size) := Nat.le_trans HBW5.out Z8
  have HH8 : Hid (h < W.heap.size) := K8.blk
  have HNI : Hid ((Value.slice ra q rc).ownBlock = none ∨ (Value.slice ra q rc).ownBlock ≠ some h) := by
    right
    intro e
    have := (World.ownsRow.lt HI8.out _ e).1
    have := HH5.out
    omega
  clear K8 i8 D8 R8 B8 Z8 HK5 HI6 HI7 HO6 HO7 HB7
  go_wp2_with fail
  go_loopw [11, 12] (fun b i wr => ∃ j : Nat, j ≤ q ∧ i = .int .i64 j ∧ Hid (Row W.heap.size 95 4 wr b j (opF ids)) ∧ Hid (DSet w2.heap.size h D.ttl (ringS D.ttl (ids.take j) K) W wr)) (fun _ i _ => q - (intOf i).toNat)
  case atStart => exact ⟨0, Nat.zero_le _, rfl, Row.nil _ _ _ _ _, a6, c6, HK8.out, World.grownBy.refl _ _⟩
  case round =>
    obtain ⟨j, hj, rfl, HROW, HKS⟩ := hrel
    obtain ⟨V, hV⟩ : ∃ V, V = ringS D.ttl (ids.take j) K := ⟨_, rfl⟩
    have HV := hideD hV
    have HVP : Hid (WheelP V) := by rw [hV]; exact ringS_p _ _ HKP.out
    rw [← hV] at HKS
    clear hV
    obtain ⟨HG, HKB⟩ : Hid (W.grownBy wr (some h)) ∧ Hid (∃ a2 cap2, DB wr w2.heap.size h D.ttl V.now a2 cap2 V.tms) := by
      obtain ⟨a2, cap2, k1, k2⟩ := HKS.out
      exact ⟨k2, a2, cap2, k1⟩
    obtain ⟨oa, oc, hov⟩ := HROW.out.shape
    subst hov
    by_cases hlt : j < q
    · obtain ⟨id, hid⟩ : ∃ id, ids[j]? = some id := ⟨_, List.getElem?_eq_getElem (by have := HQL.out; omega)⟩
      have HID := hideD hid
      obtain ⟨ra', rc', e1, _, _, hcc⟩ := (OwI.vl HI8.out : VL fI W (.slice ra q rc) ids)
      rw [← HQL.out] at e1 hcc
      injection e1 with e2 _ e3
      obtain ⟨b, o, ha, hbl, hc⟩ := hcc (by omega)
      rw [← e2] at ha
      subst ha
      have hbh : b ≠ h := by
        rcases HNI.out with e | e
        · cases e
        · intro e'; exact e (by rw [e']; rfl)
      have hxc : ∀ w', W.grownBy w' (some h) → w'.cell? ⟨b, o + j, none⟩ = some (.int .i64 id) := fun w' g => by
        have := World.grownBy.cell g (hc j id hid) (by simpa using hbh)
        unfold fI at this
        exact this
      have HXC := hideD hxc
      have x0 := hxc wr HG.out
      have hlt' : (j : Int) < (q : Int) := by omega
      have HONE : Hid (∀ i, i < 1 → ∀ c, c < 4 → ((fun _ c => if c = 0 then .int .i64 5 else if c = 3 then .int .i64 id else .slice none 0 0) i c : Value).oneCell' = true) := fun i _ c hc => by
        obtain rfl | rfl | rfl | rfl : c = 0 ∨ c = 1 ∨ c = 2 ∨ c = 3 := by omega
        all_goals rfl
      have HROW2 : Hid (∀ X, Row W.heap.size 95 4 (wr.alloc X) (.slice oa j oc) j (opF ids)) := fun X => HROW.out.kept (World.grownBy_alloc _ _ none) (by cases (Value.slice oa j oc).ownBlock <;> simp)
      have HSRC : Hid (Src 4 (wr.alloc (.cells #[.int .i64 5, .slice none 0 0, .slice none 0 0, .int .i64 id] 95 (0, 0))) (some ⟨wr.heap.size, 0, none⟩) 1 (fun _ c => if c = 0 then .int .i64 5 else if c = 3 then .int .i64 id else .slice none 0 0)) := fun _ => ⟨_, rfl, fun i hi c hc => by
        obtain rfl : i = 0 := by omega
        rw [Addr.add_lit]
        obtain rfl | rfl | rfl | rfl : c = 0 ∨ c = 1 ∨ c = 2 ∨ c = 3 := by omega
        · exact (at_block (heap_alloc_new wr _) 0 _ rfl).1
        · exact (at_block (heap_alloc_new wr _) 1 _ rfl).1
        · exact (at_block (heap_alloc_new wr _) 2 _ rfl).1
        · exact (at_block (heap_alloc_new wr _) 3 _ rfl).1⟩
      have HSZ := hideD HG.out.size
      have HKN : Hid (∀ v6 w6, Row W.heap.size 95 4 w6 v6 (j + 1) (joinF j (opF ids) (fun _ c => if c = 0 then .int .i64 5 else if c = 3 then .int .i64 id else .slice none 0 0)) → (wr.alloc (.cells #[.int .i64 5, .slice none 0 0, .slice none 0 0, .int .i64 id] 95 (0, 0))).grownBy w6 (Value.slice oa j oc).ownBlock → Row W.heap.size 95 4 w6 v6 (j + 1) (opF ids) ∧ ∃ a2 cap2, DB w6 w2.heap.size h D.ttl V.now a2 cap2 V.tms ∧ W.grownBy w6 (some h)) := fun v6 w6 r g => by
        obtain ⟨a2, cap2, kb⟩ := HKB.out
        have kb1 := kb.below ((Below.refl _ wr).alloc (Nat.le_refl _) (.cells #[.int .i64 5, .slice none 0 0, .slice none 0 0, .int .i64 id] 95 (0, 0)))
        have hob : ∀ b, (Value.slice oa j oc).ownBlock = some b → W.heap.size ≤ b := fun b hb => (World.ownsRow.lt HROW.out b hb).1
        have hk0 := HH8.out
        refine ⟨r.congr fun i hi c _ => opF_next HID.out i c hi, a2, cap2, ⟨(g.block h (Array.getElem?_eq_some_iff.1 kb1.box).1 (fun e => by have := hob h e.symm; omega)).trans kb1.box, kb1.row.kept g ?_, kb1.low⟩, ?_⟩
        · cases hov : (Value.slice oa j oc).ownBlock with
          | none =>
            cases hvv : (Value.slice a2 V.tms.length cap2).ownBlock with
            | none => exact .inl rfl
            | some b => exact .inr (by simp)
          | some b =>
            right
            intro e
            rcases (HROW2.out (.cells #[.int .i64 5, .slice none 0 0, .slice none 0 0, .int .i64 id] 95 (0, 0))).blk with ⟨e1, _⟩ | ⟨g1, c1, e1, _, _, _, cur, h3, _⟩
            · rw [e1] at hov; cases hov
            · rw [e1] at hov
              simp only [Value.ownBlock, Option.some.injEq] at hov
              subst hov
              exact ne_row kb1.row h3 (by decide) e.symm
        · refine ⟨g.os.trans HG.out.os, g.tape.trans HG.out.tape, g.output.trans HG.out.output, Nat.le_trans HG.out.size (Nat.le_trans (by simp) g.size), fun b hb hne => ?_⟩
          have hbw : b < wr.heap.size := Nat.lt_of_lt_of_le hb HG.out.size
          rw [g.block b (by simp; omega) (fun e => by have := hob b e.symm; omega), Below.heap_alloc wr _ b hbw]
          exact HG.out.block b hb hne
      clear hid hc hcc hbl e2 e3 HKS hxc
      go_upto_region 12 with (at_builtin; refine wpList_rowG info_Op4 rfl (by omega) _ rfl (.tmp 53) (.tmp 59) 55 Tryz.underlying55 rfl W.heap.size (.slice oa j oc) j (opF ids) rfl (HROW2.out _) _ 1 1 _ rfl HSRC.out HONE.out (fun e => by cases e) (by unfold maxLen; omega) (by omega) (by have := HSZ.out; simp; omega) ?_; intro v6 w6 r6 g6 _; obtain ⟨R6, a7, c7, kb6, G6⟩ := HKN.out v6 w6 r6 g6)
      obtain ⟨a9, c9, hv6⟩ := R6.shape
      subst hv6
      have HNX : Hid (ringS D.ttl (ids.take (j + 1)) K = (setD true V id D.ttl).1) := by
        show _ = _
        rw [ringS_next HID.out, ← HV.out]
      have HST : Hid (∀ Z, Ext w6 Z → Calls Tryz.prog 52 #[.pointer (some ⟨h, 1, none⟩), .int .i64 id, .int .i64 D.ttl] Z fun e w' => ∃ bb, e = .returned (.bool bb) ∧ Hid (Row W.heap.size 95 4 w' (.slice a9 (j + 1) c9) (j + 1) (opF ids)) ∧ Hid (DSet w2.heap.size h D.ttl (ringS D.ttl (ids.take (j + 1)) K) W w')) := fun Z hZ => by
        have hw2 := HVP.out
        refine (ssetVD h w2.heap.size c7 D.ttl V.now a7 V.tms id D.ttl Z (kb6.below (ext_bel hZ)) (Nat.le_trans hw2.2.1 (by omega)) (Nat.le_trans HBW8.out (Nat.le_trans G6.size hZ.size)) hw2.1.1 hw2.1.2).mono ?_
        rintro e w' ⟨b, a3, cap3, ts', rfl, hq, k1, k2⟩
        have hst : setD true V id D.ttl = (⟨V.now, ts'⟩, b) := by
          rcases hq with ⟨q1, q2, q3⟩ | ⟨q1, q2, q3⟩
          · rw [q1, q3]
            exact set_bad q2
          · rw [q1, q3]
            exact set_good q2
        refine ⟨b, rfl, (R6.kept (grown_below (ext_bel hZ) none) (by cases (Value.slice a9 (j + 1) c9).ownBlock <;> simp)).kept k2 ?_, ?_⟩
        · right
          intro e
          have := (World.ownsRow.lt R6 _ e).1
          have := HH8.out
          omega
        · show DSet _ _ _ _ _ _
          rw [HNX.out, hst]
          exact ⟨a3, cap3, k1, (G6.trans (grown_below (ext_bel hZ) _)).trans k2⟩
      have y0 := HXC.out w6 G6
      have D9 := (G6.block _ (Array.getElem?_eq_some_iff.1 HD8.out).1 (by have := HLW.out; simp; omega)).trans HD8.out
      obtain ⟨d0, _⟩ := at_block D9 0 _ rfl
      have hwn : IntKind.i64.wrap ((j : Int) + 1) = (j : Int) + 1 := by rw [IntKind.wrap_i64]; omega
      clear R6 kb6 G6 r6 g6 x0 HKN HSRC HROW2 HONE D9
      go_wp2_with fail
      go_region_law (first | (go_simp; go_at_call 52; refine (HST.out _ ?_).mono ?_; (first | exact ext_drewN _ 1 | exact World.grownBy.refl _ _); rintro e w8 ⟨bb, rfl, HR9, K9⟩))
      all_goals
        go_wp2
        go_roundw
        case rel => exact ⟨j + 1, by omega, by go_num, HR9, K9⟩
        case measure => simp [intOf]; omega
    · have hjq : j = q := by omega
      subst hjq
      have HVE : Hid (V = ringS D.ttl ids K) := by
        show _ = _
        rw [HV.out, List.take_of_length_le (by have := HQL.out; omega)]
      obtain ⟨a7, c7, kb6⟩ := HKB.out
      have HPR6 : Hid (wr.heap[w.heap.size + 2]? = some (.cells #[.int .i64 0, .int .i64 0, .slice none 0 0] 39 (0, 0))) := (HG.out.block _ (Array.getElem?_eq_some_iff.1 HR8.out).1 (by have := HLW.out; simp; omega)).trans HR8.out
      have HB9 : Hid (Below w.heap.size w wr) := HB8.out.grown HG.out HB8.out.size (fun k' hk => by cases hk; have := HLW.out; omega)
      obtain ⟨l, hl⟩ : ∃ l, l = V.tms.length := ⟨_, rfl⟩
      have HKK : Hid (OwT wr w2.heap.size (.slice a7 l c7) V.tms) := by rw [hl]; exact kb6.row
      obtain ⟨u0, u1, u2⟩ := bx3 kb6.box
      rw [← hl] at u2
      obtain ⟨x0, f0⟩ := at_block HPR6.out 0 _ rfl
      obtain ⟨x1, f1⟩ := at_block HPR6.out 1 _ rfl
      obtain ⟨x2, f2⟩ := at_block HPR6.out 2 _ rfl
      have HNV : Hid ((Value.slice a7 l c7).ownBlock = none ∨ (Value.slice a7 l c7).ownBlock ≠ some (w.heap.size + 2)) := by
        right
        intro e
        have h1 := (World.ownsRow.lt HKK.out _ e).1
        have h2 := HLO.out
        omega
      have HNO : Hid ((Value.slice oa j oc).ownBlock = none ∨ (Value.slice oa j oc).ownBlock ≠ some (w.heap.size + 2)) := by
        right
        intro e
        have h1 := (World.ownsRow.lt HROW.out _ e).1
        have h2 := HLO.out
        have := HBW8.out
        omega
      have HRX : Hid (R = (⟨D.ttl, V⟩, ids)) := by show _ = _; rw [HRZ.out, HVE.out]
      have hkne : w.heap.size + 2 ≠ h := by have := HLW.out; omega
      have hkne2 : h ≠ w.heap.size + 2 := by omega
      clear HRZ HKB HKS HG kb6 hl
      go_wp2
      refine bodyPost_ret (v := .tuple #[.agg #[.int .i64 D.ttl, .int .i64 V.now, .slice a7 l c7], .slice oa j oc]) (by simp [results, Tryz.results16, go_sem, *]) rfl ?_
      rw [HRX.out]
      refine ⟨_, _, rfl, baseT ((((HKK.out.kept (set_grown _ _ _ _) HNV.out).kept (set_grown _ _ _ _) HNV.out).kept (set_grown _ _ _ _) HNV.out)) HB2.out.size, ?_, ?_⟩
      · show Row _ _ _ _ _ ids.length _
        rw [← HQL.out]
        exact rowBase (((HROW.out.kept (set_grown _ _ _ _) HNO.out).kept (set_grown _ _ _ _) HNO.out).kept (set_grown _ _ _ _) HNO.out) HB8.out.size
      · repeat (first | exact HB9.out | (refine Below.setCell ?_ (by simp <;> omega) _))

end Go.Proofs.YtnklnhnjmikooaaGreat

namespace Go.Proofs.YtnklnhnjmikooaaGreat
open Go.RowKit

theorem row_neO {W : World} {base b n : Nat} {v : Value} {F : Nat → Nat → Value} {cs : Array Value} {t : TypeId} (o : Row base 95 4 W v n F) (h : W.heap[b]? = some (.cells cs t (0, 0))) (ht : t ≠ 95) : some b ≠ v.ownBlock := by
  intro e
  rcases o.2 with ⟨hv, _⟩ | ⟨k, c, cur, hv, _, hg, _⟩
  · rw [hv] at e; cases e
  · rw [hv] at e
    simp only [Value.ownBlock, Option.some.injEq] at e
    subst e
    rw [h] at hg
    simp only [Option.some.injEq, Obj.cells.injEq] at hg
    exact ht hg.2.1
theorem rows_neO {W : World} {b1 b2 n : Nat} {v u : Value} {ts : List DTim} {F : Nat → Nat → Value} (o : OwT W b1 v ts) (p : Row b2 95 4 W u n F) : v.ownBlock = none ∨ v.ownBlock ≠ u.ownBlock := by
  rcases o.2 with ⟨hv, _⟩ | ⟨k, c, cur, hv, _, hg, _⟩
  · left; rw [hv]; rfl
  · right
    rw [hv]
    exact row_neO p hg (by decide)
theorem Row.keptT {W W' : World} {b1 b2 n : Nat} {v u : Value} {ts : List DTim} {F : Nat → Nat → Value} (p : Row b2 95 4 W u n F) (o : OwT W b1 v ts) (t : W.grownBy W' v.ownBlock) : Row b2 95 4 W' u n F := by
  refine p.kept t ?_
  rcases rows_neO o p with e | e
  · rw [e]
    cases u.ownBlock <;> simp
  · exact .inr (Ne.symm e)
theorem Row.mid {W W' : World} {lo hi b T K n : Nat} {u : Value} {F : Nat → Nat → Value} (p : Row b T K W u n F) (hb : hi ≤ b) (t : Mid lo hi W W') : Row b T K W' u n F := by
  obtain ⟨h1, h2⟩ := p
  refine ⟨h1, ?_⟩
  rcases h2 with h2 | ⟨k, c, cur, hv, hk, hg, r⟩
  · exact .inl h2
  · exact .inr ⟨k, c, cur, hv, hk, (t.out k (Array.getElem?_eq_some_iff.1 hg).1 (.inr (Nat.le_trans hb hk))).trans hg, r⟩
section
variable {w Ws W W' : World} {D R : DDuty} {AD AS YS : Array Value} {sv xv gv : Value} {zs zx zy zg xb gb lo hi : Nat} {X G : List DTim}
/-- The operations of its answer have turned. -/
theorem LSy.turnO (h : LSy w Ws W D R AD AS YS sv xv gv zs zx zy zg xb gb lo hi X G) {ob n : Nat} {ov : Value} {F : Nat → Nat → Value} (p : Row ob 95 4 W ov n F) (hb : hi ≤ ob) (t : W.grownBy W' ov.ownBlock) : LSy w Ws W' D R AD AS YS sv xv gv zs zx zy zg xb gb lo hi X G := by
  have hr : ∀ k, ov.ownBlock = some k → hi ≤ k := fun k hk => Nat.le_trans hb (World.ownsRow.lt p k hk).1
  have kp : ∀ (b : Nat) (cs : Array Value) (t' : TypeId), W.heap[b]? = some (.cells cs t' (0, 0)) → t' ≠ 95 → W'.heap[b]? = some (.cells cs t' (0, 0)) := fun b cs t' hbb ht => (t.block b (Array.getElem?_eq_some_iff.1 hbb).1 (row_neO p hbb ht)).trans hbb
  exact ⟨h.low.grown t h.low.size (fun k hk => by have := hr k hk; have := h.ord; omega), h.sB.grown t h.sB.size (fun k hk => by have := hr k hk; have := h.ord; omega), h.sV, kp _ _ _ h.aD (by decide), kp _ _ _ h.aS (by decide), kp _ _ _ h.s (by decide), kp _ _ _ h.x (by decide), kp _ _ _ h.y (by decide), kp _ _ _ h.g (by decide), h.xO.kept t (rows_neO h.xO p), h.gO.kept t (rows_neO h.gO p), h.xl, h.ord⟩
theorem LSy.sO (h : LSy w Ws W D R AD AS YS sv xv gv zs zx zy zg xb gb lo hi X G) {ov : Value} {ids : List Int} (p : RdO Ws ov ids) : RdO W ov ids := p.ext (ext_below h.sB)
end
theorem tickX_len (b : Bool) (D : DDuty) (ss : List DSess) (k : Int) (hb : b = true → WheelP D.wh ∧ 0 ≤ k ∧ k ≤ 1000000 - D.wh.now) : (tickX b D ss k).1.wh.tms.length ≤ 1048576 ∧ (tickX b D ss k).2.length ≤ 1000 := by
  unfold tickX
  cases b
  · simp
  · obtain ⟨h1, h2, h3⟩ := hb rfl
    have q := syncW_p ss h1
    have p := tickD_p q.1 h2 (by rw [q.2]; exact h3)
    have r := ringS_p D.ttl (tickD true (syncW D ss).1 k).2 p
    have l := tickD_len (syncW D ss).1 k
    have l2 := q.1.2.1
    rw [if_pos rfl]
    exact ⟨Nat.le_trans r.2.1 (by omega), Nat.le_trans l (by omega)⟩

end Go.Proofs.YtnklnhnjmikooaaGreat

namespace Go.Proofs.YtnklnhnjmikooaaGreat
open Go.ChangeShapes Go.WideShapes Go.ChangeAt Go.RowKit Go.Joins

section
variable {H : Type} {enc : TypeId × Value → H} {W : World} {fuel : Nat} {v : Value} {y : DataW H × List MemPlace}

theorem int_of_trod (h : DataW.trod enc Tryz.prog W 0 (fun _ => true) true fuel 3 [v] = some y) : ∃ q : Int, v = .int .i64 q ∧ -9223372036854775808 ≤ q ∧ q ≤ 9223372036854775807 := by
  obtain ⟨q, e0, rfl, wa⟩ := DataW.trod_int Tryz.underlying3 h
  simp only [List.cons.injEq, and_true] at e0
  subst e0
  simp [Lit.wf, IntKind.min, IntKind.max, IntKind.signed, IntKind.bits] at wa
  exact ⟨q, rfl, by omega, by omega⟩
end

theorem array6 {cs : Array Value} (h : cs.size = 6) : ∃ a b c d e f, cs = #[a, b, c, d, e, f] := by
  obtain ⟨l⟩ := cs
  match l, h with
  | [a, b, c, d, e, f], _ => exact ⟨a, b, c, d, e, f, rfl⟩

end Go.Proofs.YtnklnhnjmikooaaGreat

namespace Go.Proofs.YtnklnhnjmikooaaGreat
open Go.ChangeShapes Go.WideShapes Go.ChangeAt Go.RowKit Go.Joins

section
variable {H : Type} {enc : TypeId × Value → H} {W : World} {fuel : Nat} {v : Value} {y : DataW H × List MemPlace}

theorem rv_of_trod (h : DataW.trod enc Tryz.prog W 0 (fun _ => true) true fuel 93 [v] = some y) : ∃ xs, RV W v xs ∧ ∀ x ∈ xs, 0 ≤ x ∧ x ≤ 255 := by
  rcases open_ints Tryz.underlying93 Tryz.underlying5 (by kernel_rfl) h with ⟨hcs, _⟩ | ⟨x, len, cap, zs, hcs, _, hl, hm, hz, _, hcell, hwz⟩
  · simp only [List.cons.injEq, and_true] at hcs
    subst hcs
    exact ⟨[], ⟨none, 0, rfl, Rd.nil _ _, Nat.le_refl _, Nat.zero_le _⟩, fun x hx => by cases hx⟩
  · simp only [List.cons.injEq, and_true] at hcs
    subst hcs
    have hz' : zs.length = cap := by simpa using hz
    have hln : (zs.take len).length = len := by simp; omega
    have hrng : ∀ n ∈ zs.take len, 0 ≤ n ∧ n ≤ 255 := fun n hn => by
      have := hwz n (List.mem_of_mem_take hn)
      simp [Lit.wf, IntKind.min, IntKind.max, IntKind.signed, IntKind.bits] at this
      omega
    refine ⟨zs.take len, ⟨some x, cap, by rw [hln], ⟨rfl, fun i hi => ?_, hrng⟩, by omega, hm⟩, hrng⟩
    rw [hln] at hi
    obtain ⟨b, off, spot⟩ := x
    have hspot : spot = none := by simpa [Addr.add] using World.cell?_spot (hcell 0 (by omega))
    subst hspot
    have hc := hcell i (by omega)
    refine ⟨b, off, rfl, ?_⟩
    rw [Addr.add_lit] at hc
    rw [hc]
    simp [List.getD, hi]

end

end Go.Proofs.YtnklnhnjmikooaaGreat

namespace Go.Proofs.YtnklnhnjmikooaaGreat
open Go.ChangeShapes Go.WideShapes Go.ChangeAt Go.RowKit Go.Joins

theorem list_of {α : Type} {p : Nat → α → Prop} : ∀ n : Nat, (∀ i, i < n → ∃ x, p i x) → ∃ rs : List α, rs.length = n ∧ ∀ (i : Nat) (r : α), rs[i]? = some r → p i r
  | 0, _ => ⟨[], rfl, fun i r h => by simp at h⟩
  | n + 1, h => by
    obtain ⟨rs, hl, hr⟩ := list_of n (fun i hi => h i (by omega))
    obtain ⟨x, hx⟩ := h n (by omega)
    refine ⟨rs ++ [x], by simp [hl], fun i r hi => ?_⟩
    by_cases e : i < n
    · rw [List.getElem?_append_left (by omega)] at hi
      exact hr i r hi
    · rw [List.getElem?_append_right (by omega)] at hi
      have e2 : i - rs.length = 0 := by
        have := (List.getElem?_eq_some_iff.1 hi).1
        simp at this
        omega
      rw [e2] at hi
      simp at hi
      obtain rfl : i = n := by omega
      rw [← hi]
      exact hx

section
variable {H : Type} {enc : TypeId × Value → H} {W : World} {fuel : Nat} {v : Value} {y : DataW H × List MemPlace}

set_option maxRecDepth 100000 in
/-- A slice of whatever structs: its cells, element by element. -/
theorem sl_of_trod {t e : TypeId} {k : Nat} (ht : Tryz.prog.underlying t = some (.slice e)) (hc : Tryz.prog.cellsOf e = k) (hk : 0 < k)
    (h : DataW.trod enc Tryz.prog W 0 (fun _ => true) true fuel t [v] = some y) :
    ∃ (n : Nat) (C : Nat → Nat → Value), SL W k v n C ∧ ∃ (m : Nat) (D : Nat → DataW H × List MemPlace), ∀ i, i < n → DataW.trod enc Tryz.prog W 0 (fun _ => true) true m e ((List.range k).map (C i)) = some (D i) := by
  rcases Go.Deep.open_slice ht h with ⟨hcs, _⟩ | ⟨a, len, cap, m, n, D, Pl, hcs, _, hl, hm, hmm, _, hx⟩
  · simp only [List.cons.injEq, and_true] at hcs
    subst hcs
    exact ⟨0, fun _ _ => .int .i64 0, ⟨none, 0, rfl, Nat.le_refl _, Nat.zero_le _, fun h => absurd h (by omega)⟩, 0, fun _ => y, fun i hi => absurd hi (by omega)⟩
  · simp only [List.cons.injEq, and_true] at hcs
    subst hcs
    rw [hc] at hx
    have hmm' : m = cap := by rw [hmm]; simp
    subst hmm'
    have hex : ∀ i, i < len → ∃ cs' : List Value, W.cells? 0 (a.add (i * k)) k = some cs' ∧ DataW.trod enc Tryz.prog W 0 (fun _ => true) true n e cs' = some (D i, Pl i) := fun i hi => hx i (by omega)
    obtain ⟨cs, hcsl, hcs⟩ := list_of len hex
    have hget : ∀ i, i < len → ∃ c, cs[i]? = some c := fun i hi => ⟨_, List.getElem?_eq_getElem (by omega)⟩
    refine ⟨len, fun i j => ((cs.getD i []).getD j (.int .i64 0)), ⟨some a, m, rfl, hl, hm, fun hpos => ?_⟩, n, fun i => (D i, Pl i), fun i hi => ?_⟩
    · obtain ⟨c, hcc⟩ := hget 0 hpos
      obtain ⟨h1, _⟩ := hcs 0 c hcc
      obtain ⟨_, hln, hce⟩ := World.cells?_some h1
      obtain ⟨b, off, spot⟩ := a
      have hc0 := hce 0 hk
      have hsome : W.cell? ((Addr.add ⟨b, off, spot⟩ (0 * k)).add 0) = some (c[0]'(by omega)) := by rw [hc0, List.getElem?_eq_getElem (by omega)]
      have hspot : spot = none := by simpa [Addr.add] using World.cell?_spot hsome
      subst hspot
      have hbl := World.block_lt_of_cell? W _ hsome
      rw [Addr.add_lit, Addr.add_lit] at hbl
      refine ⟨b, off, rfl, hbl, fun i hi j hj => ?_⟩
      obtain ⟨c', hcc'⟩ := hget i hi
      obtain ⟨h1', _⟩ := hcs i c' hcc'
      obtain ⟨_, hln', hce'⟩ := World.cells?_some h1'
      have := hce' j hj
      rw [Addr.add_lit, Addr.add_lit] at this
      rw [this, List.getElem?_eq_getElem (by omega)]
      simp [List.getD, hcc', List.getElem?_eq_getElem (show j < c'.length by omega)]
    · obtain ⟨c', hcc'⟩ := hget i hi
      obtain ⟨h1', h2'⟩ := hcs i c' hcc'
      obtain ⟨_, hln', _⟩ := World.cells?_some h1'
      have hce : (List.range k).map (fun j => ((cs.getD i []).getD j (.int .i64 0))) = c' := by
        apply List.ext_getElem?
        intro j
        by_cases hj : j < k
        · simp [List.getD, hcc', hj, List.getElem?_eq_getElem (show j < c'.length by omega)]
        · simp [hj, hln']
      rw [hce]
      exact h2'

theorem bool_of_trod (h : DataW.trod enc Tryz.prog W 0 (fun _ => true) true fuel 4 [v] = some y) : ∃ b, v = .bool b := by
  obtain ⟨b, e0, _⟩ := DataW.trod_bool Tryz.underlying4 h
  simp only [List.cons.injEq, and_true] at e0
  exact ⟨b, e0⟩
end

end Go.Proofs.YtnklnhnjmikooaaGreat

namespace Go.Proofs.YtnklnhnjmikooaaGreat
open Go.ChangeShapes Go.WideShapes Go.ChangeAt Go.RowKit Go.Joins

section
variable {H : Type} {enc : TypeId × Value → H} {W : World} {fuel : Nat} {v : Value} {y : DataW H × List MemPlace}

set_option maxRecDepth 100000 in
theorem rows_of_trod (h : DataW.trod enc Tryz.prog W 0 (fun _ => true) true fuel 27 [v] = some y) : ∃ rs, VRows W v rs := by
  obtain ⟨n, C, hS, m, D, hD⟩ := sl_of_trod (k := 4) Tryz.underlying27 (by kernel_rfl) (by omega) h
  obtain ⟨rs, hl, hr⟩ := list_of (p := fun i (r : DRow) => RV W (C i 0) r.key ∧ RV W (C i 1) r.val ∧ C i 2 = .int .i64 r.turned ∧ C i 3 = .int .i64 r.holder) n (fun i hi => by
    have hf := hD i hi
    obtain ⟨xs, n', _, _, _, hxl, hx⟩ := DataW.trod_struct Tryz.underlying108 hf
    match xs, hxl with
    | [y0, y1, y2, y3], _ =>
      have h0 : DataW.trod enc Tryz.prog W 0 (fun _ => true) true n' 93 [C i 0] = some y0 := hx 0 _ rfl
      have h1 : DataW.trod enc Tryz.prog W 0 (fun _ => true) true n' 93 [C i 1] = some y1 := hx 1 _ rfl
      have h2 : DataW.trod enc Tryz.prog W 0 (fun _ => true) true n' 3 [C i 2] = some y2 := hx 2 _ rfl
      have h3 : DataW.trod enc Tryz.prog W 0 (fun _ => true) true n' 3 [C i 3] = some y3 := hx 3 _ rfl
      obtain ⟨ky, rk, _⟩ := rv_of_trod h0
      obtain ⟨vl, rv, _⟩ := rv_of_trod h1
      obtain ⟨q, e2, _, _⟩ := int_of_trod h2
      obtain ⟨q', e3, _, _⟩ := int_of_trod h3
      exact ⟨⟨ky, vl, q, q'⟩, rk, rv, e2, e3⟩)
  exact ⟨rs, C, by rw [hl]; exact hS, hr⟩

set_option maxRecDepth 100000 in
theorem tombs_of_trod (h : DataW.trod enc Tryz.prog W 0 (fun _ => true) true fuel 28 [v] = some y) : ∃ rs, VTombs W v rs := by
  obtain ⟨n, C, hS, m, D, hD⟩ := sl_of_trod (k := 2) Tryz.underlying28 (by kernel_rfl) (by omega) h
  obtain ⟨rs, hl, hr⟩ := list_of (p := fun i (r : DTomb) => RV W (C i 0) r.key ∧ C i 1 = .int .i64 r.index) n (fun i hi => by
    have hf := hD i hi
    obtain ⟨xs, n', _, _, _, hxl, hx⟩ := DataW.trod_struct Tryz.underlying111 hf
    match xs, hxl with
    | [y0, y1], _ =>
      have h0 : DataW.trod enc Tryz.prog W 0 (fun _ => true) true n' 93 [C i 0] = some y0 := hx 0 _ rfl
      have h1 : DataW.trod enc Tryz.prog W 0 (fun _ => true) true n' 3 [C i 1] = some y1 := hx 1 _ rfl
      obtain ⟨ky, rk, _⟩ := rv_of_trod h0
      obtain ⟨q, e2, _, _⟩ := int_of_trod h1
      exact ⟨⟨ky, q⟩, rk, e2⟩)
  exact ⟨rs, C, by rw [hl]; exact hS, hr⟩

set_option maxRecDepth 100000 in
theorem sess_of_trod (h : DataW.trod enc Tryz.prog W 0 (fun _ => true) true fuel 29 [v] = some y) : ∃ rs, VSess W v rs := by
  obtain ⟨n, C, hS, m, D, hD⟩ := sl_of_trod (k := 2) Tryz.underlying29 (by kernel_rfl) (by omega) h
  obtain ⟨rs, hl, hr⟩ := list_of (p := fun i (r : DSess) => C i 0 = .int .i64 r.id ∧ C i 1 = .bool r.del) n (fun i hi => by
    have hf := hD i hi
    obtain ⟨xs, n', _, _, _, hxl, hx⟩ := DataW.trod_struct Tryz.underlying133 hf
    match xs, hxl with
    | [y0, y1], _ =>
      have h0 : DataW.trod enc Tryz.prog W 0 (fun _ => true) true n' 3 [C i 0] = some y0 := hx 0 _ rfl
      have h1 : DataW.trod enc Tryz.prog W 0 (fun _ => true) true n' 4 [C i 1] = some y1 := hx 1 _ rfl
      obtain ⟨q, e1, _, _⟩ := int_of_trod h0
      obtain ⟨b, e2⟩ := bool_of_trod h1
      exact ⟨⟨q, b⟩, e1, e2⟩)
  exact ⟨rs, C, by rw [hl]; exact hS, hr⟩

set_option maxRecDepth 100000 in
theorem lasts_of_trod (h : DataW.trod enc Tryz.prog W 0 (fun _ => true) true fuel 30 [v] = some y) : ∃ rs, VLasts W v rs := by
  obtain ⟨n, C, hS, m, D, hD⟩ := sl_of_trod (k := 4) Tryz.underlying30 (by kernel_rfl) (by omega) h
  obtain ⟨rs, hl, hr⟩ := list_of (p := fun i (r : DLast) => C i 0 = .int .i64 r.client ∧ C i 1 = .int .i64 r.req ∧ C i 2 = .int .i64 r.code ∧ C i 3 = .int .i64 r.index) n (fun i hi => by
    have hf := hD i hi
    obtain ⟨xs, n', _, _, _, hxl, hx⟩ := DataW.trod_struct Tryz.underlying137 hf
    match xs, hxl with
    | [y0, y1, y2], _ =>
      have h0 : DataW.trod enc Tryz.prog W 0 (fun _ => true) true n' 3 [C i 0] = some y0 := hx 0 _ rfl
      have h1 : DataW.trod enc Tryz.prog W 0 (fun _ => true) true n' 3 [C i 1] = some y1 := hx 1 _ rfl
      have h2 : DataW.trod enc Tryz.prog W 0 (fun _ => true) true n' 135 [C i 2, C i 3] = some y2 := hx 2 _ rfl
      obtain ⟨zs, n'', _, _, _, hzl, hz⟩ := DataW.trod_struct Tryz.underlying135 h2
      match zs, hzl with
      | [z0, z1], _ =>
        have g0 : DataW.trod enc Tryz.prog W 0 (fun _ => true) true n'' 3 [C i 2] = some z0 := hz 0 _ rfl
        have g1 : DataW.trod enc Tryz.prog W 0 (fun _ => true) true n'' 3 [C i 3] = some z1 := hz 1 _ rfl
        obtain ⟨q0, e0, _, _⟩ := int_of_trod h0
        obtain ⟨q1, e1, _, _⟩ := int_of_trod h1
        obtain ⟨q2, e2, _, _⟩ := int_of_trod g0
        obtain ⟨q3, e3, _, _⟩ := int_of_trod g1
        exact ⟨⟨q0, q1, q2, q3⟩, e0, e1, e2, e3⟩)
  exact ⟨rs, C, by rw [hl]; exact hS, hr⟩
end

/-- What a state's own numbers are bounded by. -/
def intSt (S : DState) : Prop := (-9223372036854775808 ≤ S.index ∧ S.index ≤ 9223372036854775807) ∧ (-9223372036854775808 ≤ S.lost ∧ S.lost ≤ 9223372036854775807)

set_option maxRecDepth 100000 in
theorem open_State {H : Type} {enc : TypeId × Value → H} {W : World} {r : Reach} {b0 : Nat} {v : Value} {d : DataW H} {p : List MemPlace}
    (hv : Value.okWide Tryz.prog W r b0 32 v) (h : DataW.Trod enc Tryz.prog W 0 (fun _ => true) true 32 v d p) : ∃ S, VState W v S ∧ rngSt S ∧ intSt S := by
  obtain ⟨cs, rfl, hsz⟩ := okWide_struct Tryz.underlying32 hv
  have h6 : Tryz.prog.cellsOf 32 = 6 := by kernel_rfl
  obtain ⟨c0, c1, c2, c3, c4, c5, rfl⟩ := array6 (hsz.trans h6)
  obtain ⟨fuel, hf⟩ := h
  obtain ⟨xs, n, _, _, _, hxl, hx⟩ := DataW.trod_struct Tryz.underlying32 hf
  match xs, hxl with
  | [y0, y1, y2, y3, y4, y5], _ =>
    have h0 : DataW.trod enc Tryz.prog W 0 (fun _ => true) true n 3 [c0] = some y0 := hx 0 _ rfl
    have h1 : DataW.trod enc Tryz.prog W 0 (fun _ => true) true n 27 [c1] = some y1 := hx 1 _ rfl
    have h2 : DataW.trod enc Tryz.prog W 0 (fun _ => true) true n 28 [c2] = some y2 := hx 2 _ rfl
    have h3 : DataW.trod enc Tryz.prog W 0 (fun _ => true) true n 3 [c3] = some y3 := hx 3 _ rfl
    have h4 : DataW.trod enc Tryz.prog W 0 (fun _ => true) true n 29 [c4] = some y4 := hx 4 _ rfl
    have h5 : DataW.trod enc Tryz.prog W 0 (fun _ => true) true n 30 [c5] = some y5 := hx 5 _ rfl
    obtain ⟨q0, rfl, a1, a2⟩ := int_of_trod h0
    obtain ⟨q3, rfl, b1, b2⟩ := int_of_trod h3
    obtain ⟨rs, v1⟩ := rows_of_trod h1
    obtain ⟨ts, v2⟩ := tombs_of_trod h2
    obtain ⟨ss, v4⟩ := sess_of_trod h4
    obtain ⟨ls, v5⟩ := lasts_of_trod h5
    have V : VState W (.agg #[.int .i64 q0, c1, c2, .int .i64 q3, c4, c5]) ⟨q0, rs, ts, q3, ss, ls⟩ := ⟨c1, c2, c4, c5, rfl, v1, v2, v4, v5⟩
    exact ⟨_, V, rngSt_of V, ⟨a1, a2⟩, ⟨b1, b2⟩⟩

end Go.Proofs.YtnklnhnjmikooaaGreat

namespace Go.Proofs.YtnklnhnjmikooaaGreat
open Go.RowKit

theorem cells6S {w : World} {g : Nat} {v0 v1 v2 v3 v4 v5 : Value} {t : TypeId} (h : w.heap[g]? = some (.cells #[v0, v1, v2, v3, v4, v5] t (0, 0))) : w.cell? ⟨g, 0, none⟩ = some v0 ∧ w.cell? ⟨g, 1, none⟩ = some v1 ∧ w.cell? ⟨g, 2, none⟩ = some v2 ∧ w.cell? ⟨g, 3, none⟩ = some v3 ∧ w.cell? ⟨g, 4, none⟩ = some v4 ∧ w.cell? ⟨g, 5, none⟩ = some v5 :=
  ⟨(at_block h 0 _ rfl).1, (at_block h 1 _ rfl).1, (at_block h 2 _ rfl).1, (at_block h 3 _ rfl).1, (at_block h 4 _ rfl).1, (at_block h 5 _ rfl).1⟩
def stA (gr gt gs gl : Nat) (S : DState) : Array Value := #[.int .i64 S.index, .slice (some ⟨gr, 0, none⟩) S.rows.length S.rows.length, .slice (some ⟨gt, 0, none⟩) S.tombs.length S.tombs.length, .int .i64 S.lost, .slice (some ⟨gs, 0, none⟩) S.sess.length S.sess.length, .slice (some ⟨gl, 0, none⟩) S.lasts.length S.lasts.length]
theorem al2x (w : World) (a b : Obj) : ((w.alloc a).alloc b).heap[w.heap.size]? = some a := by
  rw [Below.heap_alloc _ _ _ (by simp)]
  exact heap_alloc_new w a
theorem al2y (w : World) (a b : Obj) : ((w.alloc a).alloc b).heap[w.heap.size + 1]? = some b := by simpa using heap_alloc_new (w.alloc a) b
theorem row_new {b0 base n : Nat} {z : World} {v : Value} {F : Nat → Nat → Value} {o : Obj} (r : Row base 95 4 z v n F) (hb : b0 ≤ base) : Hid (Row b0 95 4 (z.alloc o) v n F) := rowBase (r.kept (World.grownBy_alloc _ _ none) (by cases v.ownBlock <;> simp)) hb
theorem row_set3 {b0 base n bs : Nat} {z : World} {v c0 c1 c2 u0 u1 u2 : Value} {F : Nat → Nat → Value} (r : Row base 95 4 z v n F) (hb : b0 ≤ base) (P : z.heap[bs]? = some (.cells #[c0, c1, c2] 39 (0, 0))) : Hid (Row b0 95 4 (((z.setCell ⟨bs, 0, none⟩ u0).setCell ⟨bs, 1, none⟩ u1).setCell ⟨bs, 2, none⟩ u2) v n F) := by
  have nb : v.ownBlock = none ∨ v.ownBlock ≠ some bs := .inr (Ne.symm (row_neO r P (by decide)))
  exact rowBase (((r.kept (set_grown _ _ _ _) nb).kept (set_grown _ _ _ _) nb).kept (set_grown _ _ _ _) nb) hb

set_option maxRecDepth 20000 in
set_option maxHeartbeats 8000000 in
theorem law_DutyTick (v : Value) (D : DDuty) (u : Value) (S : DState) (i : Int) (w : World) (h : VDuty w v D) (k : VState w u S) (hrg : rngSt S) (_hi : intSt S) (_i1 : -9223372036854775808 ≤ i) (_i2 : i ≤ 9223372036854775807) :
    Calls Tryz.prog 4 #[v, u, .int .i64 i] w fun e w' => e = .returned (.bool true) ∧ Below w.heap.size w w' := by
  have hE : ∀ w : World, ∀ o, Ext w (w.alloc o) := fun w o => World.grownBy_alloc _ _ _
  have hB : ∀ w : World, ∀ o, Below w.heap.size w (w.alloc o) := fun w o => (Below.refl _ w).alloc (Nat.le_refl _) _
  have h0 : Hid (VDuty w v D) := h
  have k0 : Hid (VState w u S) := k
  have HRG := hideD hrg
  obtain ⟨⟨R, ids⟩, hR⟩ : ∃ R, R = tickX (tB (DutyP D) && tB (StP S) && inB i 0 (1000000 - D.wh.now)) D S.sess i := ⟨_, rfl⟩
  have HR : Hid ((R, ids) = tickX (tB (DutyP D) && tB (StP S) && inB i 0 (1000000 - D.wh.now)) D S.sess i) := hR
  have HLEN : Hid (R.wh.tms.length ≤ 1048576 ∧ ids.length ≤ 1000) := by
    have := tickX_len (tB (DutyP D) && tB (StP S) && inB i 0 (1000000 - D.wh.now)) D S.sess i (fun h => by
      simp only [Bool.and_eq_true, inB, decide_eq_true_eq] at h
      exact ⟨(tB_iff.1 h.1.1).2.1, h.2.1, h.2.2⟩)
    rw [← hR] at this
    exact this
  obtain ⟨q, hq⟩ : ∃ q, q = ids.length := ⟨_, rfl⟩
  have HQQ := hideD hq
  have HQL : Hid (q ≤ 1000) := by rw [hq]; exact HLEN.out.2
  clear hq
  clear hR
  obtain ⟨tv, rfl, ht⟩ := h
  obtain ⟨ta, tc', rfl⟩ := ht.shape
  obtain ⟨n, hn⟩ : ∃ n, n = D.wh.tms.length := ⟨_, rfl⟩
  have HN : Hid (n = D.wh.tms.length) := hn
  rw [← hn] at h0 ⊢
  clear hn ht hrg
  obtain ⟨rv, uv, sv0, lv, rfl, _, _, _, _⟩ := k
  go_enter Tryz.func4, Tryz.ntmps4
  go_upto_region 2 with fail
  have PA := al2x w (.cells #[.int .i64 D.ttl, .int .i64 D.wh.now, .slice ta n tc'] 26 (0, 0)) (.cells #[.int .i64 S.index, rv, uv, .int .i64 S.lost, sv0, lv] 32 (0, 0))
  have PB := al2y w (.cells #[.int .i64 D.ttl, .int .i64 D.wh.now, .slice ta n tc'] 26 (0, 0)) (.cells #[.int .i64 S.index, rv, uv, .int .i64 S.lost, sv0, lv] 32 (0, 0))
  generalize hW : World.alloc (World.alloc w _) _ = W at PA PB ⊢
  have BW : Below w.heap.size w W := by rw [← hW]; exact ((Below.refl _ w).alloc (Nat.le_refl _) _).alloc (by simp) _
  clear hW
  obtain ⟨x0, x1, x2⟩ := bx3 PA
  go_wp2_with fail
  refine (szD _ D 1048576 _ (h0.out.ext (ext_below BW)) (by omega) (by omega)).mono ?_
  rintro e wa ⟨r, rfl, hrr, ba⟩
  rw [← HN.out] at hrr
  have PA1 := below_blk ba (Array.getElem?_eq_some_iff.1 PA).1 PA
  have PB1 := below_blk ba (Array.getElem?_eq_some_iff.1 PB).1 PB
  have B1 := BW.trans (ba.mono BW.size)
  clear x0 x1 x2 PA PB ba BW
  rcases hrr with ⟨h1, rfl⟩ | ⟨h1, h2⟩
  · go_wp2_with fail
    go_ret
    exact ⟨rfl, B1⟩
  have HLE : Hid (D.wh.tms.length ≤ 1048576) := by have := HN.out; show _ ≤ _; omega
  have hl : n ≤ 1048576 := by omega
  have hr0 : 0 ≤ r := by omega
  have hr1 : r ≤ 1048576 := by omega
  clear h1 h2
  obtain ⟨y0, y1, y2, y3, y4, y5⟩ := cells6S PB1
  go_wp2_with fail
  refine (szSt _ S r _ (k0.out.ext (ext_below B1)) hr0 hr1).mono ?_
  rintro e w1 ⟨r2, rfl, hrr, bb⟩
  have HAD := hideD (below_blk bb (Array.getElem?_eq_some_iff.1 PA1).1 PA1)
  have HAS := hideD (below_blk bb (Array.getElem?_eq_some_iff.1 PB1).1 PB1)
  have B2 := hideD (B1.trans (bb.mono B1.size))
  clear y0 y1 y2 y3 y4 y5 PA1 PB1 bb B1
  rcases hrr with ⟨h1, rfl⟩ | ⟨h1, h2⟩
  · go_wp2_with fail
    go_ret
    exact ⟨rfl, B2.out⟩
  have HL : Hid (LenSt S 1048576) := lenSt_of (by omega)
  have hr2 : 0 ≤ r2 := by omega
  obtain ⟨m, hm⟩ : ∃ m, m = R.wh.tms.length := ⟨_, rfl⟩
  have HMR := hideD hm
  have HML : Hid (m ≤ 1048576) := by rw [hm]; exact HLEN.out.1
  clear h1 h2 hm
  have HTDg : Hid (∀ V0 V, Ext w V0 → Ext V0 V → Calls Tryz.prog 8 #[.agg #[.int .i64 D.ttl, .int .i64 D.wh.now, .slice ta n tc']] V fun e w' => ∃ g, e = .returned (.agg #[.int .i64 D.ttl, .int .i64 D.wh.now, .slice (some ⟨g, 0, none⟩) n n]) ∧ Hid (OwT w' V.heap.size (.slice (some ⟨g, 0, none⟩) n n) D.wh.tms) ∧ Hid (Ext V0 w') ∧ Hid (Ext V w')) := fun V0 V e0 e1 => (toD _ D V ((h0.out.ext e0).ext e1) HLE.out).mono fun e w' ⟨g, h1, h2, h3, h4⟩ => by
    rw [← HN.out] at h1
    refine ⟨g, h1, ?_, e1.trans (ext_below h4), ext_below h4⟩
    rw [HN.out]
    exact h3.own h2 HLE.out
  have HTSg : Hid (∀ V0 V, Ext w V0 → Ext V0 V → Calls Tryz.prog 9 #[.agg #[.int .i64 S.index, rv, uv, .int .i64 S.lost, sv0, lv]] V fun e w' => ∃ gr gt gs gl, e = .returned (stV gr gt gs gl S) ∧ Hid (VState w' (stV gr gt gs gl S) S) ∧ Hid (Shp V.heap.size w'.heap.size w' gr gt gs gl S.rows.length S.tombs.length S.sess.length S.lasts.length) ∧ Hid (Ext V0 w') ∧ Hid (Ext V w')) := fun V0 V e0 e1 => (toSt _ S V ((k0.out.ext e0).ext e1) HL.out).mono fun e w' ⟨gr, gt, gs, gl, h1, h2, h3⟩ => ⟨gr, gt, gs, gl, h1, h2.v HL.out HRG.out, shp_of h2 HL.out, e1.trans (ext_below h3), ext_below h3⟩
  have HSg : Hid (∀ V0 V xv yv, Ext V0 V → VDuty V xv D → VState V yv S → Calls Tryz.prog 16 #[xv, yv, .int .i64 i] V fun e w' => ∃ sa sc oa oc, e = .returned (.tuple #[.agg #[.int .i64 R.ttl, .int .i64 R.wh.now, .slice sa m sc], .slice oa q oc]) ∧ Hid (OwT w' V.heap.size (.slice sa m sc) R.wh.tms) ∧ Hid (Row V.heap.size 95 4 w' (.slice oa q oc) q (opF ids)) ∧ Hid (Ext V0 w') ∧ Hid (Ext V w')) := fun V0 V xv yv e1 hx hy => (sDutyTickV xv yv D S i V hx hy HLE.out).mono fun e w' ⟨tv, ov, h1, h2, h4, h3⟩ => by
    rw [← HR.out] at h1 h2 h4
    simp only at h1 h2 h4
    obtain ⟨a, c, rfl⟩ := h2.v.shape
    obtain ⟨oa, oc, rfl⟩ := h4.shape
    rw [← HMR.out] at h1 h2
    rw [← HQQ.out] at h1 h4
    exact ⟨a, c, oa, oc, h1, h2, h4, e1.trans (ext_below h3), ext_below h3⟩
  have HIg : Hid (∀ V0 V xv yv, Ext V0 V → VDuty V xv D → VState V yv S → Calls Tryz.prog 17 #[xv, yv, .int .i64 i] V fun e w' => ∃ sa sc oa oc, e = .returned (.tuple #[.agg #[.int .i64 R.ttl, .int .i64 R.wh.now, .slice sa m sc], .slice oa q oc]) ∧ Hid (OwT w' V.heap.size (.slice sa m sc) R.wh.tms) ∧ Hid (Row V.heap.size 95 4 w' (.slice oa q oc) q (opF ids)) ∧ Hid (Ext V0 w') ∧ Hid (Ext V w')) := fun V0 V xv yv e1 hx hy => (iDutyTickV xv yv D S i V hx hy HLE.out).mono fun e w' ⟨tv, ov, h1, h2, h4, h3⟩ => by
    rw [← HR.out] at h1 h2 h4
    simp only at h1 h2 h4
    obtain ⟨a, c, rfl⟩ := h2.v.shape
    obtain ⟨oa, oc, rfl⟩ := h4.shape
    rw [← HMR.out] at h1 h2
    rw [← HQQ.out] at h1 h4
    exact ⟨a, c, oa, oc, h1, h2, h4, e1.trans (ext_below h3), ext_below h3⟩
  have HTD := hideD (fun V e => HTDg.out w1 V (ext_below B2.out) e)
  have HTS := hideD (fun V e => HTSg.out w1 V (ext_below B2.out) e)
  have HS := hideD (HSg.out w1)
  have XRR : Ext w1 w1 := World.grownBy.refl _ _
  have d0w := (bx3 (ext_blk XRR HAD.out)).1
  have da0w := (fun o => (bx3 (ext_blk (XRR.trans (World.grownBy_alloc w1 o none)) HAD.out)).1)
  have d1w := (bx3 (ext_blk XRR HAD.out)).2.1
  have da1w := (fun o => (bx3 (ext_blk (XRR.trans (World.grownBy_alloc w1 o none)) HAD.out)).2.1)
  have d2w := (bx3 (ext_blk XRR HAD.out)).2.2
  have da2w := (fun o => (bx3 (ext_blk (XRR.trans (World.grownBy_alloc w1 o none)) HAD.out)).2.2)
  have s0w := (cells6S (ext_blk XRR HAS.out)).1
  have sa0w := (fun o => (cells6S (ext_blk (XRR.trans (World.grownBy_alloc w1 o none)) HAS.out)).1)
  have s1w := (cells6S (ext_blk XRR HAS.out)).2.1
  have sa1w := (fun o => (cells6S (ext_blk (XRR.trans (World.grownBy_alloc w1 o none)) HAS.out)).2.1)
  have s2w := (cells6S (ext_blk XRR HAS.out)).2.2.1
  have sa2w := (fun o => (cells6S (ext_blk (XRR.trans (World.grownBy_alloc w1 o none)) HAS.out)).2.2.1)
  have s3w := (cells6S (ext_blk XRR HAS.out)).2.2.2.1
  have sa3w := (fun o => (cells6S (ext_blk (XRR.trans (World.grownBy_alloc w1 o none)) HAS.out)).2.2.2.1)
  have s4w := (cells6S (ext_blk XRR HAS.out)).2.2.2.2.1
  have sa4w := (fun o => (cells6S (ext_blk (XRR.trans (World.grownBy_alloc w1 o none)) HAS.out)).2.2.2.2.1)
  have s5w := (cells6S (ext_blk XRR HAS.out)).2.2.2.2.2
  have sa5w := (fun o => (cells6S (ext_blk (XRR.trans (World.grownBy_alloc w1 o none)) HAS.out)).2.2.2.2.2)
  unfold stV at HTSg HTS
  go_upto_region 8 with fail
  go_cut [8, 9] from 30 to 37 (fun s t0 wx => ∃ wy bs sa sc oa oc, wx = wy ∧ s = .pointer (some ⟨bs, 0, none⟩) ∧ t0 = .slice oa q oc ∧ Hid (BoxD w1 R m bs sa sc wy) ∧ Hid (Row w1.heap.size 95 4 wy (.slice oa q oc) q (opF ids)))
  case first =>
    go_region_law (first
      | (go_simp; go_at_call 16; refine (HS.out _ _ _ ?_ ?_ ?_).mono ?_; (repeat (first | exact World.grownBy.refl _ _ | assumption | refine World.grownBy.trans ?_ (World.grownBy_alloc _ _ _) | refine World.grownBy.trans ?_ (ext_drewN _ _))); exact ⟨_, rfl, o1.out.v.ext (X12.out.trans (by (repeat (first | exact World.grownBy.refl _ _ | assumption | refine World.grownBy.trans ?_ (World.grownBy_alloc _ _ _) | refine World.grownBy.trans ?_ (ext_drewN _ _)))))⟩; exact v2.out.ext (by (repeat (first | exact World.grownBy.refl _ _ | assumption | refine World.grownBy.trans ?_ (World.grownBy_alloc _ _ _) | refine World.grownBy.trans ?_ (ext_drewN _ _)))); rintro e z3 ⟨sa, sc, oa, oc, rfl, o3, r3, X3, XV3⟩; (try (have Q3 := ext_blk XV3.out Q2)); (try (have Q3 := ext_blk XV3.out (heap_alloc_new z2 (.cells #[.int .i64 0, .int .i64 0, .slice none 0 0] 39 (0, 0))))); (try (obtain ⟨q0, p0⟩ := at_block Q3 0 _ rfl; obtain ⟨q1, p1⟩ := at_block Q3 1 _ rfl; obtain ⟨q2, p2⟩ := at_block Q3 2 _ rfl)))
      | (go_simp; go_at_call 9; refine (HTS.out _ ?_).mono ?_; (repeat (first | exact World.grownBy.refl _ _ | assumption | refine World.grownBy.trans ?_ (World.grownBy_alloc _ _ _) | refine World.grownBy.trans ?_ (ext_drewN _ _))); rintro e z2 ⟨gr2, gt2, gs2, gl2, rfl, v2, h2, X2, XV2⟩; have X12 : Hid (Ext z1 z2) := (by refine World.grownBy.trans ?_ XV2.out; (repeat (first | exact World.grownBy.refl _ _ | assumption | refine World.grownBy.trans ?_ (World.grownBy_alloc _ _ _) | refine World.grownBy.trans ?_ (ext_drewN _ _)))); (try (have Q2 := ext_blk XV2.out Q1)); (try (have Q2 := ext_blk XV2.out (heap_alloc_new z1 (.cells #[.int .i64 0, .int .i64 0, .slice none 0 0] 39 (0, 0))))); have d0 := (bx3 (ext_blk X2.out HAD.out)).1; have da0 := (fun o => (bx3 (ext_blk (X2.out.trans (World.grownBy_alloc z2 o none)) HAD.out)).1); have d1 := (bx3 (ext_blk X2.out HAD.out)).2.1; have da1 := (fun o => (bx3 (ext_blk (X2.out.trans (World.grownBy_alloc z2 o none)) HAD.out)).2.1); have d2 := (bx3 (ext_blk X2.out HAD.out)).2.2; have da2 := (fun o => (bx3 (ext_blk (X2.out.trans (World.grownBy_alloc z2 o none)) HAD.out)).2.2); have s0 := (cells6S (ext_blk X2.out HAS.out)).1; have sa0 := (fun o => (cells6S (ext_blk (X2.out.trans (World.grownBy_alloc z2 o none)) HAS.out)).1); have s1 := (cells6S (ext_blk X2.out HAS.out)).2.1; have sa1 := (fun o => (cells6S (ext_blk (X2.out.trans (World.grownBy_alloc z2 o none)) HAS.out)).2.1); have s2 := (cells6S (ext_blk X2.out HAS.out)).2.2.1; have sa2 := (fun o => (cells6S (ext_blk (X2.out.trans (World.grownBy_alloc z2 o none)) HAS.out)).2.2.1); have s3 := (cells6S (ext_blk X2.out HAS.out)).2.2.2.1; have sa3 := (fun o => (cells6S (ext_blk (X2.out.trans (World.grownBy_alloc z2 o none)) HAS.out)).2.2.2.1); have s4 := (cells6S (ext_blk X2.out HAS.out)).2.2.2.2.1; have sa4 := (fun o => (cells6S (ext_blk (X2.out.trans (World.grownBy_alloc z2 o none)) HAS.out)).2.2.2.2.1); have s5 := (cells6S (ext_blk X2.out HAS.out)).2.2.2.2.2; have sa5 := (fun o => (cells6S (ext_blk (X2.out.trans (World.grownBy_alloc z2 o none)) HAS.out)).2.2.2.2.2))
      | (go_simp; go_at_call 8; refine (HTD.out _ ?_).mono ?_; (repeat (first | exact World.grownBy.refl _ _ | assumption | refine World.grownBy.trans ?_ (World.grownBy_alloc _ _ _) | refine World.grownBy.trans ?_ (ext_drewN _ _))); rintro e z1 ⟨g1, rfl, o1, X1, XV1⟩; (try (have Q1 := ext_blk XV1.out (heap_alloc_new w1 (.cells #[.int .i64 0, .int .i64 0, .slice none 0 0] 39 (0, 0))))); have d0 := (bx3 (ext_blk X1.out HAD.out)).1; have da0 := (fun o => (bx3 (ext_blk (X1.out.trans (World.grownBy_alloc z1 o none)) HAD.out)).1); have d1 := (bx3 (ext_blk X1.out HAD.out)).2.1; have da1 := (fun o => (bx3 (ext_blk (X1.out.trans (World.grownBy_alloc z1 o none)) HAD.out)).2.1); have d2 := (bx3 (ext_blk X1.out HAD.out)).2.2; have da2 := (fun o => (bx3 (ext_blk (X1.out.trans (World.grownBy_alloc z1 o none)) HAD.out)).2.2); have s0 := (cells6S (ext_blk X1.out HAS.out)).1; have sa0 := (fun o => (cells6S (ext_blk (X1.out.trans (World.grownBy_alloc z1 o none)) HAS.out)).1); have s1 := (cells6S (ext_blk X1.out HAS.out)).2.1; have sa1 := (fun o => (cells6S (ext_blk (X1.out.trans (World.grownBy_alloc z1 o none)) HAS.out)).2.1); have s2 := (cells6S (ext_blk X1.out HAS.out)).2.2.1; have sa2 := (fun o => (cells6S (ext_blk (X1.out.trans (World.grownBy_alloc z1 o none)) HAS.out)).2.2.1); have s3 := (cells6S (ext_blk X1.out HAS.out)).2.2.2.1; have sa3 := (fun o => (cells6S (ext_blk (X1.out.trans (World.grownBy_alloc z1 o none)) HAS.out)).2.2.2.1); have s4 := (cells6S (ext_blk X1.out HAS.out)).2.2.2.2.1; have sa4 := (fun o => (cells6S (ext_blk (X1.out.trans (World.grownBy_alloc z1 o none)) HAS.out)).2.2.2.2.1); have s5 := (cells6S (ext_blk X1.out HAS.out)).2.2.2.2.2; have sa5 := (fun o => (cells6S (ext_blk (X1.out.trans (World.grownBy_alloc z1 o none)) HAS.out)).2.2.2.2.2)))
    all_goals
      have HZ2 := X2.out.size
      have HZ1 := X1.out.size
      go_wp2_with fail
      go_meet
      refine ⟨_, _, sa, sc, oa, oc, rfl, rfl, rfl, ?_, ?_⟩
      case refine_2 =>
        first
          | (with_reducible refine row_set3 r3.out ?_ Q3; (first | omega | (simp; omega)))
          | (with_reducible refine row_new r3.out ?_; (first | omega | (simp; omega)))
      first
        | (with_reducible refine hideD (boxd_set X3.out o3.out ?_ Q3 ?_); (first | omega | (simp; omega)); (first | omega | (simp; omega)))
        | (with_reducible refine hideD (boxd_new X3.out o3.out ?_); (first | omega | (simp; omega)))
  obtain ⟨wy, bs, sa, sc, oa, oc, hwy, rfl, rfl, HBX, HRX⟩ := hcut
  have hwy' := hwy.symm
  clear hwy
  subst hwy'

  have HX1 := HBX.out.2.1
  have HSO : Hid (RdO wy (.slice oa q oc) ids) := by have := HRX.out; rw [HQQ.out] at this ⊢; exact this.rdO
  have HXW : Hid (Ext w wy) := (ext_below B2.out).trans HX1
  have HADy := hideD (ext_blk HX1 HAD.out)
  have HASy := hideD (ext_blk HX1 HAS.out)
  have HSZ1 : Hid (w.heap.size + 1 < wy.heap.size ∧ bs < wy.heap.size) := ⟨(Array.getElem?_eq_some_iff.1 HASy.out).1, (Array.getElem?_eq_some_iff.1 HBX.out.1).1⟩
  have HBWy := hideD (B2.out.trans ((ext_bel HX1).mono B2.out.size))
  clear d0w da0w d1w da1w d2w da2w s0w sa0w s1w sa1w s2w sa2w s3w sa3w s4w sa4w s5w sa5w XRR HTD HTS HS HX1
  obtain ⟨e0, e1, e2⟩ := bx3 HADy.out
  go_wp2_with fail
  refine (HTDg.out wy wy HXW.out (World.grownBy.refl _ _)).mono ?_
  rintro e z4 ⟨g4, rfl, o4, X4, _⟩
  have HM4 : Hid (∀ V, V = z4.alloc (.cells #[.int .i64 D.ttl, .int .i64 D.wh.now, .slice (some ⟨g4, 0, none⟩) n n] 39 (0, 0)) → Ext wy V ∧ V.heap[z4.heap.size]? = some (.cells #[.int .i64 D.ttl, .int .i64 D.wh.now, .slice (some ⟨g4, 0, none⟩) n n] 39 (0, 0)) ∧ OwT V wy.heap.size (.slice (some ⟨g4, 0, none⟩) n n) D.wh.tms ∧ V.heap.size = z4.heap.size + 1 ∧ g4 < z4.heap.size) := fun V hV => by
    subst hV
    exact ⟨X4.out.trans (hE _ _), heap_alloc_new _ _, o4.out.alloc _, by simp, (World.ownsRow.lt o4.out g4 rfl).2⟩
  clear e0 e1 e2
  go_upto_region 10 with fail
  generalize hV : z4.alloc _ = W4
  obtain ⟨XY4, P4, O4, Z4, L4⟩ := HM4.out W4 hV.symm
  clear hV HM4
  have HXY4 := hideD XY4
  have HP4 := hideD P4
  have HO4 := hideD O4
  have HZ4 : Hid (W4.heap.size = z4.heap.size + 1 ∧ g4 < z4.heap.size ∧ wy.heap.size ≤ z4.heap.size) := ⟨Z4, L4, X4.out.size⟩
  clear XY4 P4 O4 Z4 L4 o4 X4
  obtain ⟨f0, f1, f2, f3, f4, f5⟩ := cells6S (ext_blk HXY4.out HASy.out)
  go_wp2_with fail
  refine (HTSg.out wy W4 HXW.out HXY4.out).mono ?_
  rintro e z5 ⟨gr, gt, gs, gl, rfl, v5, h5, X5, Y5⟩
  have HM5 : Hid (∀ V, V = z5.alloc (.cells (stA gr gt gs gl S) 48 (0, 0)) → Ext W4 V ∧ V.heap[z5.heap.size]? = some (.cells (stA gr gt gs gl S) 48 (0, 0)) ∧ VState V (.agg (stA gr gt gs gl S)) S ∧ Shp W4.heap.size z5.heap.size V gr gt gs gl S.rows.length S.tombs.length S.sess.length S.lasts.length ∧ V.heap.size = z5.heap.size + 1 ∧ W4.heap.size ≤ z5.heap.size) := fun V hV => by
    subst hV
    exact ⟨Y5.out.trans (hE _ _), heap_alloc_new _ _, v5.out.ext (hE _ _), h5.out.ext (hE _ _), by simp, Y5.out.size⟩
  clear f0 f1 f2 f3 f4 f5
  go_upto_region 11 with fail
  generalize hV : z5.alloc _ = W5
  obtain ⟨XY5, P5, V5, S5, Z5, L5⟩ := HM5.out W5 hV.symm
  clear hV HM5
  have HXY5 := hideD XY5
  have HP5 := hideD P5
  have HV5 := hideD V5
  have HS5 := hideD S5
  have HZ5 : Hid (W5.heap.size = z5.heap.size + 1 ∧ W4.heap.size ≤ z5.heap.size) := ⟨Z5, L5⟩
  clear XY5 P5 V5 S5 Z5 L5 v5 h5 X5 Y5
  obtain ⟨e0, e1, e2⟩ := bx3 (ext_blk HXY5.out HP4.out)
  obtain ⟨f0, f1, f2, f3, f4, f5⟩ := cells6S (show W5.heap[z5.heap.size]? = some (.cells #[_, _, _, _, _, _] _ _) from HP5.out)
  go_wp2_with fail
  refine (HIg.out wy W5 _ _ (HXY4.out.trans HXY5.out) ⟨_, rfl, OwT.v (HO4.out.kept HXY5.out (by simp [Value.ownBlock]))⟩ HV5.out).mono ?_
  rintro e z6 ⟨ga, gc, pa, pc, rfl, o6, r6, X6, Y6⟩
  have HM6 : Hid (∀ V, V = z6.alloc (.cells #[.int .i64 R.ttl, .int .i64 R.wh.now, .slice ga m gc] 39 (0, 0)) → LSy w wy V D R #[.int .i64 D.ttl, .int .i64 D.wh.now, .slice ta n tc'] #[.int .i64 S.index, rv, uv, .int .i64 S.lost, sv0, lv] (stA gr gt gs gl S) (.slice sa m sc) (.slice (some ⟨g4, 0, none⟩) n n) (.slice ga m gc) bs z4.heap.size z5.heap.size z6.heap.size wy.heap.size W5.heap.size W4.heap.size z5.heap.size D.wh.tms R.wh.tms ∧ Shp W4.heap.size z5.heap.size V gr gt gs gl S.rows.length S.tombs.length S.sess.length S.lasts.length ∧ VState V (.agg (stA gr gt gs gl S)) S ∧ Row W5.heap.size 95 4 V (.slice pa q pc) q (opF ids)) := fun V hV => by
    subst hV
    have hz1 := HSZ1.out
    have hz4 := HZ4.out
    have hz5 := HZ5.out
    have hz6 := Y6.out.size
    have X56 : Ext W5 (z6.alloc (.cells #[.int .i64 R.ttl, .int .i64 R.wh.now, .slice ga m gc] 39 (0, 0))) := Y6.out.trans (hE _ _)
    have X46 := HXY5.out.trans X56
    have XW6 := HXY4.out.trans X46
    exact ⟨⟨HBWy.out.trans ((ext_bel XW6).mono HBWy.out.size), ext_bel XW6, HBX.out.2.2.1.v, ext_blk XW6 HADy.out, ext_blk XW6 HASy.out, ext_blk XW6 HBX.out.1, ext_blk X46 HP4.out, ext_blk X56 HP5.out, heap_alloc_new _ _, HO4.out.kept X46 (by simp [Value.ownBlock]), o6.out.alloc _, fun k hk => (by have e9 : g4 = k := (by simpa [Value.ownBlock] using hk); omega), by omega⟩, HS5.out.ext X56, HV5.out.ext X56, r6.out.kept (hE _ _) (by cases (Value.slice pa q pc).ownBlock <;> simp)⟩
  clear e0 e1 e2 f0 f1 f2 f3 f4 f5
  go_upto_region 12 with fail
  generalize hV : z6.alloc _ = W6
  obtain ⟨L6, S6, V6, R6⟩ := HM6.out W6 hV.symm
  have HP6 := hideD R6
  have HL6 := hideD L6
  have HS6 := hideD S6
  have HV6 := hideD V6
  clear hV HM6 L6 S6 V6 R6 o6 r6 X6 Y6
  have HORD := hideD HL6.out.ord
  clear HXY4 HP4 HO4 HXY5 HP5 HV5 HS5
  obtain ⟨s0, s1, s2⟩ := bx3 HL6.out.s
  obtain ⟨g0, g1, g2⟩ := bx3 HL6.out.g
  go_wp2_with fail
  refine (eqD _ _ R _ ⟨_, rfl, OwT.v HL6.out.gO⟩ HL6.out.sW (by rw [← HMR.out]; exact HML.out)).mono ?_
  rintro e W7 ⟨rfl, b7⟩
  have HLz := hideD (HL6.out.grow b7)
  have HPz := hideD (HP6.out.kept (ext_below b7) (by cases (Value.slice pa q pc).ownBlock <;> simp))
  have HSz := hideD (HS6.out.ext (ext_below b7))
  have HVz := hideD (HV6.out.ext (ext_below b7))
  clear s0 s1 s2 g0 g1 g2 b7 HL6 HS6 HV6 HP6
  go_wp2_with fail
  refine (eqOpsV _ _ ids _ (by have := HPz.out; rw [HQQ.out] at this ⊢; exact this.rdO) (HLz.out.sO HSO.out) (by rw [← HQQ.out]; exact HQL.out)).mono ?_
  rintro e W7 ⟨rfl, b7⟩
  have HP7 := hideD (HPz.out.kept (ext_below b7) (by cases (Value.slice pa q pc).ownBlock <;> simp))
  have HL7 := hideD (HLz.out.grow b7)
  have HS7 := hideD (HSz.out.ext (ext_below b7))
  have HV7 := hideD (HVz.out.ext (ext_below b7))
  clear b7 HLz HSz HVz HPz
  -- its arguments are as they were
  have HADc := hideD HL7.out.aD
  have HASc := hideD HL7.out.aS
  have HXc := hideD HL7.out.x
  have HYc := hideD HL7.out.y
  have HTDc := hideD (fun V e => HTDg.out W7 V (ext_below HL7.out.low) e)
  have XRR : Ext W7 W7 := World.grownBy.refl _ _
  obtain ⟨e0, e1, e2⟩ := bx3 HADc.out
  obtain ⟨x0, x1, x2⟩ := bx3 HXc.out
  go_upto_region 14 with fail
  go_cut [63] from 59 to 63 (fun c wx => ∃ wq, wx = wq ∧ c = .bool false ∧ Hid (Ext W7 wq))
  case first =>
    go_region_law (first
      | (go_simp; go_at_call 11; refine (eqD _ _ D _ ⟨_, rfl, OwT.v (HL7.out.xO.kept X1.out (by simp [Value.ownBlock]))⟩ ⟨_, rfl, o1.out.v⟩ HLE.out).mono ?_; rintro e z2 ⟨rfl, b2⟩; have X2 : Hid (Ext W7 z2) := X1.out.trans (ext_below b2))
      | (go_simp; go_at_call 8; refine (HTDc.out _ ?_).mono ?_; (repeat (first | exact World.grownBy.refl _ _ | assumption | refine World.grownBy.trans ?_ (World.grownBy_alloc _ _ _) | refine World.grownBy.trans ?_ (ext_drewN _ _))); rintro e z1 ⟨g1, rfl, o1, X1, XV1⟩; obtain ⟨y0, y1, y2⟩ := bx3 (ext_blk X1.out HXc.out)))
    all_goals
      go_wp2_with fail
      go_meet
      exact ⟨_, rfl, rfl, X2⟩
  obtain ⟨W8, hwy, rfl, HX8⟩ := hcut
  have hwy' := hwy.symm
  clear hwy
  subst hwy'
  have HP8 := hideD (HP7.out.kept HX8.out (by cases (Value.slice pa q pc).ownBlock <;> simp))
  have HL8 := hideD (HL7.out.grow (ext_bel HX8.out))
  have HS8 := hideD (HS7.out.ext HX8.out)
  have HV8 := hideD (HV7.out.ext HX8.out)
  clear e0 e1 e2 x0 x1 x2 HADc HASc HXc HYc HTDc XRR HX8 HL7 HS7 HV7
  have HASc := hideD HL8.out.aS
  have HYc := hideD HL8.out.y
  have HTSc := hideD (fun V e => HTSg.out W8 V (ext_below HL8.out.low) e)
  have XRR : Ext W8 W8 := World.grownBy.refl _ _
  obtain ⟨f0, f1, f2, f3, f4, f5⟩ := cells6S HASc.out
  obtain ⟨y0, y1, y2, y3, y4, y5⟩ := cells6S (show W8.heap[z5.heap.size]? = some (.cells #[_, _, _, _, _, _] _ _) from HYc.out)
  go_upto_region 16 with fail
  go_cut [68] from 64 to 68 (fun c wx => ∃ wq, wx = wq ∧ c = .bool false ∧ Hid (Ext W8 wq))
  case first =>
    go_region_law (first
      | (go_simp; go_at_call 12; refine (eqSt _ _ S _ (HV8.out.ext X1.out) v1.out HL.out).mono ?_; rintro e z2 ⟨rfl, b2⟩; have X2 : Hid (Ext W8 z2) := X1.out.trans (ext_below b2))
      | (go_simp; go_at_call 9; refine (HTSc.out _ ?_).mono ?_; (repeat (first | exact World.grownBy.refl _ _ | assumption | refine World.grownBy.trans ?_ (World.grownBy_alloc _ _ _) | refine World.grownBy.trans ?_ (ext_drewN _ _))); rintro e z1 ⟨gr1, gt1, gs1, gl1, rfl, v1, h1, X1, XV1⟩; obtain ⟨q0, q1, q2, q3, q4, q5⟩ := cells6S (show z1.heap[z5.heap.size]? = some (.cells #[_, _, _, _, _, _] _ _) from ext_blk X1.out HYc.out)))
    all_goals
      go_wp2_with fail
      go_meet
      exact ⟨_, rfl, rfl, X2⟩
  obtain ⟨W9, hwy, rfl, HX9⟩ := hcut
  have hwy' := hwy.symm
  clear hwy
  subst hwy'
  have HP9 := hideD (HP8.out.kept HX9.out (by cases (Value.slice pa q pc).ownBlock <;> simp))
  have HL9 := hideD (HL8.out.grow (ext_bel HX9.out))
  have HS9 := hideD (HS8.out.ext HX9.out)
  clear f0 f1 f2 f3 f4 f5 y0 y1 y2 y3 y4 y5 HASc HYc HTSc XRR HX9 HL8 HS8 HV8
  -- marks in its arguments
  obtain ⟨x0, x1, x2⟩ := bx3 HL9.out.x
  go_wp2_with fail
  refine (markDu wy.heap.size D.ttl D.wh.now _ D.wh.tms 1 _ HL9.out.xO HLE.out (by omega) (by omega)).mono ?_
  rintro e W10 ⟨rfl, o10, t10⟩
  rw [← HN.out] at o10 ⊢
  have HPA := hideD (HP9.out.keptT HL9.out.xO t10)
  have HLA := hideD (HL9.out.turnX t10 o10)
  have HSA := hideD (HS9.out.frame (w' := W10) (fun k h1 h2 h3 => t10.block k h3 (fun e => by
    have e9 : g4 = k := (by simpa [Value.ownBlock] using e.symm)
    have := HL9.out.xl g4 rfl
    omega)))
  clear x0 x1 x2 o10 t10 HL9 HS9
  obtain ⟨y0, y1, y2, y3, y4, y5⟩ := cells6S (show W10.heap[z5.heap.size]? = some (.cells #[_, _, _, _, _, _] _ _) from HLA.out.y)
  have hk0 : (0 : Int) ≤ 1 + 2 * (n : Int) := by omega
  have hk1 : 1 + 2 * (n : Int) ≤ 1073741824 := by omega
  have HHI : Hid (z5.heap.size ≤ W10.heap.size) := Nat.le_of_lt (Array.getElem?_eq_some_iff.1 HLA.out.y).1
  go_wp2_with fail
  refine (markStM W4.heap.size z5.heap.size gr gt gs gl _ _ _ _ _ _ _ W10 HSA.out HHI.out hk0 hk1).mono ?_
  rintro e W11 ⟨k11, hk2, hk3, rfl, t11⟩
  have HHB : Hid (z5.heap.size ≤ W5.heap.size) := by have := HZ5.out.1; show _ ≤ _; omega
  have HPB := hideD (HPA.out.mid HHB.out t11)
  have HLB := hideD (HLA.out.turnS t11)
  clear y0 y1 y2 y3 y4 y5 t11 HLA HSA HHI hk0 hk1 hk3
  have hkn : ¬ (k11 < 0) := by omega
  have hkd : decide (k11 < 0) = false := decide_eq_false hkn
  obtain ⟨s0, s1, s2⟩ := bx3 HLB.out.s
  obtain ⟨g0, g1, g2⟩ := bx3 HLB.out.g
  go_wp2_with fail
  refine (eqD _ _ R _ ⟨_, rfl, OwT.v HLB.out.gO⟩ HLB.out.sW (by rw [← HMR.out]; exact HML.out)).mono ?_
  rintro e W12 ⟨rfl, b12⟩
  have HLz := hideD (HLB.out.grow b12)
  have HPz := hideD (HPB.out.kept (ext_below b12) (by cases (Value.slice pa q pc).ownBlock <;> simp))
  clear s0 s1 s2 g0 g1 g2 b12 HLB HPB
  go_wp2_with fail
  refine (eqOpsV _ _ ids _ (by have := HPz.out; rw [HQQ.out] at this ⊢; exact this.rdO) (HLz.out.sO HSO.out) (by rw [← HQQ.out]; exact HQL.out)).mono ?_
  rintro e W12b ⟨rfl, b12⟩
  have HLC := hideD (HLz.out.grow b12)
  have HPC := hideD (HPz.out.kept (ext_below b12) (by cases (Value.slice pa q pc).ownBlock <;> simp))
  clear b12 HLz HPz
  obtain ⟨g0, g1, g2⟩ := bx3 HLC.out.g
  -- marks in its answer
  go_wp2_with fail
  refine (markDu W5.heap.size R.ttl R.wh.now _ R.wh.tms 1 _ HLC.out.gO (by rw [← HMR.out]; exact HML.out) (by omega) (by omega)).mono ?_
  rintro e W13 ⟨rfl, o13, t13⟩
  rw [← HMR.out] at o13 ⊢
  have HLz := hideD (HLC.out.turnG t13 o13)
  have HPz : Hid (Row W5.heap.size 95 4 W13 (.slice pa q pc) ids.length (opF ids)) := by
    have := HPC.out.keptT HLC.out.gO t13
    rw [HQQ.out] at this ⊢
    exact this
  clear g0 g1 g2 o13 t13 HLC
  go_wp2_with fail
  refine (markOpsV W5.heap.size _ _ ids (1 + 2 * (m : Int)) _ HPz.out (by rw [← HQQ.out]; exact HQL.out) (by omega) (by have := HML.out; omega)).mono ?_
  rintro e W13b ⟨rfl, p13, t13⟩
  rw [← HQQ.out] at p13 ⊢
  have HLD := hideD (HLz.out.turnO HPz.out HHB.out t13)
  have HPD := hideD p13
  clear p13 t13 HLz HPz
  obtain ⟨g0, g1, g2⟩ := bx3 HLD.out.g
  go_wp2_with fail
  refine (heldDu W5.heap.size R.ttl R.wh.now _ m 1 _ HLD.out.gO HML.out (by omega) (by omega)).mono ?_
  rintro e W14 ⟨rfl, b14⟩
  have HLE14 := hideD (HLD.out.grow b14)
  have HPE := hideD (HPD.out.kept (ext_below b14) (by cases (Value.slice pa q pc).ownBlock <;> simp))
  clear g0 g1 g2 b14 HLD HPD
  have hm0 : ¬ ((1 : Int) + 2 * (m : Int) < 0) := by omega
  have hm1 : ¬ ((1 : Int) + 2 * (m : Int) + 2 * (q : Int) < 0) := by omega
  go_wp2_with fail
  refine (heldOpsV W5.heap.size _ _ ids q (1 + 2 * (m : Int)) _ HPE.out HQL.out (by omega) (by have := HML.out; omega)).mono ?_
  rintro e W14b ⟨rfl, hw14⟩
  have hw14x := hw14.symm
  clear hw14
  subst hw14x
  -- another call
  have HAD := hideD HLE14.out.aD
  have HAS := hideD HLE14.out.aS
  have HTD := hideD (fun V e => HTDg.out W14 V (ext_below HLE14.out.low) e)
  have HTS := hideD (fun V e => HTSg.out W14 V (ext_below HLE14.out.low) e)
  have HI := hideD (HIg.out W14)
  have XRR : Ext W14 W14 := World.grownBy.refl _ _
  have d0w := (bx3 (ext_blk XRR HAD.out)).1
  have da0w := (fun o => (bx3 (ext_blk (XRR.trans (World.grownBy_alloc W14 o none)) HAD.out)).1)
  have d1w := (bx3 (ext_blk XRR HAD.out)).2.1
  have da1w := (fun o => (bx3 (ext_blk (XRR.trans (World.grownBy_alloc W14 o none)) HAD.out)).2.1)
  have d2w := (bx3 (ext_blk XRR HAD.out)).2.2
  have da2w := (fun o => (bx3 (ext_blk (XRR.trans (World.grownBy_alloc W14 o none)) HAD.out)).2.2)
  have s0w := (cells6S (ext_blk XRR HAS.out)).1
  have sa0w := (fun o => (cells6S (ext_blk (XRR.trans (World.grownBy_alloc W14 o none)) HAS.out)).1)
  have s1w := (cells6S (ext_blk XRR HAS.out)).2.1
  have sa1w := (fun o => (cells6S (ext_blk (XRR.trans (World.grownBy_alloc W14 o none)) HAS.out)).2.1)
  have s2w := (cells6S (ext_blk XRR HAS.out)).2.2.1
  have sa2w := (fun o => (cells6S (ext_blk (XRR.trans (World.grownBy_alloc W14 o none)) HAS.out)).2.2.1)
  have s3w := (cells6S (ext_blk XRR HAS.out)).2.2.2.1
  have sa3w := (fun o => (cells6S (ext_blk (XRR.trans (World.grownBy_alloc W14 o none)) HAS.out)).2.2.2.1)
  have s4w := (cells6S (ext_blk XRR HAS.out)).2.2.2.2.1
  have sa4w := (fun o => (cells6S (ext_blk (XRR.trans (World.grownBy_alloc W14 o none)) HAS.out)).2.2.2.2.1)
  have s5w := (cells6S (ext_blk XRR HAS.out)).2.2.2.2.2
  have sa5w := (fun o => (cells6S (ext_blk (XRR.trans (World.grownBy_alloc W14 o none)) HAS.out)).2.2.2.2.2)
  go_upto_region 35 with fail
  go_cut [17, 18] from 109 to 116 (fun s t0 wx => ∃ wy, ∃ bs sa sc oa oc, wx = wy ∧ s = .pointer (some ⟨bs, 0, none⟩) ∧ t0 = .slice oa q oc ∧ Hid (BoxD W14 R m bs sa sc wy) ∧ Hid (Row W14.heap.size 95 4 wy (.slice oa q oc) q (opF ids)))
  case first =>
    go_region_law (first
      | (go_simp; go_at_call 17; refine (HI.out _ _ _ ?_ ?_ ?_).mono ?_; (repeat (first | exact World.grownBy.refl _ _ | assumption | refine World.grownBy.trans ?_ (World.grownBy_alloc _ _ _) | refine World.grownBy.trans ?_ (ext_drewN _ _))); exact ⟨_, rfl, o1.out.v.ext (X12.out.trans (by (repeat (first | exact World.grownBy.refl _ _ | assumption | refine World.grownBy.trans ?_ (World.grownBy_alloc _ _ _) | refine World.grownBy.trans ?_ (ext_drewN _ _)))))⟩; exact v2.out.ext (by (repeat (first | exact World.grownBy.refl _ _ | assumption | refine World.grownBy.trans ?_ (World.grownBy_alloc _ _ _) | refine World.grownBy.trans ?_ (ext_drewN _ _)))); rintro e z3 ⟨sa, sc, oa, oc, rfl, o3, r3, X3, XV3⟩; (try (have Q3 := ext_blk XV3.out Q2)); (try (have Q3 := ext_blk XV3.out (heap_alloc_new z2 (.cells #[.int .i64 0, .int .i64 0, .slice none 0 0] 39 (0, 0))))); (try (obtain ⟨q0, p0⟩ := at_block Q3 0 _ rfl; obtain ⟨q1, p1⟩ := at_block Q3 1 _ rfl; obtain ⟨q2, p2⟩ := at_block Q3 2 _ rfl)))
      | (go_simp; go_at_call 9; refine (HTS.out _ ?_).mono ?_; (repeat (first | exact World.grownBy.refl _ _ | assumption | refine World.grownBy.trans ?_ (World.grownBy_alloc _ _ _) | refine World.grownBy.trans ?_ (ext_drewN _ _))); rintro e z2 ⟨gr2, gt2, gs2, gl2, rfl, v2, h2, X2, XV2⟩; have X12 : Hid (Ext z1 z2) := (by refine World.grownBy.trans ?_ XV2.out; (repeat (first | exact World.grownBy.refl _ _ | assumption | refine World.grownBy.trans ?_ (World.grownBy_alloc _ _ _) | refine World.grownBy.trans ?_ (ext_drewN _ _)))); (try (have Q2 := ext_blk XV2.out Q1)); (try (have Q2 := ext_blk XV2.out (heap_alloc_new z1 (.cells #[.int .i64 0, .int .i64 0, .slice none 0 0] 39 (0, 0))))); have d0 := (bx3 (ext_blk X2.out HAD.out)).1; have da0 := (fun o => (bx3 (ext_blk (X2.out.trans (World.grownBy_alloc z2 o none)) HAD.out)).1); have d1 := (bx3 (ext_blk X2.out HAD.out)).2.1; have da1 := (fun o => (bx3 (ext_blk (X2.out.trans (World.grownBy_alloc z2 o none)) HAD.out)).2.1); have d2 := (bx3 (ext_blk X2.out HAD.out)).2.2; have da2 := (fun o => (bx3 (ext_blk (X2.out.trans (World.grownBy_alloc z2 o none)) HAD.out)).2.2); have s0 := (cells6S (ext_blk X2.out HAS.out)).1; have sa0 := (fun o => (cells6S (ext_blk (X2.out.trans (World.grownBy_alloc z2 o none)) HAS.out)).1); have s1 := (cells6S (ext_blk X2.out HAS.out)).2.1; have sa1 := (fun o => (cells6S (ext_blk (X2.out.trans (World.grownBy_alloc z2 o none)) HAS.out)).2.1); have s2 := (cells6S (ext_blk X2.out HAS.out)).2.2.1; have sa2 := (fun o => (cells6S (ext_blk (X2.out.trans (World.grownBy_alloc z2 o none)) HAS.out)).2.2.1); have s3 := (cells6S (ext_blk X2.out HAS.out)).2.2.2.1; have sa3 := (fun o => (cells6S (ext_blk (X2.out.trans (World.grownBy_alloc z2 o none)) HAS.out)).2.2.2.1); have s4 := (cells6S (ext_blk X2.out HAS.out)).2.2.2.2.1; have sa4 := (fun o => (cells6S (ext_blk (X2.out.trans (World.grownBy_alloc z2 o none)) HAS.out)).2.2.2.2.1); have s5 := (cells6S (ext_blk X2.out HAS.out)).2.2.2.2.2; have sa5 := (fun o => (cells6S (ext_blk (X2.out.trans (World.grownBy_alloc z2 o none)) HAS.out)).2.2.2.2.2))
      | (go_simp; go_at_call 8; refine (HTD.out _ ?_).mono ?_; (repeat (first | exact World.grownBy.refl _ _ | assumption | refine World.grownBy.trans ?_ (World.grownBy_alloc _ _ _) | refine World.grownBy.trans ?_ (ext_drewN _ _))); rintro e z1 ⟨g1, rfl, o1, X1, XV1⟩; (try (have Q1 := ext_blk XV1.out (heap_alloc_new W14 (.cells #[.int .i64 0, .int .i64 0, .slice none 0 0] 39 (0, 0))))); have d0 := (bx3 (ext_blk X1.out HAD.out)).1; have da0 := (fun o => (bx3 (ext_blk (X1.out.trans (World.grownBy_alloc z1 o none)) HAD.out)).1); have d1 := (bx3 (ext_blk X1.out HAD.out)).2.1; have da1 := (fun o => (bx3 (ext_blk (X1.out.trans (World.grownBy_alloc z1 o none)) HAD.out)).2.1); have d2 := (bx3 (ext_blk X1.out HAD.out)).2.2; have da2 := (fun o => (bx3 (ext_blk (X1.out.trans (World.grownBy_alloc z1 o none)) HAD.out)).2.2); have s0 := (cells6S (ext_blk X1.out HAS.out)).1; have sa0 := (fun o => (cells6S (ext_blk (X1.out.trans (World.grownBy_alloc z1 o none)) HAS.out)).1); have s1 := (cells6S (ext_blk X1.out HAS.out)).2.1; have sa1 := (fun o => (cells6S (ext_blk (X1.out.trans (World.grownBy_alloc z1 o none)) HAS.out)).2.1); have s2 := (cells6S (ext_blk X1.out HAS.out)).2.2.1; have sa2 := (fun o => (cells6S (ext_blk (X1.out.trans (World.grownBy_alloc z1 o none)) HAS.out)).2.2.1); have s3 := (cells6S (ext_blk X1.out HAS.out)).2.2.2.1; have sa3 := (fun o => (cells6S (ext_blk (X1.out.trans (World.grownBy_alloc z1 o none)) HAS.out)).2.2.2.1); have s4 := (cells6S (ext_blk X1.out HAS.out)).2.2.2.2.1; have sa4 := (fun o => (cells6S (ext_blk (X1.out.trans (World.grownBy_alloc z1 o none)) HAS.out)).2.2.2.2.1); have s5 := (cells6S (ext_blk X1.out HAS.out)).2.2.2.2.2; have sa5 := (fun o => (cells6S (ext_blk (X1.out.trans (World.grownBy_alloc z1 o none)) HAS.out)).2.2.2.2.2)))
    all_goals
      have HZ2 := X2.out.size
      have HZ1 := X1.out.size
      go_wp2_with fail
      go_meet
      refine ⟨_, _, sa, sc, oa, oc, rfl, rfl, rfl, ?_, ?_⟩
      case refine_2 =>
        first
          | (with_reducible refine row_set3 r3.out ?_ Q3; (first | omega | (simp; omega)))
          | (with_reducible refine row_new r3.out ?_; (first | omega | (simp; omega)))
      first
        | (with_reducible refine hideD (boxd_set X3.out o3.out ?_ Q3 ?_); (first | omega | (simp; omega)); (first | omega | (simp; omega)))
        | (with_reducible refine hideD (boxd_new X3.out o3.out ?_); (first | omega | (simp; omega)))
  obtain ⟨W15, bh, ha, hc, xa, xc, hwy, rfl, rfl, HBX, HR15⟩ := hcut
  have hwy' := hwy.symm
  clear hwy
  subst hwy'
  have HLF := hideD (HLE14.out.grow (ext_bel HBX.out.2.1))
  have HPF := hideD (HPE.out.kept HBX.out.2.1 (by cases (Value.slice pa q pc).ownBlock <;> simp))
  have HXO : Hid (RdO W15 (.slice xa q xc) ids) := by have := HR15.out; rw [HQQ.out] at this ⊢; exact this.rdO
  have HTO := hideD (OwT.v HBX.out.2.2.1)
  obtain ⟨t0, t1, t2⟩ := bx3 HBX.out.1
  obtain ⟨s0, s1, s2⟩ := bx3 HLF.out.s
  clear d0w da0w d1w da1w d2w da2w s0w sa0w s1w sa1w s2w sa2w s3w sa3w s4w sa4w s5w sa5w XRR HAD HAS HTD HTS HI HLE14 HBX
  go_wp2_with fail
  refine (eqD _ _ R _ ⟨_, rfl, HTO.out⟩ HLF.out.sW (by rw [← HMR.out]; exact HML.out)).mono ?_
  rintro e W16 ⟨rfl, b16⟩
  have HLz := hideD (HLF.out.grow b16)
  have HPz := hideD (HPF.out.kept (ext_below b16) (by cases (Value.slice pa q pc).ownBlock <;> simp))
  have HXz := hideD (HXO.out.ext (ext_below b16))
  clear t0 t1 t2 s0 s1 s2 b16 HTO HLF HPF HXO
  go_wp2_with fail
  refine (eqOpsV _ _ ids _ HXz.out (HLz.out.sO HSO.out) (by rw [← HQQ.out]; exact HQL.out)).mono ?_
  rintro e W16b ⟨rfl, b16⟩
  have HLG := hideD (HLz.out.grow b16)
  have HPG := hideD (HPz.out.kept (ext_below b16) (by cases (Value.slice pa q pc).ownBlock <;> simp))
  clear b16 HLz HPz HXz
  obtain ⟨g0, g1, g2⟩ := bx3 HLG.out.g
  go_wp2_with fail
  refine (heldDu W5.heap.size R.ttl R.wh.now _ m 1 _ HLG.out.gO HML.out (by omega) (by omega)).mono ?_
  rintro e W17 ⟨rfl, b17⟩
  have HPH := hideD (HPG.out.kept (ext_below b17) (by cases (Value.slice pa q pc).ownBlock <;> simp))
  go_wp2_with fail
  refine (heldOpsV W5.heap.size _ _ ids q (1 + 2 * (m : Int)) _ HPH.out HQL.out (by omega) (by have := HML.out; omega)).mono ?_
  rintro e W18 ⟨rfl, hw18⟩
  subst hw18
  go_wp2_with fail
  go_ret
  exact ⟨rfl, (HLG.out.grow b17).low⟩

end Go.Proofs.YtnklnhnjmikooaaGreat

namespace Go.Proofs.YtnklnhnjmikooaaGreat
open Go.ChangeShapes Go.WideShapes Go.ChangeAt Go.RowKit Go.Joins

section
variable {H : Type} {enc : TypeId × Value → H} {W : World} {fuel : Nat} {v : Value} {y : DataW H × List MemPlace}

set_option maxRecDepth 100000 in
theorem tims_of_trod (h : DataW.trod enc Tryz.prog W 0 (fun _ => true) true fuel 22 [v] = some y) : ∃ rs, VTims W v rs := by
  obtain ⟨n, C, hS, m, D, hD⟩ := sl_of_trod (k := 2) Tryz.underlying22 (by kernel_rfl) (by omega) h
  obtain ⟨rs, hl, hr⟩ := list_of (p := fun i (r : DTim) => C i 0 = .int .i64 r.id ∧ C i 1 = .int .i64 r.due) n (fun i hi => by
    have hf := hD i hi
    obtain ⟨xs, n', _, _, _, hxl, hx⟩ := DataW.trod_struct Tryz.underlying149 hf
    match xs, hxl with
    | [y0, y1], _ =>
      have h0 : DataW.trod enc Tryz.prog W 0 (fun _ => true) true n' 3 [C i 0] = some y0 := hx 0 _ rfl
      have h1 : DataW.trod enc Tryz.prog W 0 (fun _ => true) true n' 3 [C i 1] = some y1 := hx 1 _ rfl
      obtain ⟨q, e1, _, _⟩ := int_of_trod h0
      obtain ⟨b, e2, _, _⟩ := int_of_trod h1
      exact ⟨⟨q, b⟩, e1, e2⟩)
  exact ⟨rs, C, by rw [hl]; exact hS, hr⟩
end

theorem array2 {cs : Array Value} (h : cs.size = 2) : ∃ a b, cs = #[a, b] := by
  obtain ⟨l⟩ := cs
  match l, h with
  | [a, b], _ => exact ⟨a, b, rfl⟩

set_option maxRecDepth 100000 in
theorem open_Wheel {H : Type} {enc : TypeId × Value → H} {W : World} {r : Reach} {b0 : Nat} {v : Value} {d : DataW H} {p : List MemPlace}
    (hv : Value.okWide Tryz.prog W r b0 24 v) (h : DataW.Trod enc Tryz.prog W 0 (fun _ => true) true 24 v d p) : ∃ D, VWheel W v D := by
  obtain ⟨cs, rfl, hsz⟩ := okWide_struct Tryz.underlying24 hv
  have h6 : Tryz.prog.cellsOf 24 = 2 := by kernel_rfl
  obtain ⟨c0, c1, rfl⟩ := array2 (hsz.trans h6)
  obtain ⟨fuel, hf⟩ := h
  obtain ⟨xs, n, _, _, _, hxl, hx⟩ := DataW.trod_struct Tryz.underlying24 hf
  match xs, hxl with
  | [y0, y1], _ =>
    have h0 : DataW.trod enc Tryz.prog W 0 (fun _ => true) true n 3 [c0] = some y0 := hx 0 _ rfl
    have h1 : DataW.trod enc Tryz.prog W 0 (fun _ => true) true n 22 [c1] = some y1 := hx 1 _ rfl
    obtain ⟨q0, rfl, a1, a2⟩ := int_of_trod h0
    obtain ⟨ts, v1⟩ := tims_of_trod h1
    exact ⟨⟨q0, ts⟩, c1, rfl, v1⟩

end Go.Proofs.YtnklnhnjmikooaaGreat

namespace Go.Proofs.YtnklnhnjmikooaaGreat
open Go.ChangeShapes Go.WideShapes Go.ChangeAt Go.RowKit Go.Joins

theorem array3 {cs : Array Value} (h : cs.size = 3) : ∃ a b c, cs = #[a, b, c] := by
  obtain ⟨l⟩ := cs
  match l, h with
  | [a, b, c], _ => exact ⟨a, b, c, rfl⟩

set_option maxRecDepth 100000 in
theorem open_Duty {H : Type} {enc : TypeId × Value → H} {W : World} {r : Reach} {b0 : Nat} {v : Value} {d : DataW H} {p : List MemPlace}
    (hv : Value.okWide Tryz.prog W r b0 26 v) (h : DataW.Trod enc Tryz.prog W 0 (fun _ => true) true 26 v d p) : ∃ D, VDuty W v D := by
  obtain ⟨cs, rfl, hsz⟩ := okWide_struct Tryz.underlying26 hv
  have h6 : Tryz.prog.cellsOf 26 = 3 := by kernel_rfl
  obtain ⟨c0, c1, c2, rfl⟩ := array3 (hsz.trans h6)
  obtain ⟨fuel, hf⟩ := h
  obtain ⟨xs, n, _, _, _, hxl, hx⟩ := DataW.trod_struct Tryz.underlying26 hf
  match xs, hxl with
  | [y0, y1], _ =>
    have h0 : DataW.trod enc Tryz.prog W 0 (fun _ => true) true n 3 [c0] = some y0 := hx 0 _ rfl
    have h1 : DataW.trod enc Tryz.prog W 0 (fun _ => true) true n 24 [c1, c2] = some y1 := hx 1 _ rfl
    obtain ⟨zs, m, _, _, _, hzl, hz⟩ := DataW.trod_struct Tryz.underlying24 h1
    match zs, hzl with
    | [z0, z1], _ =>
      have g0 : DataW.trod enc Tryz.prog W 0 (fun _ => true) true m 3 [c1] = some z0 := hz 0 _ rfl
      have g1 : DataW.trod enc Tryz.prog W 0 (fun _ => true) true m 22 [c2] = some z1 := hz 1 _ rfl
      obtain ⟨t, rfl, _, _⟩ := int_of_trod h0
      obtain ⟨q0, rfl, _, _⟩ := int_of_trod g0
      obtain ⟨ts, v1⟩ := tims_of_trod g1
      exact ⟨⟨t, ⟨q0, ts⟩⟩, c2, rfl, v1⟩

end Go.Proofs.YtnklnhnjmikooaaGreat

namespace Go.Proofs.YtnklnhnjmikooaaGreat
open Go.ChangeShapes Go.WideShapes Go.ChangeAt Go.RowKit

theorem own : ownKnob Tryz.prog.godebug = none := by kernel_rfl
theorem laidOut : laidOutB Tryz.prog = true := by kernel_rfl

theorem int_bd {q : Int} (h : (Lit.int .i64 q).wf = true) : -9223372036854775808 ≤ q ∧ q ≤ 9223372036854775807 := by
  simp [Lit.wf, IntKind.min, IntKind.max, IntKind.signed, IntKind.bits] at h
  omega

set_option maxRecDepth 100000 in
theorem lifted (os : Os) (started : os.Started) (H : Type) (enc : TypeId × Value → H) :
    ReturnsInHanded {} Tryz.checked os 4 .any (Rows.fnExactDutyTickSpec.pre6 enc Tryz.prog Tryz.f4 Rows.fnExactDutyTickRow.domain false) (Rows.fnExactDutyTickSpec.post enc Tryz.prog Tryz.f4 false true false false) := by
  refine returnsInHanded_of_change (C := Tryz.checked) own started (by kernel_rfl) Tryz.func4
    (ChangeSpec.witness6 (enc := enc) (C := Tryz.checked) false ⟨#[], #[.agg #[.int .i64 0, .int .i64 0, .slice none 0 0], .agg #[.int .i64 0, .slice none 0 0, .slice none 0 0, .int .i64 0, .slice none 0 0, .slice none 0 0], .int .i64 0], []⟩ 8 (by kernel_rfl) (by kernel_rfl) (by kernel_rfl) (by kernel_rfl)) ?_
  intro W base args ds gs before hval0 hW hcnd _
  have hval : ∀ (j : Nat) t v, Tryz.f4.params[j]? = some t → args[j]? = some v → Value.okWide Tryz.prog W .any base t v := hval0
  have hW' := hW
  obtain ⟨p, q, hA0, hV, rfl, hfz, hnd⟩ := hW
  have hA : DataW.TrodAll enc Tryz.prog W 0 (fun _ => true) true Tryz.f4.params.toList args.toList ds p := hA0
  rw [Tryz.params4] at hA hval
  obtain ⟨v0, vs0, d0, ds0, p0, q0, hargs, rfl, rfl, h0, r0⟩ := trodAll_cons hA
  obtain ⟨v1, vs1, d1, ds1, p1, q1, rfl, rfl, rfl, h1, r1⟩ := trodAll_cons r0
  obtain ⟨v2, vs2, d2, ds2, p2, q2, rfl, rfl, rfl, h2, r2⟩ := trodAll_cons r1
  obtain ⟨rfl, rfl, rfl⟩ := trodAll_nil r2
  obtain rfl : args = #[v0, v1, v2] := by cases args; simp_all
  obtain ⟨rfl, rfl⟩ := trodVars_none hV
  have k0 := h0
  have lt0 : ∀ x ∈ p0, x.block < W.heap.size := by obtain ⟨m, hm⟩ := k0; exact DataW.trod_lt m _ _ _ hm
  obtain ⟨D0, w0⟩ := open_Duty (hval 0 26 v0 rfl rfl) h0
  have k1 := h1
  have lt1 : ∀ x ∈ p1, x.block < W.heap.size := by obtain ⟨m, hm⟩ := k1; exact DataW.trod_lt m _ _ _ hm
  obtain ⟨D1, w1⟩ := open_State (hval 1 32 v1 rfl rfl) h1
  obtain ⟨a2, rfl, rfl, rfl, w2⟩ := open_int Tryz.underlying3 (hval 2 3 v2 rfl rfl) h2
  clear hA0 hval0
  refine (law_DutyTick v0 D0 v1 D1 a2 W w0 w1.1 w1.2.1 w1.2.2 (int_bd w2).1 (int_bd w2).2).mono fun e W' ⟨he, bel⟩ => ?_
  subst he
  exact ⟨_, rfl, _, _, _, [], _, [], hW', trodAll_mk1 (shut_bool Tryz.underlying4 _), (trodAll_cons_mk (Below.trod laidOut (by kernel_rfl) (of_decide_eq_true (by kernel_rfl)) k0 bel lt0) (trodAll_cons_mk (Below.trod laidOut (by kernel_rfl) (of_decide_eq_true (by kernel_rfl)) k1 bel lt1) (trodAll_cons_mk (shut_int Tryz.underlying3 w2) trodAll_mk0))), rfl, bel.frame _, fun h => by cases h⟩

theorem over : Rows.fnExactDutyTickRow.holds Tryz.pinned (OpenSpec.ofChange Rows.fnExactDutyTickSpec) :=
  OpenClaim.holds_of_wide 4 Tryz.f4 rfl rfl rfl rfl rfl rfl rfl ⟨rfl, rfl, rfl, rfl, rfl⟩ rfl rfl rfl rfl rfl (by kernel_rfl) Tryz.func4 (by kernel_rfl)
    (of_decide_eq_true (by kernel_rfl)) (by unfold Func.isWrapper; first | (rw [if_pos (by decide +kernel)]; kernel_rfl) | (rw [if_neg (by decide +kernel)]; exact ⟨rfl, rfl⟩))
    (fun os started H enc _ => lifted os started H enc)

theorem proved : Rows.FnExactDutyTickSaid := over
#print axioms proved
end Go.Proofs.YtnklnhnjmikooaaGreat

