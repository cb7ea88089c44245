/- Lists of items: sized, copied, held against one another. -/
import Derived.Test.YtdcbajejgphlgaaTo0
import Derived.Test.YtdcbajejgphlgaaSum0
import Derived.Test.YtdcbajejgphlgaaIt1
import Derived.Test.YtdcbajejgphlgaaQB
import Derived.Deep.RegionHeld3
namespace Go.Proofs.Ytdcbajejgphlgaa
open Go.RowKit

/-- The slice v reads as the items rs. -/
def VItems (w : World) (v : Value) (rs : List DItem) : Prop := ∃ C, SL w 7 v rs.length C ∧ ∀ i d, rs[i]? = some d → C i 0 = .int .i64 d.term ∧ C i 1 = .int .i64 d.cmd.client ∧ C i 2 = .int .i64 d.cmd.req ∧ C i 3 = .int .i64 d.cmd.op.kind ∧ RV w (C i 4) d.cmd.op.key ∧ RV w (C i 5) d.cmd.op.val ∧ C i 6 = .int .i64 d.cmd.op.n
theorem VItems.ext {w w' : World} {v : Value} {rs : List DItem} (h : VItems w v rs) (e : Ext w w') : VItems w' v rs := by
  obtain ⟨C, h1, h2⟩ := h
  refine ⟨C, h1.ext e, fun i d hd => ?_⟩
  obtain ⟨e0, e1, e2, e3, e4, e5, e6⟩ := h2 i d hd
  exact ⟨e0, e1, e2, e3, e4.ext e, e5.ext e, e6⟩
def zI (s : DItem) : Nat := s.cmd.op.key.length + s.cmd.op.val.length
def sI (rs : List DItem) : Nat := (rs.map zI).sum

set_option maxHeartbeats 2000000 in
theorem szS_I (v : Value) (ss : List DItem) (l : Int) (w : World) (h : VItems w v ss) (hl0 : 0 ≤ l) (hl : l ≤ 1048576) :
    Calls Try.prog 13 #[v, .int .i64 l] w (SzPost l (ss.length + sI ss) w) := by
  obtain ⟨C, ⟨a, cap, rfl, h1, h2, h3⟩, hC⟩ := h
  have HC : Hid (∀ i d, ss[i]? = some d → C i 0 = .int .i64 d.term ∧ C i 1 = .int .i64 d.cmd.client ∧ C i 2 = .int .i64 d.cmd.req ∧ C i 3 = .int .i64 d.cmd.op.kind ∧ RV w (C i 4) d.cmd.op.key ∧ RV w (C i 5) d.cmd.op.val ∧ C i 6 = .int .i64 d.cmd.op.n) := hC
  clear hC
  unfold maxLen at h2
  obtain ⟨n, hnn⟩ : ∃ n, n = ss.length := ⟨_, rfl⟩
  obtain ⟨q, hqq⟩ : ∃ q, q = sI ss := ⟨_, rfl⟩
  rw [← hnn] at h1 h3 ⊢
  rw [← hqq]
  have HN : Hid (n = ss.length) := hnn
  have HQ : Hid (q = sI ss) := hqq
  clear hnn hqq
  have H3 : Hid (0 < n → ∃ b o, a = some ⟨b, o, none⟩ ∧ b < w.heap.size ∧ ∀ i, i < n → ∀ j, j < 7 → w.cell? ⟨b, o + i * 7 + j, none⟩ = some (C i j)) := h3
  clear h3
  by_cases hn : l - n < 0
  · go_enter Try.func13, Try.ntmps13
    go_wp2
    go_ret
    exact ⟨-1, rfl, .inl ⟨by omega, rfl⟩, Below.refl _ _⟩
  go_enter Try.func13, Try.ntmps13
  go_wp2
  go_loopw [1, 5] (fun lv i wr => ∃ k : Nat, k ≤ n ∧ i = .int .i64 k ∧ ∃ L : Int, lv = .int .i64 L ∧ 0 ≤ L ∧ L ≤ 1048576 ∧ Hid (L = l - n - sI (ss.take k)) ∧ Below w.heap.size w wr) (fun _ i _ => n - (intOf i).toNat)
  case atStart => exact ⟨0, Nat.zero_le _, rfl, l - n, rfl, by omega, by omega, by show _ = _; simp [sI], Below.refl _ _⟩
  case round =>
    obtain ⟨k, hk, rfl, L, rfl, hL0, hL1, hL, hb⟩ := hrel
    by_cases hlt : k < n
    · obtain ⟨b, o, rfl, hbl, hc⟩ := H3.out (by omega)
      obtain ⟨s, hs⟩ : ∃ s, ss[k]? = some s := ⟨_, List.getElem?_eq_getElem (by have := HN.out; omega)⟩
      obtain ⟨e0, e1, e2, e3, e4, e5, e6⟩ := HC.out k s hs
      have HZ : Hid (sI (ss.take (k + 1)) = sI (ss.take k) + zI s ∧ sI (ss.take (k + 1)) ≤ q) := ⟨sum_next zI ss k s hs, by rw [HQ.out]; exact sum_take zI ss (k + 1)⟩
      have X := ext_below hb
      have c0 := World.grownBy.cell X (hc k hlt 0 (by omega)) (by simp)
      rw [Nat.add_zero, e0] at c0
      have c1 := World.grownBy.cell X (hc k hlt 1 (by omega)) (by simp)
      rw [e1] at c1
      have c2 := World.grownBy.cell X (hc k hlt 2 (by omega)) (by simp)
      rw [e2] at c2
      have c3 := World.grownBy.cell X (hc k hlt 3 (by omega)) (by simp)
      rw [e3] at c3
      have c4 := World.grownBy.cell X (hc k hlt 4 (by omega)) (by simp)
      have cr4 := e4.ext X
      obtain ⟨ca4, cp4, cx4, _, _, _⟩ := e4
      rw [cx4] at cr4 c4
      have c5 := World.grownBy.cell X (hc k hlt 5 (by omega)) (by simp)
      have cr5 := e5.ext X
      obtain ⟨ca5, cp5, cx5, _, _, _⟩ := e5
      rw [cx5] at cr5 c5
      have c6 := World.grownBy.cell X (hc k hlt 6 (by omega)) (by simp)
      rw [e6] at c6
      have hlt' : (k : Int) < (n : Int) := by omega
      clear hc
      go_wp2_with fail
      refine (szI _ s L wr ⟨_, _, rfl, cr4, cr5⟩ hL0 hL1).mono ?_
      rintro e w2 ⟨r, rfl, hr, b2⟩
      have hb2 := hb.trans (b2.mono hb.size)
      have HZS : Hid (zI s = s.cmd.op.key.length + s.cmd.op.val.length) := rfl
      rcases hr with ⟨g1, rfl⟩ | ⟨g1, g2⟩
      · go_wp2
        go_ret
        refine ⟨-1, rfl, .inl ⟨?_, rfl⟩, hb2⟩
        have := HZ.out
        have := HZS.out
        have := hL.out
        omega
      · have hr0 : 0 ≤ r := by omega
        have hr1 : r ≤ 1048576 := by omega
        have HR : Hid (r = l - n - sI (ss.take (k + 1))) := by
          have := HZ.out
          have := HZS.out
          have := hL.out
          show r = _
          omega
        clear g1 g2
        go_wp2
        go_roundw
        case rel => exact ⟨k + 1, by omega, by go_num, r, rfl, hr0, hr1, HR, hb2⟩
        case measure => simp [intOf]; omega
    · have hkn : k = n := by omega
      subst hkn
      have HR : Hid (L = l - (k + q : Nat)) := by
        have := hL.out
        rw [List.take_of_length_le (by have := HN.out; omega)] at this
        have := HQ.out
        show L = _
        omega
      go_wp2
      go_ret
      exact ⟨L, rfl, .inr ⟨by have := HR.out; omega, HR.out⟩, hb⟩

theorem info_I : (Try.prog.info? 74).map (fun i => (i.zero, i.size, i.bytes)) = some (some (.agg #[.int .i64 0, .int .i64 0, .int .i64 0, .int .i64 0, .slice none 0 0, .slice none 0 0, .int .i64 0]), 7, 88) := by kernel_rfl

set_option maxHeartbeats 4000000 in
theorem toS_I (v : Value) (ss : List DItem) (w : World) (h : VItems w v ss) (hn : ss.length ≤ 1048576) (hlen : ∀ (i : Nat) (s : DItem), ss[i]? = some s → s.cmd.op.key.length ≤ 1048576 ∧ s.cmd.op.val.length ≤ 1048576) :
    Calls Try.prog 19 #[v] w fun e w' => ∃ F, e = .returned (.slice (some ⟨w.heap.size, 0, none⟩) ss.length ss.length) ∧ Blk w' w.heap.size 74 7 ss.length ss.length F ∧ (∀ i s, ss[i]? = some s → F i 0 = .int .i64 s.term ∧ F i 1 = .int .i64 s.cmd.client ∧ F i 2 = .int .i64 s.cmd.req ∧ F i 3 = .int .i64 s.cmd.op.kind ∧ Ow w' (w.heap.size + 1) (F i 4) s.cmd.op.key ∧ Ow w' (w.heap.size + 1) (F i 5) s.cmd.op.val ∧ F i 6 = .int .i64 s.cmd.op.n) ∧ Below w.heap.size w w' := by
  obtain ⟨C, ⟨a, cap, rfl, h1, h2, h3⟩, hC⟩ := h
  have HC : Hid (∀ i d, ss[i]? = some d → C i 0 = .int .i64 d.term ∧ C i 1 = .int .i64 d.cmd.client ∧ C i 2 = .int .i64 d.cmd.req ∧ C i 3 = .int .i64 d.cmd.op.kind ∧ RV w (C i 4) d.cmd.op.key ∧ RV w (C i 5) d.cmd.op.val ∧ C i 6 = .int .i64 d.cmd.op.n) := hC
  clear hC
  obtain ⟨n, hnn⟩ : ∃ n, n = ss.length := ⟨_, rfl⟩
  rw [← hnn] at h1 h3 hn ⊢
  have HN : Hid (n = ss.length) := hnn
  clear hnn
  have H3 : Hid (0 < n → ∃ b o, a = some ⟨b, o, none⟩ ∧ b < w.heap.size ∧ ∀ i, i < n → ∀ j, j < 7 → w.cell? ⟨b, o + i * 7 + j, none⟩ = some (C i j)) := h3
  clear h3
  have HLN : Hid (∀ (i : Nat) (s : DItem), ss[i]? = some s → s.cmd.op.key.length ≤ 1048576 ∧ s.cmd.op.val.length ≤ 1048576) := hlen
  clear hlen
  obtain ⟨i0, hi, hz0, hz1, hz2⟩ := info_parts info_I
  have hml : n ≤ maxLen := by unfold maxLen; omega
  have hml2 : (n : Int) ≤ 1048576 := by omega
  go_enter Try.func19, Try.ntmps19
  go_wp2_with (at_make; refine wpList_make_full _ rfl _ _ 28 rfl w.heap.size 74 i0 (.agg #[.int .i64 0, .int .i64 0, .int .i64 0, .int .i64 0, .slice none 0 0, .slice none 0 0, .int .i64 0]) 7 Try.underlying28 hi hz0 hz1 _ _ _ _ n rfl rfl rfl rfl ?b1 ?b2 ?b3 ?_)
  case b1 => rw [hz2]; omega
  case b2 => exact hml
  case b3 => exact Nat.le_refl _
  intro w1 hown hgr
  have hb1 : Below w.heap.size w w1 := (Below.refl _ _).grown hgr (Nat.le_refl _) (fun k hk => by cases hk)
  have hbk := blk_made (F := fun _ _ => .bool true) hown
  clear hown hgr
  go_wp2
  go_loopw [4] (fun i wr => ∃ k : Nat, k ≤ n ∧ i = .int .i64 k ∧ Below w.heap.size w wr ∧ ∃ F, Blk wr w.heap.size 74 7 n k F ∧ Hid (∀ i s, i < k → ss[i]? = some s → F i 0 = .int .i64 s.term ∧ F i 1 = .int .i64 s.cmd.client ∧ F i 2 = .int .i64 s.cmd.req ∧ F i 3 = .int .i64 s.cmd.op.kind ∧ Ow wr (w.heap.size + 1) (F i 4) s.cmd.op.key ∧ Ow wr (w.heap.size + 1) (F i 5) s.cmd.op.val ∧ F i 6 = .int .i64 s.cmd.op.n)) (fun i _ => n - (intOf i).toNat)
  case atStart => exact ⟨0, Nat.zero_le _, rfl, hb1, _, hbk, fun i s hi => absurd hi (by omega)⟩
  case round =>
    obtain ⟨k, hk, rfl, hb, F, hF, hall⟩ := hrel
    clear hbk hb1
    by_cases hlt : k < n
    · obtain ⟨b, o, rfl, hbl, hc⟩ := H3.out (by omega)
      obtain ⟨s, hs⟩ : ∃ s, ss[k]? = some s := ⟨_, List.getElem?_eq_getElem (by have := HN.out; omega)⟩
      obtain ⟨e0, e1, e2, e3, e4, e5, e6⟩ := HC.out k s hs
      have X := ext_below hb
      have c0 := World.grownBy.cell X (hc k hlt 0 (by omega)) (by simp)
      rw [Nat.add_zero, e0] at c0
      have c1 := World.grownBy.cell X (hc k hlt 1 (by omega)) (by simp)
      rw [e1] at c1
      have c2 := World.grownBy.cell X (hc k hlt 2 (by omega)) (by simp)
      rw [e2] at c2
      have c3 := World.grownBy.cell X (hc k hlt 3 (by omega)) (by simp)
      rw [e3] at c3
      have c4 := World.grownBy.cell X (hc k hlt 4 (by omega)) (by simp)
      have cr4 := e4.ext X
      obtain ⟨ca4, cp4, cx4, _, _, _⟩ := e4
      rw [cx4] at cr4 c4
      have c5 := World.grownBy.cell X (hc k hlt 5 (by omega)) (by simp)
      have cr5 := e5.ext X
      obtain ⟨ca5, cp5, cx5, _, _, _⟩ := e5
      rw [cx5] at cr5 c5
      have c6 := World.grownBy.cell X (hc k hlt 6 (by omega)) (by simp)
      rw [e6] at c6
      have hlt' : (k : Int) < (n : Int) := by omega
      clear hc
      go_wp2_with fail
      refine (toI _ s wr ⟨_, _, rfl, cr4, cr5⟩ ⟨rv_rng cr4, rv_rng cr5⟩ (HLN.out k s hs).1 (HLN.out k s hs).2).mono ?_
      rintro e w2 ⟨v', rfl, ⟨k', u', rfl, ok, ov, _⟩, b2⟩
      obtain ⟨a5, p5, rfl, _, _, _⟩ := Ow.rv ok (rv_rng cr4)
      obtain ⟨a6, p6, rfl, _, _, _⟩ := Ow.rv ov (rv_rng cr5)
      have hF2 := blk_kept hF (b2.block _ (blk_lt hF))
      have hgl := blk_lt hF
      have hb2 := hb.trans (b2.mono hb.size)
      obtain ⟨⟨u0, d0⟩, f0⟩ := blk_cell hF2 (k * 7) (by omega)
      obtain ⟨⟨u1, d1⟩, f1⟩ := blk_cell hF2 (k * 7 + 1) (by omega)
      obtain ⟨⟨u2, d2⟩, f2⟩ := blk_cell hF2 (k * 7 + 2) (by omega)
      obtain ⟨⟨u3, d3⟩, f3⟩ := blk_cell hF2 (k * 7 + 3) (by omega)
      obtain ⟨⟨u4, d4⟩, f4⟩ := blk_cell hF2 (k * 7 + 4) (by omega)
      obtain ⟨⟨u5, d5⟩, f5⟩ := blk_cell hF2 (k * 7 + 5) (by omega)
      obtain ⟨⟨u6, d6⟩, f6⟩ := blk_cell hF2 (k * 7 + 6) (by omega)
      have G := blk_next (blk_set (blk_set (blk_set (blk_set (blk_set (blk_set (blk_set hF2 (k * 7) (by omega) (.int .i64 s.term)) (k * 7 + 1) (by omega) (.int .i64 s.cmd.client)) (k * 7 + 2) (by omega) (.int .i64 s.cmd.req)) (k * 7 + 3) (by omega) (.int .i64 s.cmd.op.kind)) (k * 7 + 4) (by omega) (.slice a5 s.cmd.op.key.length p5)) (k * 7 + 5) (by omega) (.slice a6 s.cmd.op.val.length p6)) (k * 7 + 6) (by omega) (.int .i64 s.cmd.op.n)) (fun j => if j = 0 then .int .i64 s.term else if j = 1 then .int .i64 s.cmd.client else if j = 2 then .int .i64 s.cmd.req else if j = 3 then .int .i64 s.cmd.op.kind else if j = 4 then .slice a5 s.cmd.op.key.length p5 else if j = 5 then .slice a6 s.cmd.op.val.length p6 else .int .i64 s.cmd.op.n) (fun j hj => by
        have hj : j = 0 ∨ j = 1 ∨ j = 2 ∨ j = 3 ∨ j = 4 ∨ j = 5 ∨ j = 6 := by omega
        rcases hj with rfl | rfl | rfl | rfl | rfl | rfl | rfl <;> simp [*, go_sem])
      have HG : Hid (Blk (((((((w2.setCell ⟨w.heap.size, k * 7, none⟩ (.int .i64 s.term)).setCell ⟨w.heap.size, k * 7 + 1, none⟩ (.int .i64 s.cmd.client)).setCell ⟨w.heap.size, k * 7 + 2, none⟩ (.int .i64 s.cmd.req)).setCell ⟨w.heap.size, k * 7 + 3, none⟩ (.int .i64 s.cmd.op.kind)).setCell ⟨w.heap.size, k * 7 + 4, none⟩ (.slice a5 s.cmd.op.key.length p5)).setCell ⟨w.heap.size, k * 7 + 5, none⟩ (.slice a6 s.cmd.op.val.length p6)).setCell ⟨w.heap.size, k * 7 + 6, none⟩ (.int .i64 s.cmd.op.n)) w.heap.size 74 7 n (k + 1) (fun i j => if i = k then (if j = 0 then .int .i64 s.term else if j = 1 then .int .i64 s.cmd.client else if j = 2 then .int .i64 s.cmd.req else if j = 3 then .int .i64 s.cmd.op.kind else if j = 4 then .slice a5 s.cmd.op.key.length p5 else if j = 5 then .slice a6 s.cmd.op.val.length p6 else .int .i64 s.cmd.op.n) else F i j)) := G
      have HBF : Hid (Below w.heap.size w (((((((w2.setCell ⟨w.heap.size, k * 7, none⟩ (.int .i64 s.term)).setCell ⟨w.heap.size, k * 7 + 1, none⟩ (.int .i64 s.cmd.client)).setCell ⟨w.heap.size, k * 7 + 2, none⟩ (.int .i64 s.cmd.req)).setCell ⟨w.heap.size, k * 7 + 3, none⟩ (.int .i64 s.cmd.op.kind)).setCell ⟨w.heap.size, k * 7 + 4, none⟩ (.slice a5 s.cmd.op.key.length p5)).setCell ⟨w.heap.size, k * 7 + 5, none⟩ (.slice a6 s.cmd.op.val.length p6)).setCell ⟨w.heap.size, k * 7 + 6, none⟩ (.int .i64 s.cmd.op.n))) := (((((((hb2.setCell (Nat.le_refl _) _).setCell (Nat.le_refl _) _).setCell (Nat.le_refl _) _).setCell (Nat.le_refl _) _).setCell (Nat.le_refl _) _).setCell (Nat.le_refl _) _).setCell (Nat.le_refl _) _)
      have HA : Hid (∀ i r, i < k + 1 → ss[i]? = some r → (fun i j => if i = k then (if j = 0 then .int .i64 s.term else if j = 1 then .int .i64 s.cmd.client else if j = 2 then .int .i64 s.cmd.req else if j = 3 then .int .i64 s.cmd.op.kind else if j = 4 then .slice a5 s.cmd.op.key.length p5 else if j = 5 then .slice a6 s.cmd.op.val.length p6 else .int .i64 s.cmd.op.n) else F i j) i 0 = .int .i64 r.term ∧ (fun i j => if i = k then (if j = 0 then .int .i64 s.term else if j = 1 then .int .i64 s.cmd.client else if j = 2 then .int .i64 s.cmd.req else if j = 3 then .int .i64 s.cmd.op.kind else if j = 4 then .slice a5 s.cmd.op.key.length p5 else if j = 5 then .slice a6 s.cmd.op.val.length p6 else .int .i64 s.cmd.op.n) else F i j) i 1 = .int .i64 r.cmd.client ∧ (fun i j => if i = k then (if j = 0 then .int .i64 s.term else if j = 1 then .int .i64 s.cmd.client else if j = 2 then .int .i64 s.cmd.req else if j = 3 then .int .i64 s.cmd.op.kind else if j = 4 then .slice a5 s.cmd.op.key.length p5 else if j = 5 then .slice a6 s.cmd.op.val.length p6 else .int .i64 s.cmd.op.n) else F i j) i 2 = .int .i64 r.cmd.req ∧ (fun i j => if i = k then (if j = 0 then .int .i64 s.term else if j = 1 then .int .i64 s.cmd.client else if j = 2 then .int .i64 s.cmd.req else if j = 3 then .int .i64 s.cmd.op.kind else if j = 4 then .slice a5 s.cmd.op.key.length p5 else if j = 5 then .slice a6 s.cmd.op.val.length p6 else .int .i64 s.cmd.op.n) else F i j) i 3 = .int .i64 r.cmd.op.kind ∧ Ow (((((((w2.setCell ⟨w.heap.size, k * 7, none⟩ (.int .i64 s.term)).setCell ⟨w.heap.size, k * 7 + 1, none⟩ (.int .i64 s.cmd.client)).setCell ⟨w.heap.size, k * 7 + 2, none⟩ (.int .i64 s.cmd.req)).setCell ⟨w.heap.size, k * 7 + 3, none⟩ (.int .i64 s.cmd.op.kind)).setCell ⟨w.heap.size, k * 7 + 4, none⟩ (.slice a5 s.cmd.op.key.length p5)).setCell ⟨w.heap.size, k * 7 + 5, none⟩ (.slice a6 s.cmd.op.val.length p6)).setCell ⟨w.heap.size, k * 7 + 6, none⟩ (.int .i64 s.cmd.op.n)) (w.heap.size + 1) ((fun i j => if i = k then (if j = 0 then .int .i64 s.term else if j = 1 then .int .i64 s.cmd.client else if j = 2 then .int .i64 s.cmd.req else if j = 3 then .int .i64 s.cmd.op.kind else if j = 4 then .slice a5 s.cmd.op.key.length p5 else if j = 5 then .slice a6 s.cmd.op.val.length p6 else .int .i64 s.cmd.op.n) else F i j) i 4) r.cmd.op.key ∧ Ow (((((((w2.setCell ⟨w.heap.size, k * 7, none⟩ (.int .i64 s.term)).setCell ⟨w.heap.size, k * 7 + 1, none⟩ (.int .i64 s.cmd.client)).setCell ⟨w.heap.size, k * 7 + 2, none⟩ (.int .i64 s.cmd.req)).setCell ⟨w.heap.size, k * 7 + 3, none⟩ (.int .i64 s.cmd.op.kind)).setCell ⟨w.heap.size, k * 7 + 4, none⟩ (.slice a5 s.cmd.op.key.length p5)).setCell ⟨w.heap.size, k * 7 + 5, none⟩ (.slice a6 s.cmd.op.val.length p6)).setCell ⟨w.heap.size, k * 7 + 6, none⟩ (.int .i64 s.cmd.op.n)) (w.heap.size + 1) ((fun i j => if i = k then (if j = 0 then .int .i64 s.term else if j = 1 then .int .i64 s.cmd.client else if j = 2 then .int .i64 s.cmd.req else if j = 3 then .int .i64 s.cmd.op.kind else if j = 4 then .slice a5 s.cmd.op.key.length p5 else if j = 5 then .slice a6 s.cmd.op.val.length p6 else .int .i64 s.cmd.op.n) else F i j) i 5) r.cmd.op.val ∧ (fun i j => if i = k then (if j = 0 then .int .i64 s.term else if j = 1 then .int .i64 s.cmd.client else if j = 2 then .int .i64 s.cmd.req else if j = 3 then .int .i64 s.cmd.op.kind else if j = 4 then .slice a5 s.cmd.op.key.length p5 else if j = 5 then .slice a6 s.cmd.op.val.length p6 else .int .i64 s.cmd.op.n) else F i j) i 6 = .int .i64 r.cmd.op.n) := fun i r hi hr => by
        by_cases e : i = k
        · subst e
          rw [hs] at hr
          cases hr
          simp only [if_pos]
          exact ⟨(by simp), (by simp), (by simp), (by simp), (by simpa using (ow_row (ow_row (ow_row (ow_row (ow_row (ow_row (ow_row (ow_base ok (by omega)) (set_grown _ _ _ _) (by omega)) (set_grown _ _ _ _) (by omega)) (set_grown _ _ _ _) (by omega)) (set_grown _ _ _ _) (by omega)) (set_grown _ _ _ _) (by omega)) (set_grown _ _ _ _) (by omega)) (set_grown _ _ _ _) (by omega))), (by simpa using (ow_row (ow_row (ow_row (ow_row (ow_row (ow_row (ow_row (ow_base ov (by omega)) (set_grown _ _ _ _) (by omega)) (set_grown _ _ _ _) (by omega)) (set_grown _ _ _ _) (by omega)) (set_grown _ _ _ _) (by omega)) (set_grown _ _ _ _) (by omega)) (set_grown _ _ _ _) (by omega)) (set_grown _ _ _ _) (by omega))), (by simp)⟩
        · simp only [if_neg e]
          exact ⟨(hall.out i r (by omega) hr).1, (hall.out i r (by omega) hr).2.1, (hall.out i r (by omega) hr).2.2.1, (hall.out i r (by omega) hr).2.2.2.1, (ow_row (ow_row (ow_row (ow_row (ow_row (ow_row (ow_row ((hall.out i r (by omega) hr).2.2.2.2.1.ext (ext_below b2)) (set_grown _ _ _ _) (by omega)) (set_grown _ _ _ _) (by omega)) (set_grown _ _ _ _) (by omega)) (set_grown _ _ _ _) (by omega)) (set_grown _ _ _ _) (by omega)) (set_grown _ _ _ _) (by omega)) (set_grown _ _ _ _) (by omega)), (ow_row (ow_row (ow_row (ow_row (ow_row (ow_row (ow_row ((hall.out i r (by omega) hr).2.2.2.2.2.1.ext (ext_below b2)) (set_grown _ _ _ _) (by omega)) (set_grown _ _ _ _) (by omega)) (set_grown _ _ _ _) (by omega)) (set_grown _ _ _ _) (by omega)) (set_grown _ _ _ _) (by omega)) (set_grown _ _ _ _) (by omega)) (set_grown _ _ _ _) (by omega)), (hall.out i r (by omega) hr).2.2.2.2.2.2⟩
      clear hb hF hall G hb2 hF2 b2
      go_wp2
      go_roundw
      case rel => exact ⟨k + 1, by omega, by go_num, HBF.out, _, HG.out, HA⟩
      case measure => simp [intOf]; omega
    · have hkn : k = n := by omega
      subst hkn
      go_wp2
      go_ret
      exact ⟨F, rfl, hF, fun i s hs => hall.out i s (by have := (List.getElem?_eq_some_iff.1 hs).1; have := HN.out; omega) hs, hb⟩

set_option maxHeartbeats 4000000 in
theorem eqS_I (v u : Value) (ss : List DItem) (w : World) (h : VItems w v ss) (k : VItems w u ss) (hn : ss.length ≤ 1048576) (hlen : ∀ (i : Nat) (s : DItem), ss[i]? = some s → s.cmd.op.key.length ≤ 2097152 ∧ s.cmd.op.val.length ≤ 2097152) :
    Calls Try.prog 26 #[v, u] w fun e w' => e = .returned (.bool true) ∧ Below w.heap.size w w' := by
  obtain ⟨C, ⟨a, cap, rfl, h1, h2, h3⟩, hC⟩ := h
  obtain ⟨D, ⟨a', cap', rfl, h1', h2', h3'⟩, hD⟩ := k
  have HC : Hid (∀ i d, ss[i]? = some d → C i 0 = .int .i64 d.term ∧ C i 1 = .int .i64 d.cmd.client ∧ C i 2 = .int .i64 d.cmd.req ∧ C i 3 = .int .i64 d.cmd.op.kind ∧ RV w (C i 4) d.cmd.op.key ∧ RV w (C i 5) d.cmd.op.val ∧ C i 6 = .int .i64 d.cmd.op.n) := hC
  have HD : Hid (∀ i d, ss[i]? = some d → D i 0 = .int .i64 d.term ∧ D i 1 = .int .i64 d.cmd.client ∧ D i 2 = .int .i64 d.cmd.req ∧ D i 3 = .int .i64 d.cmd.op.kind ∧ RV w (D i 4) d.cmd.op.key ∧ RV w (D i 5) d.cmd.op.val ∧ D i 6 = .int .i64 d.cmd.op.n) := hD
  clear hC hD
  obtain ⟨n, hnn⟩ : ∃ n, n = ss.length := ⟨_, rfl⟩
  rw [← hnn] at h1 h3 h1' h3' hn ⊢
  have HN : Hid (n = ss.length) := hnn
  clear hnn
  have H3 : Hid (0 < n → ∃ b o, a = some ⟨b, o, none⟩ ∧ b < w.heap.size ∧ ∀ i, i < n → ∀ j, j < 7 → w.cell? ⟨b, o + i * 7 + j, none⟩ = some (C i j)) := h3
  have H3' : Hid (0 < n → ∃ b o, a' = some ⟨b, o, none⟩ ∧ b < w.heap.size ∧ ∀ i, i < n → ∀ j, j < 7 → w.cell? ⟨b, o + i * 7 + j, none⟩ = some (D i j)) := h3'
  clear h3 h3'
  have HLN : Hid (∀ (i : Nat) (s : DItem), ss[i]? = some s → s.cmd.op.key.length ≤ 2097152 ∧ s.cmd.op.val.length ≤ 2097152) := hlen
  clear hlen
  have hml2 : (n : Int) ≤ 1048576 := by omega
  go_enter Try.func26, Try.ntmps26
  go_wp2
  go_loopw [5] (fun i wr => ∃ k : Nat, k ≤ n ∧ i = .int .i64 k ∧ Below w.heap.size w wr) (fun i _ => n - (intOf i).toNat)
  case atStart => exact ⟨0, Nat.zero_le _, rfl, Below.refl _ _⟩
  case round =>
    obtain ⟨k, hk, rfl, hb⟩ := hrel
    by_cases hlt : k < n
    · obtain ⟨b, o, rfl, hbl, hc⟩ := H3.out (by omega)
      obtain ⟨b', o', rfl, hbl', hc'⟩ := H3'.out (by omega)
      obtain ⟨s, hs⟩ : ∃ s, ss[k]? = some s := ⟨_, List.getElem?_eq_getElem (by have := HN.out; omega)⟩
      obtain ⟨e0, e1, e2, e3, e4, e5, e6⟩ := HC.out k s hs
      obtain ⟨y0, y1, y2, y3, y4, y5, y6⟩ := HD.out k s hs
      have X := ext_below hb
      have c0 := World.grownBy.cell X (hc k hlt 0 (by omega)) (by simp)
      rw [Nat.add_zero, e0] at c0
      have c1 := World.grownBy.cell X (hc k hlt 1 (by omega)) (by simp)
      rw [e1] at c1
      have c2 := World.grownBy.cell X (hc k hlt 2 (by omega)) (by simp)
      rw [e2] at c2
      have c3 := World.grownBy.cell X (hc k hlt 3 (by omega)) (by simp)
      rw [e3] at c3
      have c4 := World.grownBy.cell X (hc k hlt 4 (by omega)) (by simp)
      have cr4 := e4.ext X
      obtain ⟨ca4, cp4, cx4, _, _, _⟩ := e4
      rw [cx4] at cr4 c4
      have c5 := World.grownBy.cell X (hc k hlt 5 (by omega)) (by simp)
      have cr5 := e5.ext X
      obtain ⟨ca5, cp5, cx5, _, _, _⟩ := e5
      rw [cx5] at cr5 c5
      have c6 := World.grownBy.cell X (hc k hlt 6 (by omega)) (by simp)
      rw [e6] at c6
      have d0 := World.grownBy.cell X (hc' k hlt 0 (by omega)) (by simp)
      rw [Nat.add_zero, y0] at d0
      have d1 := World.grownBy.cell X (hc' k hlt 1 (by omega)) (by simp)
      rw [y1] at d1
      have d2 := World.grownBy.cell X (hc' k hlt 2 (by omega)) (by simp)
      rw [y2] at d2
      have d3 := World.grownBy.cell X (hc' k hlt 3 (by omega)) (by simp)
      rw [y3] at d3
      have d4 := World.grownBy.cell X (hc' k hlt 4 (by omega)) (by simp)
      have dr4 := y4.ext X
      obtain ⟨da4, dp4, dx4, _, _, _⟩ := y4
      rw [dx4] at dr4 d4
      have d5 := World.grownBy.cell X (hc' k hlt 5 (by omega)) (by simp)
      have dr5 := y5.ext X
      obtain ⟨da5, dp5, dx5, _, _, _⟩ := y5
      rw [dx5] at dr5 d5
      have d6 := World.grownBy.cell X (hc' k hlt 6 (by omega)) (by simp)
      rw [y6] at d6
      have HE : Hid (∀ W', Ext wr W' → Calls Try.prog 48 #[.agg #[.int .i64 s.term, .int .i64 s.cmd.client, .int .i64 s.cmd.req, .int .i64 s.cmd.op.kind, .slice ca4 s.cmd.op.key.length cp4, .slice ca5 s.cmd.op.val.length cp5, .int .i64 s.cmd.op.n], .agg #[.int .i64 s.term, .int .i64 s.cmd.client, .int .i64 s.cmd.req, .int .i64 s.cmd.op.kind, .slice da4 s.cmd.op.key.length dp4, .slice da5 s.cmd.op.val.length dp5, .int .i64 s.cmd.op.n]] W' fun e w' => e = .returned (.bool true) ∧ Below W'.heap.size W' w') := fun W' e => eqI _ _ s W' ⟨_, _, rfl, cr4.ext e, cr5.ext e⟩ ⟨_, _, rfl, dr4.ext e, dr5.ext e⟩ (HLN.out k s hs).1 (HLN.out k s hs).2
      have hlt' : (k : Int) < (n : Int) := by omega
      clear hc hc' X cr4 cr5 dr4 dr5
      have c0w := bw_cell c0
      have d0w := bw_cell d0
      have c1w := bw_cell c1
      have d1w := bw_cell d1
      have c2w := bw_cell c2
      have d2w := bw_cell d2
      have c3w := bw_cell c3
      have d3w := bw_cell d3
      have c4w := bw_cell c4
      have d4w := bw_cell d4
      have c5w := bw_cell c5
      have d5w := bw_cell d5
      have c6w := bw_cell c6
      have d6w := bw_cell d6
      have nonV := bw_ne wr
      go_wp2_with fail
      refine wp_region_bw (by kernel_rfl) (by kernel_rfl) ?_
      repeat (go_big_quiet_step ((go_at_call 48; exact bw_below (HE.out _ (bw_ext _)))))
      refine wpQuiet_nil ?_
      intro _ hw'
      obtain ⟨z, hw''⟩ := hw'
      subst hw''
      go_wp2
      go_roundw
      case rel => exact ⟨k + 1, by omega, by go_num, hb.trans (z.h.mono hb.size)⟩
      case measure => simp [intOf]; omega
    · have hkn : k = n := by omega
      subst hkn
      go_wp2
      go_ret
      exact ⟨rfl, hb⟩

end Go.Proofs.Ytdcbajejgphlgaa
