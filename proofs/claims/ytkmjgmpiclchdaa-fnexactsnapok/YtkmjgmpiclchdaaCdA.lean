/- Lists of commands: sized, copied, held against one another. -/
import Derived.Test.YtkmjgmpiclchdaaTo0
import Derived.Test.YtkmjgmpiclchdaaSum0
import Derived.Test.YtkmjgmpiclchdaaCm1
import Derived.Test.YtkmjgmpiclchdaaQB
import Derived.Deep.RegionHeld3
namespace Go.Proofs.Ytkmjgmpiclchdaa
open Go.RowKit

/-- The slice v reads as the commands rs. -/
def VCmds (w : World) (v : Value) (rs : List DCmd) : Prop := ∃ C, SL w 6 v rs.length C ∧ ∀ i d, rs[i]? = some d → C i 0 = .int .i64 d.client ∧ C i 1 = .int .i64 d.req ∧ C i 2 = .int .i64 d.op.kind ∧ RV w (C i 3) d.op.key ∧ RV w (C i 4) d.op.val ∧ C i 5 = .int .i64 d.op.n
theorem VCmds.ext {w w' : World} {v : Value} {rs : List DCmd} (h : VCmds w v rs) (e : Ext w w') : VCmds w' v rs := by
  obtain ⟨C, h1, h2⟩ := h
  refine ⟨C, h1.ext e, fun i d hd => ?_⟩
  obtain ⟨e0, e1, e2, e3, e4, e5⟩ := h2 i d hd
  exact ⟨e0, e1, e2, e3.ext e, e4.ext e, e5⟩
def zC (s : DCmd) : Nat := s.op.key.length + s.op.val.length
def sC (rs : List DCmd) : Nat := (rs.map zC).sum

set_option maxHeartbeats 2000000 in
theorem szS_C (v : Value) (ss : List DCmd) (l : Int) (w : World) (h : VCmds w v ss) (hl0 : 0 ≤ l) (hl : l ≤ 1048576) :
    Calls Try.prog 10 #[v, .int .i64 l] w (SzPost l (ss.length + sC ss) w) := by
  obtain ⟨C, ⟨a, cap, rfl, h1, h2, h3⟩, hC⟩ := h
  have HC : Hid (∀ i d, ss[i]? = some d → C i 0 = .int .i64 d.client ∧ C i 1 = .int .i64 d.req ∧ C i 2 = .int .i64 d.op.kind ∧ RV w (C i 3) d.op.key ∧ RV w (C i 4) d.op.val ∧ C i 5 = .int .i64 d.op.n) := hC
  clear hC
  unfold maxLen at h2
  obtain ⟨n, hnn⟩ : ∃ n, n = ss.length := ⟨_, rfl⟩
  obtain ⟨q, hqq⟩ : ∃ q, q = sC ss := ⟨_, rfl⟩
  rw [← hnn] at h1 h3 ⊢
  rw [← hqq]
  have HN : Hid (n = ss.length) := hnn
  have HQ : Hid (q = sC ss) := hqq
  clear hnn hqq
  have H3 : Hid (0 < n → ∃ b o, a = some ⟨b, o, none⟩ ∧ b < w.heap.size ∧ ∀ i, i < n → ∀ j, j < 6 → w.cell? ⟨b, o + i * 6 + j, none⟩ = some (C i j)) := h3
  clear h3
  by_cases hn : l - n < 0
  · go_enter Try.func10, Try.ntmps10
    go_wp2
    go_ret
    exact ⟨-1, rfl, .inl ⟨by omega, rfl⟩, Below.refl _ _⟩
  go_enter Try.func10, Try.ntmps10
  go_wp2
  go_loopw [1, 5] (fun lv i wr => ∃ k : Nat, k ≤ n ∧ i = .int .i64 k ∧ ∃ L : Int, lv = .int .i64 L ∧ 0 ≤ L ∧ L ≤ 1048576 ∧ Hid (L = l - n - sC (ss.take k)) ∧ Below w.heap.size w wr) (fun _ i _ => n - (intOf i).toNat)
  case atStart => exact ⟨0, Nat.zero_le _, rfl, l - n, rfl, by omega, by omega, by show _ = _; simp [sC], Below.refl _ _⟩
  case round =>
    obtain ⟨k, hk, rfl, L, rfl, hL0, hL1, hL, hb⟩ := hrel
    by_cases hlt : k < n
    · obtain ⟨b, o, rfl, hbl, hc⟩ := H3.out (by omega)
      obtain ⟨s, hs⟩ : ∃ s, ss[k]? = some s := ⟨_, List.getElem?_eq_getElem (by have := HN.out; omega)⟩
      obtain ⟨e0, e1, e2, e3, e4, e5⟩ := HC.out k s hs
      have HZ : Hid (sC (ss.take (k + 1)) = sC (ss.take k) + zC s ∧ sC (ss.take (k + 1)) ≤ q) := ⟨sum_next zC ss k s hs, by rw [HQ.out]; exact sum_take zC ss (k + 1)⟩
      have X := ext_below hb
      have c0 := World.grownBy.cell X (hc k hlt 0 (by omega)) (by simp)
      rw [Nat.add_zero, e0] at c0
      have c1 := World.grownBy.cell X (hc k hlt 1 (by omega)) (by simp)
      rw [e1] at c1
      have c2 := World.grownBy.cell X (hc k hlt 2 (by omega)) (by simp)
      rw [e2] at c2
      have c3 := World.grownBy.cell X (hc k hlt 3 (by omega)) (by simp)
      have cr3 := e3.ext X
      obtain ⟨ca3, cp3, cx3, _, _, _⟩ := e3
      rw [cx3] at cr3 c3
      have c4 := World.grownBy.cell X (hc k hlt 4 (by omega)) (by simp)
      have cr4 := e4.ext X
      obtain ⟨ca4, cp4, cx4, _, _, _⟩ := e4
      rw [cx4] at cr4 c4
      have c5 := World.grownBy.cell X (hc k hlt 5 (by omega)) (by simp)
      rw [e5] at c5
      have hlt' : (k : Int) < (n : Int) := by omega
      clear hc
      go_wp2_with fail
      refine (szC _ s L wr ⟨_, _, rfl, cr3, cr4⟩ hL0 hL1).mono ?_
      rintro e w2 ⟨r, rfl, hr, b2⟩
      have hb2 := hb.trans (b2.mono hb.size)
      have HZS : Hid (zC s = s.op.key.length + s.op.val.length) := rfl
      rcases hr with ⟨g1, rfl⟩ | ⟨g1, g2⟩
      · go_wp2
        go_ret
        refine ⟨-1, rfl, .inl ⟨?_, rfl⟩, hb2⟩
        have := HZ.out
        have := HZS.out
        have := hL.out
        omega
      · have hr0 : 0 ≤ r := by omega
        have hr1 : r ≤ 1048576 := by omega
        have HR : Hid (r = l - n - sC (ss.take (k + 1))) := by
          have := HZ.out
          have := HZS.out
          have := hL.out
          show r = _
          omega
        clear g1 g2
        go_wp2
        go_roundw
        case rel => exact ⟨k + 1, by omega, by go_num, r, rfl, hr0, hr1, HR, hb2⟩
        case measure => simp [intOf]; omega
    · have hkn : k = n := by omega
      subst hkn
      have HR : Hid (L = l - (k + q : Nat)) := by
        have := hL.out
        rw [List.take_of_length_le (by have := HN.out; omega)] at this
        have := HQ.out
        show L = _
        omega
      go_wp2
      go_ret
      exact ⟨L, rfl, .inr ⟨by have := HR.out; omega, HR.out⟩, hb⟩

theorem info_C : (Try.prog.info? 53).map (fun i => (i.zero, i.size, i.bytes)) = some (some (.agg #[.int .i64 0, .int .i64 0, .int .i64 0, .slice none 0 0, .slice none 0 0, .int .i64 0]), 6, 80) := by kernel_rfl

set_option maxHeartbeats 4000000 in
theorem toS_C (v : Value) (ss : List DCmd) (w : World) (h : VCmds w v ss) (hn : ss.length ≤ 1048576) (hlen : ∀ (i : Nat) (s : DCmd), ss[i]? = some s → s.op.key.length ≤ 1048576 ∧ s.op.val.length ≤ 1048576) :
    Calls Try.prog 14 #[v] w fun e w' => ∃ F, e = .returned (.slice (some ⟨w.heap.size, 0, none⟩) ss.length ss.length) ∧ Blk w' w.heap.size 53 6 ss.length ss.length F ∧ (∀ i s, ss[i]? = some s → F i 0 = .int .i64 s.client ∧ F i 1 = .int .i64 s.req ∧ F i 2 = .int .i64 s.op.kind ∧ Ow w' (w.heap.size + 1) (F i 3) s.op.key ∧ Ow w' (w.heap.size + 1) (F i 4) s.op.val ∧ F i 5 = .int .i64 s.op.n) ∧ Below w.heap.size w w' := by
  obtain ⟨C, ⟨a, cap, rfl, h1, h2, h3⟩, hC⟩ := h
  have HC : Hid (∀ i d, ss[i]? = some d → C i 0 = .int .i64 d.client ∧ C i 1 = .int .i64 d.req ∧ C i 2 = .int .i64 d.op.kind ∧ RV w (C i 3) d.op.key ∧ RV w (C i 4) d.op.val ∧ C i 5 = .int .i64 d.op.n) := hC
  clear hC
  obtain ⟨n, hnn⟩ : ∃ n, n = ss.length := ⟨_, rfl⟩
  rw [← hnn] at h1 h3 hn ⊢
  have HN : Hid (n = ss.length) := hnn
  clear hnn
  have H3 : Hid (0 < n → ∃ b o, a = some ⟨b, o, none⟩ ∧ b < w.heap.size ∧ ∀ i, i < n → ∀ j, j < 6 → w.cell? ⟨b, o + i * 6 + j, none⟩ = some (C i j)) := h3
  clear h3
  have HLN : Hid (∀ (i : Nat) (s : DCmd), ss[i]? = some s → s.op.key.length ≤ 1048576 ∧ s.op.val.length ≤ 1048576) := hlen
  clear hlen
  obtain ⟨i0, hi, hz0, hz1, hz2⟩ := info_parts info_C
  have hml : n ≤ maxLen := by unfold maxLen; omega
  have hml2 : (n : Int) ≤ 1048576 := by omega
  go_enter Try.func14, Try.ntmps14
  go_wp2_with (at_make; refine wpList_make_full _ rfl _ _ 39 rfl w.heap.size 53 i0 (.agg #[.int .i64 0, .int .i64 0, .int .i64 0, .slice none 0 0, .slice none 0 0, .int .i64 0]) 6 Try.underlying39 hi hz0 hz1 _ _ _ _ n rfl rfl rfl rfl ?b1 ?b2 ?b3 ?_)
  case b1 => rw [hz2]; omega
  case b2 => exact hml
  case b3 => exact Nat.le_refl _
  intro w1 hown hgr
  have hb1 : Below w.heap.size w w1 := (Below.refl _ _).grown hgr (Nat.le_refl _) (fun k hk => by cases hk)
  have hbk := blk_made (F := fun _ _ => .bool true) hown
  clear hown hgr
  go_wp2
  go_loopw [4] (fun i wr => ∃ k : Nat, k ≤ n ∧ i = .int .i64 k ∧ Below w.heap.size w wr ∧ ∃ F, Blk wr w.heap.size 53 6 n k F ∧ Hid (∀ i s, i < k → ss[i]? = some s → F i 0 = .int .i64 s.client ∧ F i 1 = .int .i64 s.req ∧ F i 2 = .int .i64 s.op.kind ∧ Ow wr (w.heap.size + 1) (F i 3) s.op.key ∧ Ow wr (w.heap.size + 1) (F i 4) s.op.val ∧ F i 5 = .int .i64 s.op.n)) (fun i _ => n - (intOf i).toNat)
  case atStart => exact ⟨0, Nat.zero_le _, rfl, hb1, _, hbk, fun i s hi => absurd hi (by omega)⟩
  case round =>
    obtain ⟨k, hk, rfl, hb, F, hF, hall⟩ := hrel
    clear hbk hb1
    by_cases hlt : k < n
    · obtain ⟨b, o, rfl, hbl, hc⟩ := H3.out (by omega)
      obtain ⟨s, hs⟩ : ∃ s, ss[k]? = some s := ⟨_, List.getElem?_eq_getElem (by have := HN.out; omega)⟩
      obtain ⟨e0, e1, e2, e3, e4, e5⟩ := HC.out k s hs
      have X := ext_below hb
      have c0 := World.grownBy.cell X (hc k hlt 0 (by omega)) (by simp)
      rw [Nat.add_zero, e0] at c0
      have c1 := World.grownBy.cell X (hc k hlt 1 (by omega)) (by simp)
      rw [e1] at c1
      have c2 := World.grownBy.cell X (hc k hlt 2 (by omega)) (by simp)
      rw [e2] at c2
      have c3 := World.grownBy.cell X (hc k hlt 3 (by omega)) (by simp)
      have cr3 := e3.ext X
      obtain ⟨ca3, cp3, cx3, _, _, _⟩ := e3
      rw [cx3] at cr3 c3
      have c4 := World.grownBy.cell X (hc k hlt 4 (by omega)) (by simp)
      have cr4 := e4.ext X
      obtain ⟨ca4, cp4, cx4, _, _, _⟩ := e4
      rw [cx4] at cr4 c4
      have c5 := World.grownBy.cell X (hc k hlt 5 (by omega)) (by simp)
      rw [e5] at c5
      have hlt' : (k : Int) < (n : Int) := by omega
      clear hc
      go_wp2_with fail
      refine (toC _ s wr ⟨_, _, rfl, cr3, cr4⟩ ⟨rv_rng cr3, rv_rng cr4⟩ (HLN.out k s hs).1 (HLN.out k s hs).2).mono ?_
      rintro e w2 ⟨v', rfl, ⟨k', u', rfl, ok, ov, _⟩, b2⟩
      obtain ⟨a5, p5, rfl, _, _, _⟩ := Ow.rv ok (rv_rng cr3)
      obtain ⟨a6, p6, rfl, _, _, _⟩ := Ow.rv ov (rv_rng cr4)
      have hF2 := blk_kept hF (b2.block _ (blk_lt hF))
      have hgl := blk_lt hF
      have hb2 := hb.trans (b2.mono hb.size)
      obtain ⟨⟨u0, d0⟩, f0⟩ := blk_cell hF2 (k * 6) (by omega)
      obtain ⟨⟨u1, d1⟩, f1⟩ := blk_cell hF2 (k * 6 + 1) (by omega)
      obtain ⟨⟨u2, d2⟩, f2⟩ := blk_cell hF2 (k * 6 + 2) (by omega)
      obtain ⟨⟨u3, d3⟩, f3⟩ := blk_cell hF2 (k * 6 + 3) (by omega)
      obtain ⟨⟨u4, d4⟩, f4⟩ := blk_cell hF2 (k * 6 + 4) (by omega)
      obtain ⟨⟨u5, d5⟩, f5⟩ := blk_cell hF2 (k * 6 + 5) (by omega)
      have G := blk_next (blk_set (blk_set (blk_set (blk_set (blk_set (blk_set hF2 (k * 6) (by omega) (.int .i64 s.client)) (k * 6 + 1) (by omega) (.int .i64 s.req)) (k * 6 + 2) (by omega) (.int .i64 s.op.kind)) (k * 6 + 3) (by omega) (.slice a5 s.op.key.length p5)) (k * 6 + 4) (by omega) (.slice a6 s.op.val.length p6)) (k * 6 + 5) (by omega) (.int .i64 s.op.n)) (fun j => if j = 0 then .int .i64 s.client else if j = 1 then .int .i64 s.req else if j = 2 then .int .i64 s.op.kind else if j = 3 then .slice a5 s.op.key.length p5 else if j = 4 then .slice a6 s.op.val.length p6 else .int .i64 s.op.n) (fun j hj => by
        have hj : j = 0 ∨ j = 1 ∨ j = 2 ∨ j = 3 ∨ j = 4 ∨ j = 5 := by omega
        rcases hj with rfl | rfl | rfl | rfl | rfl | rfl <;> simp [*, go_sem])
      have HG : Hid (Blk ((((((w2.setCell ⟨w.heap.size, k * 6, none⟩ (.int .i64 s.client)).setCell ⟨w.heap.size, k * 6 + 1, none⟩ (.int .i64 s.req)).setCell ⟨w.heap.size, k * 6 + 2, none⟩ (.int .i64 s.op.kind)).setCell ⟨w.heap.size, k * 6 + 3, none⟩ (.slice a5 s.op.key.length p5)).setCell ⟨w.heap.size, k * 6 + 4, none⟩ (.slice a6 s.op.val.length p6)).setCell ⟨w.heap.size, k * 6 + 5, none⟩ (.int .i64 s.op.n)) w.heap.size 53 6 n (k + 1) (fun i j => if i = k then (if j = 0 then .int .i64 s.client else if j = 1 then .int .i64 s.req else if j = 2 then .int .i64 s.op.kind else if j = 3 then .slice a5 s.op.key.length p5 else if j = 4 then .slice a6 s.op.val.length p6 else .int .i64 s.op.n) else F i j)) := G
      have HBF : Hid (Below w.heap.size w ((((((w2.setCell ⟨w.heap.size, k * 6, none⟩ (.int .i64 s.client)).setCell ⟨w.heap.size, k * 6 + 1, none⟩ (.int .i64 s.req)).setCell ⟨w.heap.size, k * 6 + 2, none⟩ (.int .i64 s.op.kind)).setCell ⟨w.heap.size, k * 6 + 3, none⟩ (.slice a5 s.op.key.length p5)).setCell ⟨w.heap.size, k * 6 + 4, none⟩ (.slice a6 s.op.val.length p6)).setCell ⟨w.heap.size, k * 6 + 5, none⟩ (.int .i64 s.op.n))) := ((((((hb2.setCell (Nat.le_refl _) _).setCell (Nat.le_refl _) _).setCell (Nat.le_refl _) _).setCell (Nat.le_refl _) _).setCell (Nat.le_refl _) _).setCell (Nat.le_refl _) _)
      have HA : Hid (∀ i r, i < k + 1 → ss[i]? = some r → (fun i j => if i = k then (if j = 0 then .int .i64 s.client else if j = 1 then .int .i64 s.req else if j = 2 then .int .i64 s.op.kind else if j = 3 then .slice a5 s.op.key.length p5 else if j = 4 then .slice a6 s.op.val.length p6 else .int .i64 s.op.n) else F i j) i 0 = .int .i64 r.client ∧ (fun i j => if i = k then (if j = 0 then .int .i64 s.client else if j = 1 then .int .i64 s.req else if j = 2 then .int .i64 s.op.kind else if j = 3 then .slice a5 s.op.key.length p5 else if j = 4 then .slice a6 s.op.val.length p6 else .int .i64 s.op.n) else F i j) i 1 = .int .i64 r.req ∧ (fun i j => if i = k then (if j = 0 then .int .i64 s.client else if j = 1 then .int .i64 s.req else if j = 2 then .int .i64 s.op.kind else if j = 3 then .slice a5 s.op.key.length p5 else if j = 4 then .slice a6 s.op.val.length p6 else .int .i64 s.op.n) else F i j) i 2 = .int .i64 r.op.kind ∧ Ow ((((((w2.setCell ⟨w.heap.size, k * 6, none⟩ (.int .i64 s.client)).setCell ⟨w.heap.size, k * 6 + 1, none⟩ (.int .i64 s.req)).setCell ⟨w.heap.size, k * 6 + 2, none⟩ (.int .i64 s.op.kind)).setCell ⟨w.heap.size, k * 6 + 3, none⟩ (.slice a5 s.op.key.length p5)).setCell ⟨w.heap.size, k * 6 + 4, none⟩ (.slice a6 s.op.val.length p6)).setCell ⟨w.heap.size, k * 6 + 5, none⟩ (.int .i64 s.op.n)) (w.heap.size + 1) ((fun i j => if i = k then (if j = 0 then .int .i64 s.client else if j = 1 then .int .i64 s.req else if j = 2 then .int .i64 s.op.kind else if j = 3 then .slice a5 s.op.key.length p5 else if j = 4 then .slice a6 s.op.val.length p6 else .int .i64 s.op.n) else F i j) i 3) r.op.key ∧ Ow ((((((w2.setCell ⟨w.heap.size, k * 6, none⟩ (.int .i64 s.client)).setCell ⟨w.heap.size, k * 6 + 1, none⟩ (.int .i64 s.req)).setCell ⟨w.heap.size, k * 6 + 2, none⟩ (.int .i64 s.op.kind)).setCell ⟨w.heap.size, k * 6 + 3, none⟩ (.slice a5 s.op.key.length p5)).setCell ⟨w.heap.size, k * 6 + 4, none⟩ (.slice a6 s.op.val.length p6)).setCell ⟨w.heap.size, k * 6 + 5, none⟩ (.int .i64 s.op.n)) (w.heap.size + 1) ((fun i j => if i = k then (if j = 0 then .int .i64 s.client else if j = 1 then .int .i64 s.req else if j = 2 then .int .i64 s.op.kind else if j = 3 then .slice a5 s.op.key.length p5 else if j = 4 then .slice a6 s.op.val.length p6 else .int .i64 s.op.n) else F i j) i 4) r.op.val ∧ (fun i j => if i = k then (if j = 0 then .int .i64 s.client else if j = 1 then .int .i64 s.req else if j = 2 then .int .i64 s.op.kind else if j = 3 then .slice a5 s.op.key.length p5 else if j = 4 then .slice a6 s.op.val.length p6 else .int .i64 s.op.n) else F i j) i 5 = .int .i64 r.op.n) := fun i r hi hr => by
        by_cases e : i = k
        · subst e
          rw [hs] at hr
          cases hr
          simp only [if_pos]
          exact ⟨(by simp), (by simp), (by simp), (by simpa using (ow_row (ow_row (ow_row (ow_row (ow_row (ow_row (ow_base ok (by omega)) (set_grown _ _ _ _) (by omega)) (set_grown _ _ _ _) (by omega)) (set_grown _ _ _ _) (by omega)) (set_grown _ _ _ _) (by omega)) (set_grown _ _ _ _) (by omega)) (set_grown _ _ _ _) (by omega))), (by simpa using (ow_row (ow_row (ow_row (ow_row (ow_row (ow_row (ow_base ov (by omega)) (set_grown _ _ _ _) (by omega)) (set_grown _ _ _ _) (by omega)) (set_grown _ _ _ _) (by omega)) (set_grown _ _ _ _) (by omega)) (set_grown _ _ _ _) (by omega)) (set_grown _ _ _ _) (by omega))), (by simp)⟩
        · simp only [if_neg e]
          exact ⟨(hall.out i r (by omega) hr).1, (hall.out i r (by omega) hr).2.1, (hall.out i r (by omega) hr).2.2.1, (ow_row (ow_row (ow_row (ow_row (ow_row (ow_row ((hall.out i r (by omega) hr).2.2.2.1.ext (ext_below b2)) (set_grown _ _ _ _) (by omega)) (set_grown _ _ _ _) (by omega)) (set_grown _ _ _ _) (by omega)) (set_grown _ _ _ _) (by omega)) (set_grown _ _ _ _) (by omega)) (set_grown _ _ _ _) (by omega)), (ow_row (ow_row (ow_row (ow_row (ow_row (ow_row ((hall.out i r (by omega) hr).2.2.2.2.1.ext (ext_below b2)) (set_grown _ _ _ _) (by omega)) (set_grown _ _ _ _) (by omega)) (set_grown _ _ _ _) (by omega)) (set_grown _ _ _ _) (by omega)) (set_grown _ _ _ _) (by omega)) (set_grown _ _ _ _) (by omega)), (hall.out i r (by omega) hr).2.2.2.2.2⟩
      clear hb hF hall G hb2 hF2 b2
      go_wp2
      go_roundw
      case rel => exact ⟨k + 1, by omega, by go_num, HBF.out, _, HG.out, HA⟩
      case measure => simp [intOf]; omega
    · have hkn : k = n := by omega
      subst hkn
      go_wp2
      go_ret
      exact ⟨F, rfl, hF, fun i s hs => hall.out i s (by have := (List.getElem?_eq_some_iff.1 hs).1; have := HN.out; omega) hs, hb⟩

set_option maxHeartbeats 4000000 in
theorem eqS_C (v u : Value) (ss : List DCmd) (w : World) (h : VCmds w v ss) (k : VCmds w u ss) (hn : ss.length ≤ 1048576) (hlen : ∀ (i : Nat) (s : DCmd), ss[i]? = some s → s.op.key.length ≤ 2097152 ∧ s.op.val.length ≤ 2097152) :
    Calls Try.prog 21 #[v, u] w fun e w' => e = .returned (.bool true) ∧ Below w.heap.size w w' := by
  obtain ⟨C, ⟨a, cap, rfl, h1, h2, h3⟩, hC⟩ := h
  obtain ⟨D, ⟨a', cap', rfl, h1', h2', h3'⟩, hD⟩ := k
  have HC : Hid (∀ i d, ss[i]? = some d → C i 0 = .int .i64 d.client ∧ C i 1 = .int .i64 d.req ∧ C i 2 = .int .i64 d.op.kind ∧ RV w (C i 3) d.op.key ∧ RV w (C i 4) d.op.val ∧ C i 5 = .int .i64 d.op.n) := hC
  have HD : Hid (∀ i d, ss[i]? = some d → D i 0 = .int .i64 d.client ∧ D i 1 = .int .i64 d.req ∧ D i 2 = .int .i64 d.op.kind ∧ RV w (D i 3) d.op.key ∧ RV w (D i 4) d.op.val ∧ D i 5 = .int .i64 d.op.n) := hD
  clear hC hD
  obtain ⟨n, hnn⟩ : ∃ n, n = ss.length := ⟨_, rfl⟩
  rw [← hnn] at h1 h3 h1' h3' hn ⊢
  have HN : Hid (n = ss.length) := hnn
  clear hnn
  have H3 : Hid (0 < n → ∃ b o, a = some ⟨b, o, none⟩ ∧ b < w.heap.size ∧ ∀ i, i < n → ∀ j, j < 6 → w.cell? ⟨b, o + i * 6 + j, none⟩ = some (C i j)) := h3
  have H3' : Hid (0 < n → ∃ b o, a' = some ⟨b, o, none⟩ ∧ b < w.heap.size ∧ ∀ i, i < n → ∀ j, j < 6 → w.cell? ⟨b, o + i * 6 + j, none⟩ = some (D i j)) := h3'
  clear h3 h3'
  have HLN : Hid (∀ (i : Nat) (s : DCmd), ss[i]? = some s → s.op.key.length ≤ 2097152 ∧ s.op.val.length ≤ 2097152) := hlen
  clear hlen
  have hml2 : (n : Int) ≤ 1048576 := by omega
  go_enter Try.func21, Try.ntmps21
  go_wp2
  go_loopw [5] (fun i wr => ∃ k : Nat, k ≤ n ∧ i = .int .i64 k ∧ Below w.heap.size w wr) (fun i _ => n - (intOf i).toNat)
  case atStart => exact ⟨0, Nat.zero_le _, rfl, Below.refl _ _⟩
  case round =>
    obtain ⟨k, hk, rfl, hb⟩ := hrel
    by_cases hlt : k < n
    · obtain ⟨b, o, rfl, hbl, hc⟩ := H3.out (by omega)
      obtain ⟨b', o', rfl, hbl', hc'⟩ := H3'.out (by omega)
      obtain ⟨s, hs⟩ : ∃ s, ss[k]? = some s := ⟨_, List.getElem?_eq_getElem (by have := HN.out; omega)⟩
      obtain ⟨e0, e1, e2, e3, e4, e5⟩ := HC.out k s hs
      obtain ⟨y0, y1, y2, y3, y4, y5⟩ := HD.out k s hs
      have X := ext_below hb
      have c0 := World.grownBy.cell X (hc k hlt 0 (by omega)) (by simp)
      rw [Nat.add_zero, e0] at c0
      have c1 := World.grownBy.cell X (hc k hlt 1 (by omega)) (by simp)
      rw [e1] at c1
      have c2 := World.grownBy.cell X (hc k hlt 2 (by omega)) (by simp)
      rw [e2] at c2
      have c3 := World.grownBy.cell X (hc k hlt 3 (by omega)) (by simp)
      have cr3 := e3.ext X
      obtain ⟨ca3, cp3, cx3, _, _, _⟩ := e3
      rw [cx3] at cr3 c3
      have c4 := World.grownBy.cell X (hc k hlt 4 (by omega)) (by simp)
      have cr4 := e4.ext X
      obtain ⟨ca4, cp4, cx4, _, _, _⟩ := e4
      rw [cx4] at cr4 c4
      have c5 := World.grownBy.cell X (hc k hlt 5 (by omega)) (by simp)
      rw [e5] at c5
      have d0 := World.grownBy.cell X (hc' k hlt 0 (by omega)) (by simp)
      rw [Nat.add_zero, y0] at d0
      have d1 := World.grownBy.cell X (hc' k hlt 1 (by omega)) (by simp)
      rw [y1] at d1
      have d2 := World.grownBy.cell X (hc' k hlt 2 (by omega)) (by simp)
      rw [y2] at d2
      have d3 := World.grownBy.cell X (hc' k hlt 3 (by omega)) (by simp)
      have dr3 := y3.ext X
      obtain ⟨da3, dp3, dx3, _, _, _⟩ := y3
      rw [dx3] at dr3 d3
      have d4 := World.grownBy.cell X (hc' k hlt 4 (by omega)) (by simp)
      have dr4 := y4.ext X
      obtain ⟨da4, dp4, dx4, _, _, _⟩ := y4
      rw [dx4] at dr4 d4
      have d5 := World.grownBy.cell X (hc' k hlt 5 (by omega)) (by simp)
      rw [y5] at d5
      have HE : Hid (∀ W', Ext wr W' → Calls Try.prog 50 #[.agg #[.int .i64 s.client, .int .i64 s.req, .int .i64 s.op.kind, .slice ca3 s.op.key.length cp3, .slice ca4 s.op.val.length cp4, .int .i64 s.op.n], .agg #[.int .i64 s.client, .int .i64 s.req, .int .i64 s.op.kind, .slice da3 s.op.key.length dp3, .slice da4 s.op.val.length dp4, .int .i64 s.op.n]] W' fun e w' => e = .returned (.bool true) ∧ Below W'.heap.size W' w') := fun W' e => eqC _ _ s W' ⟨_, _, rfl, cr3.ext e, cr4.ext e⟩ ⟨_, _, rfl, dr3.ext e, dr4.ext e⟩ (HLN.out k s hs).1 (HLN.out k s hs).2
      have hlt' : (k : Int) < (n : Int) := by omega
      clear hc hc' X cr3 cr4 dr3 dr4
      have c0w := bw_cell c0
      have d0w := bw_cell d0
      have c1w := bw_cell c1
      have d1w := bw_cell d1
      have c2w := bw_cell c2
      have d2w := bw_cell d2
      have c3w := bw_cell c3
      have d3w := bw_cell d3
      have c4w := bw_cell c4
      have d4w := bw_cell d4
      have c5w := bw_cell c5
      have d5w := bw_cell d5
      have nonV := bw_ne wr
      go_wp2_with fail
      refine wp_region_bw (by kernel_rfl) (by kernel_rfl) ?_
      repeat (go_big_quiet_step ((go_at_call 50; exact bw_below (HE.out _ (bw_ext _)))))
      refine wpQuiet_nil ?_
      intro _ hw'
      obtain ⟨z, hw''⟩ := hw'
      subst hw''
      go_wp2
      go_roundw
      case rel => exact ⟨k + 1, by omega, by go_num, hb.trans (z.h.mono hb.size)⟩
      case measure => simp [intOf]; omega
    · have hkn : k = n := by omega
      subst hkn
      go_wp2
      go_ret
      exact ⟨rfl, hb⟩

end Go.Proofs.Ytkmjgmpiclchdaa
