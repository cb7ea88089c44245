
/- Lists of checks: sized, copied, held against one another. -/
import Derived.Test.YtjkhadaoldbceaaTo0
import Derived.Test.YtjkhadaoldbceaaSum0
import Derived.Test.YtjkhadaoldbceaaCk0
import Derived.Test.YtjkhadaoldbceaaQB
import Derived.Deep.RegionHeld3
namespace Go.Proofs.Ytjkhadaoldbceaa
open Go.RowKit

/-- The slice v reads as the checks rs. -/
def VChks (w : World) (v : Value) (rs : List DChk) : Prop := ∃ C, SL w 6 v rs.length C ∧ ∀ i d, rs[i]? = some d → RV w (C i 0) d.name ∧ C i 1 = .int .i64 d.ttl ∧ C i 2 = .int .i64 d.most ∧ C i 3 = .int .i64 d.st ∧ C i 4 = .int .i64 d.age ∧ C i 5 = .int .i64 d.fails
theorem VChks.ext {w w' : World} {v : Value} {rs : List DChk} (h : VChks w v rs) (e : Ext w w') : VChks w' v rs := by
  obtain ⟨C, h1, h2⟩ := h
  refine ⟨C, h1.ext e, fun i d hd => ?_⟩
  obtain ⟨e0, e1, e2, e3, e4, e5⟩ := h2 i d hd
  exact ⟨e0.ext e, e1, e2, e3, e4, e5⟩
def zK (s : DChk) : Nat := s.name.length
def sK (rs : List DChk) : Nat := (rs.map zK).sum

set_option maxHeartbeats 2000000 in
theorem szS_K (v : Value) (ss : List DChk) (l : Int) (w : World) (h : VChks w v ss) (hl0 : 0 ≤ l) (hl : l ≤ 1048576) :
    Calls Try.prog 66 #[v, .int .i64 l] w (SzPost l (ss.length + sK ss) w) := by
  obtain ⟨C, ⟨a, cap, rfl, h1, h2, h3⟩, hC⟩ := h
  have HC : Hid (∀ i d, ss[i]? = some d → RV w (C i 0) d.name ∧ C i 1 = .int .i64 d.ttl ∧ C i 2 = .int .i64 d.most ∧ C i 3 = .int .i64 d.st ∧ C i 4 = .int .i64 d.age ∧ C i 5 = .int .i64 d.fails) := hC
  clear hC
  unfold maxLen at h2
  obtain ⟨n, hnn⟩ : ∃ n, n = ss.length := ⟨_, rfl⟩
  obtain ⟨q, hqq⟩ : ∃ q, q = sK ss := ⟨_, rfl⟩
  rw [← hnn] at h1 h3 ⊢
  rw [← hqq]
  have HN : Hid (n = ss.length) := hnn
  have HQ : Hid (q = sK ss) := hqq
  clear hnn hqq
  have H3 : Hid (0 < n → ∃ b o, a = some ⟨b, o, none⟩ ∧ b < w.heap.size ∧ ∀ i, i < n → ∀ j, j < 6 → w.cell? ⟨b, o + i * 6 + j, none⟩ = some (C i j)) := h3
  clear h3
  by_cases hn : l - n < 0
  · go_enter Try.func66, Try.ntmps66
    go_wp2
    go_ret
    exact ⟨-1, rfl, .inl ⟨by omega, rfl⟩, Below.refl _ _⟩
  go_enter Try.func66, Try.ntmps66
  go_wp2
  go_loopw [1, 5] (fun lv i wr => ∃ k : Nat, k ≤ n ∧ i = .int .i64 k ∧ ∃ L : Int, lv = .int .i64 L ∧ 0 ≤ L ∧ L ≤ 1048576 ∧ Hid (L = l - n - sK (ss.take k)) ∧ Below w.heap.size w wr) (fun _ i _ => n - (intOf i).toNat)
  case atStart => exact ⟨0, Nat.zero_le _, rfl, l - n, rfl, by omega, by omega, by show _ = _; simp [sK], Below.refl _ _⟩
  case round =>
    obtain ⟨k, hk, rfl, L, rfl, hL0, hL1, hL, hb⟩ := hrel
    by_cases hlt : k < n
    · obtain ⟨b, o, rfl, hbl, hc⟩ := H3.out (by omega)
      obtain ⟨s, hs⟩ : ∃ s, ss[k]? = some s := ⟨_, List.getElem?_eq_getElem (by have := HN.out; omega)⟩
      obtain ⟨e0, e1, e2, e3, e4, e5⟩ := HC.out k s hs
      have HZ : Hid (sK (ss.take (k + 1)) = sK (ss.take k) + zK s ∧ sK (ss.take (k + 1)) ≤ q) := ⟨sum_next zK ss k s hs, by rw [HQ.out]; exact sum_take zK ss (k + 1)⟩
      have X := ext_below hb
      have c0 := World.grownBy.cell X (hc k hlt 0 (by omega)) (by simp)
      rw [Nat.add_zero] at c0
      have cr0 := e0.ext X
      obtain ⟨ca0, cp0, cx0, _, _, _⟩ := e0
      rw [cx0] at cr0 c0
      have c1 := World.grownBy.cell X (hc k hlt 1 (by omega)) (by simp)
      rw [e1] at c1
      have c2 := World.grownBy.cell X (hc k hlt 2 (by omega)) (by simp)
      rw [e2] at c2
      have c3 := World.grownBy.cell X (hc k hlt 3 (by omega)) (by simp)
      rw [e3] at c3
      have c4 := World.grownBy.cell X (hc k hlt 4 (by omega)) (by simp)
      rw [e4] at c4
      have c5 := World.grownBy.cell X (hc k hlt 5 (by omega)) (by simp)
      rw [e5] at c5
      have hlt' : (k : Int) < (n : Int) := by omega
      clear hc
      go_wp2_with fail
      refine (szChk _ s L wr ⟨_, rfl, cr0⟩ hL0 hL1).mono ?_
      rintro e w2 ⟨r, rfl, hr, b2⟩
      have hb2 := hb.trans (b2.mono hb.size)
      have HZS : Hid (zK s = s.name.length) := rfl
      rcases hr with ⟨g1, rfl⟩ | ⟨g1, g2⟩
      · go_wp2
        go_ret
        refine ⟨-1, rfl, .inl ⟨?_, rfl⟩, hb2⟩
        have := HZ.out
        have := HZS.out
        have := hL.out
        omega
      · have hr0 : 0 ≤ r := by omega
        have hr1 : r ≤ 1048576 := by omega
        have HR : Hid (r = l - n - sK (ss.take (k + 1))) := by
          have := HZ.out
          have := HZS.out
          have := hL.out
          show r = _
          omega
        clear g1 g2
        go_wp2
        go_roundw
        case rel => exact ⟨k + 1, by omega, by go_num, r, rfl, hr0, hr1, HR, hb2⟩
        case measure => simp [intOf]; omega
    · have hkn : k = n := by omega
      subst hkn
      have HR : Hid (L = l - (k + q : Nat)) := by
        have := hL.out
        rw [List.take_of_length_le (by have := HN.out; omega)] at this
        have := HQ.out
        show L = _
        omega
      go_wp2
      go_ret
      exact ⟨L, rfl, .inr ⟨by have := HR.out; omega, HR.out⟩, hb⟩

theorem info_K : (Try.prog.info? 43).map (fun i => (i.zero, i.size, i.bytes)) = some (some (.agg #[.slice none 0 0, .int .i64 0, .int .i64 0, .int .i64 0, .int .i64 0, .int .i64 0]), 6, 64) := by kernel_rfl

set_option maxHeartbeats 4000000 in
theorem toS_K (v : Value) (ss : List DChk) (w : World) (h : VChks w v ss) (hn : ss.length ≤ 1048576) (hlen : ∀ (i : Nat) (s : DChk), ss[i]? = some s → s.name.length ≤ 1048576) :
    Calls Try.prog 67 #[v] w fun e w' => ∃ F, e = .returned (.slice (some ⟨w.heap.size, 0, none⟩) ss.length ss.length) ∧ Blk w' w.heap.size 43 6 ss.length ss.length F ∧ (∀ i s, ss[i]? = some s → Ow w' (w.heap.size + 1) (F i 0) s.name ∧ F i 1 = .int .i64 s.ttl ∧ F i 2 = .int .i64 s.most ∧ F i 3 = .int .i64 s.st ∧ F i 4 = .int .i64 s.age ∧ F i 5 = .int .i64 s.fails) ∧ Below w.heap.size w w' := by
  obtain ⟨C, ⟨a, cap, rfl, h1, h2, h3⟩, hC⟩ := h
  have HC : Hid (∀ i d, ss[i]? = some d → RV w (C i 0) d.name ∧ C i 1 = .int .i64 d.ttl ∧ C i 2 = .int .i64 d.most ∧ C i 3 = .int .i64 d.st ∧ C i 4 = .int .i64 d.age ∧ C i 5 = .int .i64 d.fails) := hC
  clear hC
  obtain ⟨n, hnn⟩ : ∃ n, n = ss.length := ⟨_, rfl⟩
  rw [← hnn] at h1 h3 hn ⊢
  have HN : Hid (n = ss.length) := hnn
  clear hnn
  have H3 : Hid (0 < n → ∃ b o, a = some ⟨b, o, none⟩ ∧ b < w.heap.size ∧ ∀ i, i < n → ∀ j, j < 6 → w.cell? ⟨b, o + i * 6 + j, none⟩ = some (C i j)) := h3
  clear h3
  have HLN : Hid (∀ (i : Nat) (s : DChk), ss[i]? = some s → s.name.length ≤ 1048576) := hlen
  clear hlen
  obtain ⟨i0, hi, hz0, hz1, hz2⟩ := info_parts info_K
  have hml : n ≤ maxLen := by unfold maxLen; omega
  have hml2 : (n : Int) ≤ 1048576 := by omega
  go_enter Try.func67, Try.ntmps67
  go_wp2_with (at_make; refine wpList_make_full _ rfl _ _ 52 rfl w.heap.size 43 i0 (.agg #[.slice none 0 0, .int .i64 0, .int .i64 0, .int .i64 0, .int .i64 0, .int .i64 0]) 6 Try.underlying52 hi hz0 hz1 _ _ _ _ n rfl rfl rfl rfl ?b1 ?b2 ?b3 ?_)
  case b1 => rw [hz2]; omega
  case b2 => exact hml
  case b3 => exact Nat.le_refl _
  intro w1 hown hgr
  have hb1 : Below w.heap.size w w1 := (Below.refl _ _).grown hgr (Nat.le_refl _) (fun k hk => by cases hk)
  have hbk := blk_made (F := fun _ _ => .bool true) hown
  clear hown hgr
  go_wp2
  go_loopw [4] (fun i wr => ∃ k : Nat, k ≤ n ∧ i = .int .i64 k ∧ Below w.heap.size w wr ∧ ∃ F, Blk wr w.heap.size 43 6 n k F ∧ Hid (∀ i s, i < k → ss[i]? = some s → Ow wr (w.heap.size + 1) (F i 0) s.name ∧ F i 1 = .int .i64 s.ttl ∧ F i 2 = .int .i64 s.most ∧ F i 3 = .int .i64 s.st ∧ F i 4 = .int .i64 s.age ∧ F i 5 = .int .i64 s.fails)) (fun i _ => n - (intOf i).toNat)
  case atStart => exact ⟨0, Nat.zero_le _, rfl, hb1, _, hbk, fun i s hi => absurd hi (by omega)⟩
  case round =>
    obtain ⟨k, hk, rfl, hb, F, hF, hall⟩ := hrel
    clear hbk hb1
    by_cases hlt : k < n
    · obtain ⟨b, o, rfl, hbl, hc⟩ := H3.out (by omega)
      obtain ⟨s, hs⟩ : ∃ s, ss[k]? = some s := ⟨_, List.getElem?_eq_getElem (by have := HN.out; omega)⟩
      obtain ⟨e0, e1, e2, e3, e4, e5⟩ := HC.out k s hs
      have X := ext_below hb
      have c0 := World.grownBy.cell X (hc k hlt 0 (by omega)) (by simp)
      rw [Nat.add_zero] at c0
      have cr0 := e0.ext X
      obtain ⟨ca0, cp0, cx0, _, _, _⟩ := e0
      rw [cx0] at cr0 c0
      have c1 := World.grownBy.cell X (hc k hlt 1 (by omega)) (by simp)
      rw [e1] at c1
      have c2 := World.grownBy.cell X (hc k hlt 2 (by omega)) (by simp)
      rw [e2] at c2
      have c3 := World.grownBy.cell X (hc k hlt 3 (by omega)) (by simp)
      rw [e3] at c3
      have c4 := World.grownBy.cell X (hc k hlt 4 (by omega)) (by simp)
      rw [e4] at c4
      have c5 := World.grownBy.cell X (hc k hlt 5 (by omega)) (by simp)
      rw [e5] at c5
      have hlt' : (k : Int) < (n : Int) := by omega
      clear hc
      go_wp2_with fail
      refine (toChk _ s wr ⟨_, rfl, cr0⟩ (HLN.out k s hs)).mono ?_
      rintro e w2 ⟨a5, p5, rfl, ok, b2⟩
      have hF2 := blk_kept hF (b2.block _ (blk_lt hF))
      have hgl := blk_lt hF
      have hb2 := hb.trans (b2.mono hb.size)
      obtain ⟨⟨u0, d0⟩, f0⟩ := blk_cell hF2 (k * 6) (by omega)
      obtain ⟨⟨u1, d1⟩, f1⟩ := blk_cell hF2 (k * 6 + 1) (by omega)
      obtain ⟨⟨u2, d2⟩, f2⟩ := blk_cell hF2 (k * 6 + 2) (by omega)
      obtain ⟨⟨u3, d3⟩, f3⟩ := blk_cell hF2 (k * 6 + 3) (by omega)
      obtain ⟨⟨u4, d4⟩, f4⟩ := blk_cell hF2 (k * 6 + 4) (by omega)
      obtain ⟨⟨u5, d5⟩, f5⟩ := blk_cell hF2 (k * 6 + 5) (by omega)
      have G := blk_next (blk_set (blk_set (blk_set (blk_set (blk_set (blk_set hF2 (k * 6) (by omega) (.slice a5 s.name.length p5)) (k * 6 + 1) (by omega) (.int .i64 s.ttl)) (k * 6 + 2) (by omega) (.int .i64 s.most)) (k * 6 + 3) (by omega) (.int .i64 s.st)) (k * 6 + 4) (by omega) (.int .i64 s.age)) (k * 6 + 5) (by omega) (.int .i64 s.fails)) (fun j => if j = 0 then .slice a5 s.name.length p5 else if j = 1 then .int .i64 s.ttl else if j = 2 then .int .i64 s.most else if j = 3 then .int .i64 s.st else if j = 4 then .int .i64 s.age else .int .i64 s.fails) (fun j hj => by
        have hj : j = 0 ∨ j = 1 ∨ j = 2 ∨ j = 3 ∨ j = 4 ∨ j = 5 := by omega
        rcases hj with rfl | rfl | rfl | rfl | rfl | rfl <;> simp [*, go_sem])
      have HG : Hid (Blk ((((((w2.setCell ⟨w.heap.size, k * 6, none⟩ (.slice a5 s.name.length p5)).setCell ⟨w.heap.size, k * 6 + 1, none⟩ (.int .i64 s.ttl)).setCell ⟨w.heap.size, k * 6 + 2, none⟩ (.int .i64 s.most)).setCell ⟨w.heap.size, k * 6 + 3, none⟩ (.int .i64 s.st)).setCell ⟨w.heap.size, k * 6 + 4, none⟩ (.int .i64 s.age)).setCell ⟨w.heap.size, k * 6 + 5, none⟩ (.int .i64 s.fails)) w.heap.size 43 6 n (k + 1) (fun i j => if i = k then (if j = 0 then .slice a5 s.name.length p5 else if j = 1 then .int .i64 s.ttl else if j = 2 then .int .i64 s.most else if j = 3 then .int .i64 s.st else if j = 4 then .int .i64 s.age else .int .i64 s.fails) else F i j)) := G
      have HBF : Hid (Below w.heap.size w ((((((w2.setCell ⟨w.heap.size, k * 6, none⟩ (.slice a5 s.name.length p5)).setCell ⟨w.heap.size, k * 6 + 1, none⟩ (.int .i64 s.ttl)).setCell ⟨w.heap.size, k * 6 + 2, none⟩ (.int .i64 s.most)).setCell ⟨w.heap.size, k * 6 + 3, none⟩ (.int .i64 s.st)).setCell ⟨w.heap.size, k * 6 + 4, none⟩ (.int .i64 s.age)).setCell ⟨w.heap.size, k * 6 + 5, none⟩ (.int .i64 s.fails))) := ((((((hb2.setCell (Nat.le_refl _) _).setCell (Nat.le_refl _) _).setCell (Nat.le_refl _) _).setCell (Nat.le_refl _) _).setCell (Nat.le_refl _) _).setCell (Nat.le_refl _) _)
      have HA : Hid (∀ i r, i < k + 1 → ss[i]? = some r → Ow ((((((w2.setCell ⟨w.heap.size, k * 6, none⟩ (.slice a5 s.name.length p5)).setCell ⟨w.heap.size, k * 6 + 1, none⟩ (.int .i64 s.ttl)).setCell ⟨w.heap.size, k * 6 + 2, none⟩ (.int .i64 s.most)).setCell ⟨w.heap.size, k * 6 + 3, none⟩ (.int .i64 s.st)).setCell ⟨w.heap.size, k * 6 + 4, none⟩ (.int .i64 s.age)).setCell ⟨w.heap.size, k * 6 + 5, none⟩ (.int .i64 s.fails)) (w.heap.size + 1) ((fun i j => if i = k then (if j = 0 then .slice a5 s.name.length p5 else if j = 1 then .int .i64 s.ttl else if j = 2 then .int .i64 s.most else if j = 3 then .int .i64 s.st else if j = 4 then .int .i64 s.age else .int .i64 s.fails) else F i j) i 0) r.name ∧ (fun i j => if i = k then (if j = 0 then .slice a5 s.name.length p5 else if j = 1 then .int .i64 s.ttl else if j = 2 then .int .i64 s.most else if j = 3 then .int .i64 s.st else if j = 4 then .int .i64 s.age else .int .i64 s.fails) else F i j) i 1 = .int .i64 r.ttl ∧ (fun i j => if i = k then (if j = 0 then .slice a5 s.name.length p5 else if j = 1 then .int .i64 s.ttl else if j = 2 then .int .i64 s.most else if j = 3 then .int .i64 s.st else if j = 4 then .int .i64 s.age else .int .i64 s.fails) else F i j) i 2 = .int .i64 r.most ∧ (fun i j => if i = k then (if j = 0 then .slice a5 s.name.length p5 else if j = 1 then .int .i64 s.ttl else if j = 2 then .int .i64 s.most else if j = 3 then .int .i64 s.st else if j = 4 then .int .i64 s.age else .int .i64 s.fails) else F i j) i 3 = .int .i64 r.st ∧ (fun i j => if i = k then (if j = 0 then .slice a5 s.name.length p5 else if j = 1 then .int .i64 s.ttl else if j = 2 then .int .i64 s.most else if j = 3 then .int .i64 s.st else if j = 4 then .int .i64 s.age else .int .i64 s.fails) else F i j) i 4 = .int .i64 r.age ∧ (fun i j => if i = k then (if j = 0 then .slice a5 s.name.length p5 else if j = 1 then .int .i64 s.ttl else if j = 2 then .int .i64 s.most else if j = 3 then .int .i64 s.st else if j = 4 then .int .i64 s.age else .int .i64 s.fails) else F i j) i 5 = .int .i64 r.fails) := fun i r hi hr => by
        by_cases e : i = k
        · subst e
          rw [hs] at hr
          cases hr
          simp only [if_pos]
          exact ⟨(by simpa using (ow_row (ow_row (ow_row (ow_row (ow_row (ow_row (ow_base ok (by omega)) (set_grown _ _ _ _) (by omega)) (set_grown _ _ _ _) (by omega)) (set_grown _ _ _ _) (by omega)) (set_grown _ _ _ _) (by omega)) (set_grown _ _ _ _) (by omega)) (set_grown _ _ _ _) (by omega))), (by simp), (by simp), (by simp), (by simp), (by simp)⟩
        · simp only [if_neg e]
          exact ⟨(ow_row (ow_row (ow_row (ow_row (ow_row (ow_row ((hall.out i r (by omega) hr).1.ext (ext_below b2)) (set_grown _ _ _ _) (by omega)) (set_grown _ _ _ _) (by omega)) (set_grown _ _ _ _) (by omega)) (set_grown _ _ _ _) (by omega)) (set_grown _ _ _ _) (by omega)) (set_grown _ _ _ _) (by omega)), (hall.out i r (by omega) hr).2.1, (hall.out i r (by omega) hr).2.2.1, (hall.out i r (by omega) hr).2.2.2.1, (hall.out i r (by omega) hr).2.2.2.2.1, (hall.out i r (by omega) hr).2.2.2.2.2⟩
      clear hb hF hall G hb2 hF2 b2
      go_wp2
      go_roundw
      case rel => exact ⟨k + 1, by omega, by go_num, HBF.out, _, HG.out, HA⟩
      case measure => simp [intOf]; omega
    · have hkn : k = n := by omega
      subst hkn
      go_wp2
      go_ret
      exact ⟨F, rfl, hF, fun i s hs => hall.out i s (by have := (List.getElem?_eq_some_iff.1 hs).1; have := HN.out; omega) hs, hb⟩

set_option maxHeartbeats 4000000 in
theorem eqS_K (v u : Value) (ss : List DChk) (w : World) (h : VChks w v ss) (k : VChks w u ss) (hn : ss.length ≤ 1048576) (hlen : ∀ (i : Nat) (s : DChk), ss[i]? = some s → s.name.length ≤ 1048576) :
    Calls Try.prog 74 #[v, u] w fun e w' => e = .returned (.bool true) ∧ Below w.heap.size w w' := by
  obtain ⟨C, ⟨a, cap, rfl, h1, h2, h3⟩, hC⟩ := h
  obtain ⟨D, ⟨a', cap', rfl, h1', h2', h3'⟩, hD⟩ := k
  have HC : Hid (∀ i d, ss[i]? = some d → RV w (C i 0) d.name ∧ C i 1 = .int .i64 d.ttl ∧ C i 2 = .int .i64 d.most ∧ C i 3 = .int .i64 d.st ∧ C i 4 = .int .i64 d.age ∧ C i 5 = .int .i64 d.fails) := hC
  have HD : Hid (∀ i d, ss[i]? = some d → RV w (D i 0) d.name ∧ D i 1 = .int .i64 d.ttl ∧ D i 2 = .int .i64 d.most ∧ D i 3 = .int .i64 d.st ∧ D i 4 = .int .i64 d.age ∧ D i 5 = .int .i64 d.fails) := hD
  clear hC hD
  obtain ⟨n, hnn⟩ : ∃ n, n = ss.length := ⟨_, rfl⟩
  rw [← hnn] at h1 h3 h1' h3' hn ⊢
  have HN : Hid (n = ss.length) := hnn
  clear hnn
  have H3 : Hid (0 < n → ∃ b o, a = some ⟨b, o, none⟩ ∧ b < w.heap.size ∧ ∀ i, i < n → ∀ j, j < 6 → w.cell? ⟨b, o + i * 6 + j, none⟩ = some (C i j)) := h3
  have H3' : Hid (0 < n → ∃ b o, a' = some ⟨b, o, none⟩ ∧ b < w.heap.size ∧ ∀ i, i < n → ∀ j, j < 6 → w.cell? ⟨b, o + i * 6 + j, none⟩ = some (D i j)) := h3'
  clear h3 h3'
  have HLN : Hid (∀ (i : Nat) (s : DChk), ss[i]? = some s → s.name.length ≤ 1048576) := hlen
  clear hlen
  have hml2 : (n : Int) ≤ 1048576 := by omega
  go_enter Try.func74, Try.ntmps74
  go_wp2
  go_loopw [5] (fun i wr => ∃ k : Nat, k ≤ n ∧ i = .int .i64 k ∧ Below w.heap.size w wr) (fun i _ => n - (intOf i).toNat)
  case atStart => exact ⟨0, Nat.zero_le _, rfl, Below.refl _ _⟩
  case round =>
    obtain ⟨k, hk, rfl, hb⟩ := hrel
    by_cases hlt : k < n
    · obtain ⟨b, o, rfl, hbl, hc⟩ := H3.out (by omega)
      obtain ⟨b', o', rfl, hbl', hc'⟩ := H3'.out (by omega)
      obtain ⟨s, hs⟩ : ∃ s, ss[k]? = some s := ⟨_, List.getElem?_eq_getElem (by have := HN.out; omega)⟩
      obtain ⟨e0, e1, e2, e3, e4, e5⟩ := HC.out k s hs
      obtain ⟨y0, y1, y2, y3, y4, y5⟩ := HD.out k s hs
      have X := ext_below hb
      have c0 := World.grownBy.cell X (hc k hlt 0 (by omega)) (by simp)
      rw [Nat.add_zero] at c0
      have cr0 := e0.ext X
      obtain ⟨ca0, cp0, cx0, _, _, _⟩ := e0
      rw [cx0] at cr0 c0
      have c1 := World.grownBy.cell X (hc k hlt 1 (by omega)) (by simp)
      rw [e1] at c1
      have c2 := World.grownBy.cell X (hc k hlt 2 (by omega)) (by simp)
      rw [e2] at c2
      have c3 := World.grownBy.cell X (hc k hlt 3 (by omega)) (by simp)
      rw [e3] at c3
      have c4 := World.grownBy.cell X (hc k hlt 4 (by omega)) (by simp)
      rw [e4] at c4
      have c5 := World.grownBy.cell X (hc k hlt 5 (by omega)) (by simp)
      rw [e5] at c5
      have d0 := World.grownBy.cell X (hc' k hlt 0 (by omega)) (by simp)
      rw [Nat.add_zero] at d0
      have dr0 := y0.ext X
      obtain ⟨da0, dp0, dx0, _, _, _⟩ := y0
      rw [dx0] at dr0 d0
      have d1 := World.grownBy.cell X (hc' k hlt 1 (by omega)) (by simp)
      rw [y1] at d1
      have d2 := World.grownBy.cell X (hc' k hlt 2 (by omega)) (by simp)
      rw [y2] at d2
      have d3 := World.grownBy.cell X (hc' k hlt 3 (by omega)) (by simp)
      rw [y3] at d3
      have d4 := World.grownBy.cell X (hc' k hlt 4 (by omega)) (by simp)
      rw [y4] at d4
      have d5 := World.grownBy.cell X (hc' k hlt 5 (by omega)) (by simp)
      rw [y5] at d5
      have HE : Hid (∀ W', Ext wr W' → Calls Try.prog 19 #[.agg #[.slice ca0 s.name.length cp0, .int .i64 s.ttl, .int .i64 s.most, .int .i64 s.st, .int .i64 s.age, .int .i64 s.fails], .agg #[.slice da0 s.name.length dp0, .int .i64 s.ttl, .int .i64 s.most, .int .i64 s.st, .int .i64 s.age, .int .i64 s.fails]] W' fun e w' => e = .returned (.bool true) ∧ Below W'.heap.size W' w') := fun W' e => eqChk _ _ s W' ⟨_, rfl, cr0.ext e⟩ ⟨_, rfl, dr0.ext e⟩ (HLN.out k s hs)
      have hlt' : (k : Int) < (n : Int) := by omega
      clear hc hc' X cr0 dr0
      have c0w := bw_cell c0
      have d0w := bw_cell d0
      have c1w := bw_cell c1
      have d1w := bw_cell d1
      have c2w := bw_cell c2
      have d2w := bw_cell d2
      have c3w := bw_cell c3
      have d3w := bw_cell d3
      have c4w := bw_cell c4
      have d4w := bw_cell d4
      have c5w := bw_cell c5
      have d5w := bw_cell d5
      have nonV := bw_ne wr
      go_wp2_with fail
      refine wp_region_bw (by kernel_rfl) (by kernel_rfl) ?_
      repeat (go_big_quiet_step ((go_at_call 19; exact bw_below (HE.out _ (bw_ext _)))))
      refine wpQuiet_nil ?_
      intro _ hw'
      obtain ⟨z, hw''⟩ := hw'
      subst hw''
      go_wp2
      go_roundw
      case rel => exact ⟨k + 1, by omega, by go_num, hb.trans (z.h.mono hb.size)⟩
      case measure => simp [intOf]; omega
    · have hkn : k = n := by omega
      subst hkn
      go_wp2
      go_ret
      exact ⟨rfl, hb⟩

end Go.Proofs.Ytjkhadaoldbceaa
