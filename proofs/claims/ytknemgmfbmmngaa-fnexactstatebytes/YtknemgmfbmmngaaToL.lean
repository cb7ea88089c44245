/- The exact statements' helpers that copy: Last. -/
import Derived.Test.YtknemgmfbmmngaaTo0
import Derived.Test.YtknemgmfbmmngaaSz0
namespace Go.Proofs.Ytknemgmfbmmngaa
open Go.RowKit

set_option maxHeartbeats 1000000 in
theorem toReplyV (x y : Int) (w : World) :
    Calls Try.prog 70 #[.agg #[.int .i64 x, .int .i64 y]] w fun e w' => e = .returned (.agg #[.int .i64 x, .int .i64 y]) ∧ Below w.heap.size w w' := by
  go_enter Try.func70, Try.ntmps70
  go_wp2
  refine bodyPost_ret (v := .agg #[.int .i64 x, .int .i64 y]) (by simp [results, Try.results70, go_sem]) rfl ?_
  exact ⟨rfl, (((Below.refl _ w).alloc (Nat.le_refl _) _).alloc (by simp) _).alloc (by simp; omega) _⟩

set_option maxHeartbeats 1000000 in
theorem toEl_L (s : DLast) (w : World) :
    Calls Try.prog 55 #[.agg #[.int .i64 s.client, .int .i64 s.req, .int .i64 s.code, .int .i64 s.index]] w fun e w' => e = .returned (.agg #[.int .i64 s.client, .int .i64 s.req, .int .i64 s.code, .int .i64 s.index]) ∧ Below w.heap.size w w' := by
  go_enter Try.func55, Try.ntmps55
  go_wp2_with fail
  have B0 : Below w.heap.size w (((w.alloc (.cells #[.int .i64 s.client, .int .i64 s.req, .int .i64 s.code, .int .i64 s.index] 98 (0, 0))).alloc (.cells #[.int .i64 0, .int .i64 0, .int .i64 0, .int .i64 0] 71 (0, 0))).alloc (.cells #[.int .i64 s.client, .int .i64 s.req, .int .i64 0, .int .i64 0] 71 (0, 0))) := (((Below.refl _ w).alloc (Nat.le_refl _) _).alloc (by simp) _).alloc (by simp; omega) _
  refine (toReplyV s.code s.index _).mono ?_
  rintro e w1 ⟨rfl, b1⟩
  have R1 := below_blk b1 (by simp) (h3_1 w _ _ _)
  have T1 := below_blk b1 (by simp) (h3_2 w _ _ _)
  have hs1 : w.heap.size + 3 ≤ w1.heap.size := by have := b1.size; simp at this; omega
  have B1 := B0.trans (b1.mono (by simp; omega))
  obtain ⟨q0, g0⟩ := at_block T1 0 _ rfl
  obtain ⟨q1, g1⟩ := at_block T1 1 _ rfl
  obtain ⟨q2, g2⟩ := at_block T1 2 _ rfl
  obtain ⟨q3, g3⟩ := at_block T1 3 _ rfl
  obtain ⟨r0, z0⟩ := at_block R1 0 _ rfl
  obtain ⟨r1, z1⟩ := at_block R1 1 _ rfl
  obtain ⟨r2, z2⟩ := at_block R1 2 _ rfl
  obtain ⟨r3, z3⟩ := at_block R1 3 _ rfl
  clear b1 B0
  go_wp2
  refine bodyPost_ret (v := .agg #[.int .i64 s.client, .int .i64 s.req, .int .i64 s.code, .int .i64 s.index]) (by simp [results, Try.results55, go_sem, r0, r1, r2, r3]) rfl ?_
  exact ⟨rfl, (((((B1.setCell (by simp; omega) _).setCell (by simp; omega) _).setCell (by simp) _).setCell (by simp) _).setCell (by simp) _).setCell (by simp) _⟩

theorem info_L : (Try.prog.info? 71).map (fun i => (i.zero, i.size, i.bytes)) = some (some (.agg #[.int .i64 0, .int .i64 0, .int .i64 0, .int .i64 0]), 4, 32) := by kernel_rfl

set_option maxHeartbeats 2000000 in
theorem toS_L (v : Value) (ss : List DLast) (w : World) (h : VLasts w v ss) (hn : ss.length ≤ 1048576) :
    Calls Try.prog 22 #[v] w fun e w' => ∃ F, e = .returned (.slice (some ⟨w.heap.size, 0, none⟩) ss.length ss.length) ∧ Blk w' w.heap.size 71 4 ss.length ss.length F ∧ (∀ i s, ss[i]? = some s → F i 0 = .int .i64 s.client ∧ F i 1 = .int .i64 s.req ∧ F i 2 = .int .i64 s.code ∧ F i 3 = .int .i64 s.index) ∧ Below w.heap.size w w' := by
  obtain ⟨C, ⟨a, cap, rfl, h1, h2, h3⟩, hC⟩ := h
  have HC : Hid (∀ i r, ss[i]? = some r → C i 0 = .int .i64 r.client ∧ C i 1 = .int .i64 r.req ∧ C i 2 = .int .i64 r.code ∧ C i 3 = .int .i64 r.index) := hC
  clear hC
  obtain ⟨n, hnn⟩ : ∃ n, n = ss.length := ⟨_, rfl⟩
  rw [← hnn] at h1 h3 hn ⊢
  have HN : Hid (n = ss.length) := hnn
  clear hnn
  have H3 : Hid (0 < n → ∃ b o, a = some ⟨b, o, none⟩ ∧ b < w.heap.size ∧ ∀ i, i < n → ∀ j, j < 4 → w.cell? ⟨b, o + i * 4 + j, none⟩ = some (C i j)) := h3
  clear h3
  obtain ⟨i0, hi, hz0, hz1, hz2⟩ := info_parts info_L
  have hml : n ≤ maxLen := by unfold maxLen; omega
  have hml2 : (n : Int) ≤ 1048576 := by omega
  go_enter Try.func22, Try.ntmps22
  go_wp2_with (at_make; refine wpList_make_full _ rfl _ _ 35 rfl w.heap.size 71 i0 (.agg #[.int .i64 0, .int .i64 0, .int .i64 0, .int .i64 0]) 4 Try.underlying35 hi hz0 hz1 _ _ _ _ n rfl rfl rfl rfl ?b1 ?b2 ?b3 ?_)
  case b1 => rw [hz2]; omega
  case b2 => exact hml
  case b3 => exact Nat.le_refl _
  intro w1 hown hgr
  have hb1 : Below w.heap.size w w1 := (Below.refl _ _).grown hgr (Nat.le_refl _) (fun k hk => by cases hk)
  have hbk := blk_made (F := fun _ _ => .bool true) hown
  clear hown hgr
  go_wp2
  go_loopw [4] (fun i wr => ∃ k : Nat, k ≤ n ∧ i = .int .i64 k ∧ Below w.heap.size w wr ∧ ∃ F, Blk wr w.heap.size 71 4 n k F ∧ Hid (∀ i s, i < k → ss[i]? = some s → F i 0 = .int .i64 s.client ∧ F i 1 = .int .i64 s.req ∧ F i 2 = .int .i64 s.code ∧ F i 3 = .int .i64 s.index)) (fun i _ => n - (intOf i).toNat)
  case atStart => exact ⟨0, Nat.zero_le _, rfl, hb1, _, hbk, fun i s hi => absurd hi (by omega)⟩
  case round =>
    obtain ⟨k, hk, rfl, hb, F, hF, hall⟩ := hrel
    clear hbk hb1
    by_cases hlt : k < n
    · obtain ⟨b, o, rfl, hbl, hc⟩ := H3.out (by omega)
      obtain ⟨s, hs⟩ : ∃ s, ss[k]? = some s := ⟨_, List.getElem?_eq_getElem (by have := HN.out; omega)⟩
      obtain ⟨e0, e1, e2, e3⟩ := HC.out k s hs
      have c0 := World.grownBy.cell (ext_below hb) (hc k hlt 0 (by omega)) (by simp)
      have c1 := World.grownBy.cell (ext_below hb) (hc k hlt 1 (by omega)) (by simp)
      have c2 := World.grownBy.cell (ext_below hb) (hc k hlt 2 (by omega)) (by simp)
      have c3 := World.grownBy.cell (ext_below hb) (hc k hlt 3 (by omega)) (by simp)
      rw [e0, Nat.add_zero] at c0
      rw [e1] at c1
      rw [e2] at c2
      rw [e3] at c3
      have hlt' : (k : Int) < (n : Int) := by omega
      clear hc
      go_wp2_with fail
      refine (toEl_L s wr).mono ?_
      rintro e w2 ⟨rfl, b2⟩
      have hF2 := blk_kept hF (b2.block _ (blk_lt hF))
      have hgl := blk_lt hF
      have hb2 := hb.trans (b2.mono hb.size)
      obtain ⟨⟨u0, d0⟩, f0⟩ := blk_cell hF2 (k * 4) (by omega)
      obtain ⟨⟨u1, d1⟩, f1⟩ := blk_cell hF2 (k * 4 + 1) (by omega)
      obtain ⟨⟨u2, d2⟩, f2⟩ := blk_cell hF2 (k * 4 + 2) (by omega)
      obtain ⟨⟨u3, d3⟩, f3⟩ := blk_cell hF2 (k * 4 + 3) (by omega)
      have G := blk_next (blk_set (blk_set (blk_set (blk_set hF2 (k * 4) (by omega) (.int .i64 s.client)) (k * 4 + 1) (by omega) (.int .i64 s.req)) (k * 4 + 2) (by omega) (.int .i64 s.code)) (k * 4 + 3) (by omega) (.int .i64 s.index)) (fun j => if j = 0 then .int .i64 s.client else if j = 1 then .int .i64 s.req else if j = 2 then .int .i64 s.code else .int .i64 s.index) (fun j hj => by
        have hj : j = 0 ∨ j = 1 ∨ j = 2 ∨ j = 3 := by omega
        rcases hj with rfl | rfl | rfl | rfl <;> simp [*, go_sem])
      have HG : Hid (Blk ((((w2.setCell ⟨w.heap.size, k * 4, none⟩ (.int .i64 s.client)).setCell ⟨w.heap.size, k * 4 + 1, none⟩ (.int .i64 s.req)).setCell ⟨w.heap.size, k * 4 + 2, none⟩ (.int .i64 s.code)).setCell ⟨w.heap.size, k * 4 + 3, none⟩ (.int .i64 s.index)) w.heap.size 71 4 n (k + 1) (fun i j => if i = k then (if j = 0 then .int .i64 s.client else if j = 1 then .int .i64 s.req else if j = 2 then .int .i64 s.code else .int .i64 s.index) else F i j)) := G
      have HBF : Hid (Below w.heap.size w ((((w2.setCell ⟨w.heap.size, k * 4, none⟩ (.int .i64 s.client)).setCell ⟨w.heap.size, k * 4 + 1, none⟩ (.int .i64 s.req)).setCell ⟨w.heap.size, k * 4 + 2, none⟩ (.int .i64 s.code)).setCell ⟨w.heap.size, k * 4 + 3, none⟩ (.int .i64 s.index))) := ((((hb2.setCell (Nat.le_refl _) _).setCell (Nat.le_refl _) _).setCell (Nat.le_refl _) _).setCell (Nat.le_refl _) _)
      have HA : Hid (∀ i r, i < k + 1 → ss[i]? = some r → (fun i j => if i = k then (if j = 0 then .int .i64 s.client else if j = 1 then .int .i64 s.req else if j = 2 then .int .i64 s.code else .int .i64 s.index) else F i j) i 0 = .int .i64 r.client ∧ (fun i j => if i = k then (if j = 0 then .int .i64 s.client else if j = 1 then .int .i64 s.req else if j = 2 then .int .i64 s.code else .int .i64 s.index) else F i j) i 1 = .int .i64 r.req ∧ (fun i j => if i = k then (if j = 0 then .int .i64 s.client else if j = 1 then .int .i64 s.req else if j = 2 then .int .i64 s.code else .int .i64 s.index) else F i j) i 2 = .int .i64 r.code ∧ (fun i j => if i = k then (if j = 0 then .int .i64 s.client else if j = 1 then .int .i64 s.req else if j = 2 then .int .i64 s.code else .int .i64 s.index) else F i j) i 3 = .int .i64 r.index) := fun i r hi hr => by
        by_cases e : i = k
        · subst e
          rw [hs] at hr
          cases hr
          simp only [if_pos]
          exact ⟨(by simp), (by simp), (by simp), (by simp)⟩
        · simp only [if_neg e]
          exact ⟨(hall.out i r (by omega) hr).1, (hall.out i r (by omega) hr).2.1, (hall.out i r (by omega) hr).2.2.1, (hall.out i r (by omega) hr).2.2.2⟩
      clear hb hF hall G hb2 hF2 b2
      go_wp2
      go_roundw
      case rel => exact ⟨k + 1, by omega, by go_num, HBF.out, _, HG.out, HA⟩
      case measure => simp [intOf]; omega
    · have hkn : k = n := by omega
      subst hkn
      go_wp2
      go_ret
      exact ⟨F, rfl, hF, fun i s hs => hall.out i s (by have := (List.getElem?_eq_some_iff.1 hs).1; have := HN.out; omega) hs, hb⟩

end Go.Proofs.Ytknemgmfbmmngaa
