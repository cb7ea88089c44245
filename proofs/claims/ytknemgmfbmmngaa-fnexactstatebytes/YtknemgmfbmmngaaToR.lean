/- The exact statements' helpers that copy: Row. -/
import Derived.Test.YtknemgmfbmmngaaTo0
import Derived.Test.YtknemgmfbmmngaaSz0
namespace Go.Proofs.Ytknemgmfbmmngaa
open Go.RowKit

set_option maxHeartbeats 1000000 in
theorem toEl_R (kv vv : Value) (s : DRow) (w : World) (rk : RV w kv s.key) (rv : RV w vv s.val) (hk : s.key.length ≤ 1048576) (hv : s.val.length ≤ 1048576) :
    Calls Try.prog 52 #[.agg #[kv, vv, .int .i64 s.turned, .int .i64 s.holder]] w fun e w' => ∃ k' v', e = .returned (.agg #[k', v', .int .i64 s.turned, .int .i64 s.holder]) ∧ Ow w' w.heap.size k' s.key ∧ Ow w' w.heap.size v' s.val ∧ Below w.heap.size w w' := by
  have hE : ∀ w : World, ∀ o, Ext w (w.alloc o) := fun w o => World.grownBy_alloc _ _ _
  have hrk := rv_rng rk
  have hrv := rv_rng rv
  go_enter Try.func52, Try.ntmps52
  go_wp2_with fail
  refine (toV kv s.key _ (rk.ext (((hE _ _).tr (hE _ _)).tr (hE _ _))) hk).mono ?_
  rintro e w1 ⟨k1, rfl, o1, b1⟩
  have hs1 : w.heap.size + 3 ≤ w1.heap.size := by have := b1.size; simp at this; omega
  have P1 := below_blk b1 (by simp; omega) (h3_0 w _ _ _)
  have R1 := below_blk b1 (by simp) (h3_1 w _ _ _)
  have T1 := below_blk b1 (by simp) (h3_2 w _ _ _)
  obtain ⟨ka, kc, rfl, _, _, _⟩ := Ow.rv o1 hrk
  have c1 := (at_block P1 1 _ rfl).1
  obtain ⟨t0, ft0⟩ := at_block T1 0 _ rfl
  have T2 := set_block T1 0 (.slice ka s.key.length kc)
  have P2 := set_other (w.heap.size + 1 + 1) 0 (.slice ka s.key.length kc) (by omega) P1
  have R2 := set_other (w.heap.size + 1 + 1) 0 (.slice ka s.key.length kc) (by omega) R1
  have G2 := set_grown w1 (w.heap.size + 1 + 1) 0 (.slice ka s.key.length kc)
  have HT2 : Hid ((w1.setCell ⟨w.heap.size + 1 + 1, 0, none⟩ (.slice ka s.key.length kc)).heap[w.heap.size + 1 + 1]? = some (.cells #[.slice ka s.key.length kc, .slice none 0 0, .int .i64 0, .int .i64 0] 57 (0, 0))) := T2
  clear T2
  go_wp2_with fail
  have B0 : Below w.heap.size w w1 := ((((Below.refl _ w).alloc (Nat.le_refl _) _).alloc (by simp) _).alloc (by simp; omega) _).trans (b1.mono (by simp; omega))
  have B2 := below_at B0 B0.size G2 (by omega)
  have o2 := ow_row o1 G2 (by simp)
  have hs2 : w1.heap.size ≤ (w1.setCell ⟨w.heap.size + 1 + 1, 0, none⟩ (.slice ka s.key.length kc)).heap.size := G2.size
  generalize w1.setCell ⟨w.heap.size + 1 + 1, 0, none⟩ (.slice ka s.key.length kc) = w2 at HT2 P2 R2 G2 B2 o2 hs2 ⊢
  have T2 := HT2.out
  clear HT2 T1 P1 R1 t0 ft0 c1 G2 o1 b1 B0
  refine (toV vv s.val w2 (rv.ext (ext_below B2)) hv).mono ?_
  rintro e w3 ⟨v3, rfl, o3, b3⟩
  have hs3 := b3.size
  have P3 := below_blk b3 (by omega) P2
  have R3 := below_blk b3 (by omega) R2
  have T3 := below_blk b3 (by omega) T2
  have k3 := o2.ext (ext_below b3)
  have B3 := B2.trans (b3.mono B2.size)
  obtain ⟨va, vc, rfl, _, _, _⟩ := Ow.rv o3 hrv
  clear P2 R2 T2 b3 B2 o2
  have p2 := (at_block P3 2 _ rfl).1
  have p3 := (at_block P3 3 _ rfl).1
  obtain ⟨q0, g0⟩ := at_block T3 0 _ rfl
  obtain ⟨q1, g1⟩ := at_block T3 1 _ rfl
  obtain ⟨q2, g2⟩ := at_block T3 2 _ rfl
  obtain ⟨q3, g3⟩ := at_block T3 3 _ rfl
  obtain ⟨r0, z0⟩ := at_block R3 0 _ rfl
  obtain ⟨r1, z1⟩ := at_block R3 1 _ rfl
  obtain ⟨r2, z2⟩ := at_block R3 2 _ rfl
  obtain ⟨r3, z3⟩ := at_block R3 3 _ rfl
  go_wp2
  refine bodyPost_ret (v := .agg #[.slice ka s.key.length kc, .slice va s.val.length vc, .int .i64 s.turned, .int .i64 s.holder]) (by simp [results, Try.results52, go_sem, r0, r1, r2, r3]) rfl ?_
  have GG : ∀ (W : World) (j : Nat) (u : Value), W.grownBy (W.setCell ⟨w.heap.size + 1, j, none⟩ u) (some (w.heap.size + 1)) := fun W j u => set_grown W _ j u
  have GT : ∀ (W : World) (j : Nat) (u : Value), W.grownBy (W.setCell ⟨w.heap.size + 1 + 1, j, none⟩ u) (some (w.heap.size + 1 + 1)) := fun W j u => set_grown W _ j u
  refine ⟨_, _, rfl, ?_, ?_, ?_⟩
  · exact ow_base (ow_row (ow_row (ow_row (ow_row (ow_row (ow_row (ow_row k3 (GT _ _ _) (by simp)) (GT _ _ _) (by simp)) (GT _ _ _) (by simp)) (GG _ _ _) (by simp)) (GG _ _ _) (by simp)) (GG _ _ _) (by simp)) (GG _ _ _) (by simp)) (by simp; omega)
  · exact ow_base (ow_row (ow_row (ow_row (ow_row (ow_row (ow_row (ow_row o3 (GT _ _ _) (by omega)) (GT _ _ _) (by omega)) (GT _ _ _) (by omega)) (GG _ _ _) (by omega)) (GG _ _ _) (by omega)) (GG _ _ _) (by omega)) (GG _ _ _) (by omega)) (by omega)
  · exact ((((((B3.setCell (by simp; omega) _).setCell (by simp; omega) _).setCell (by simp; omega) _).setCell (by simp) _).setCell (by simp) _).setCell (by simp) _).setCell (by simp) _

theorem info_R : (Try.prog.info? 57).map (fun i => (i.zero, i.size, i.bytes)) = some (some (.agg #[.slice none 0 0, .slice none 0 0, .int .i64 0, .int .i64 0]), 4, 64) := by kernel_rfl

set_option maxHeartbeats 2000000 in
theorem toS_R (v : Value) (ss : List DRow) (w : World) (h : VRows w v ss) (hn : ss.length ≤ 1048576) (hlen : ∀ (i : Nat) (s : DRow), ss[i]? = some s → s.key.length ≤ 1048576 ∧ s.val.length ≤ 1048576) :
    Calls Try.prog 19 #[v] w fun e w' => ∃ F, e = .returned (.slice (some ⟨w.heap.size, 0, none⟩) ss.length ss.length) ∧ Blk w' w.heap.size 57 4 ss.length ss.length F ∧ (∀ i s, ss[i]? = some s → Ow w' (w.heap.size + 1) (F i 0) s.key ∧ Ow w' (w.heap.size + 1) (F i 1) s.val ∧ F i 2 = .int .i64 s.turned ∧ F i 3 = .int .i64 s.holder) ∧ Below w.heap.size w w' := by
  obtain ⟨C, ⟨a, cap, rfl, h1, h2, h3⟩, hC⟩ := h
  have HC : Hid (∀ i r, ss[i]? = some r → RV w (C i 0) r.key ∧ RV w (C i 1) r.val ∧ C i 2 = .int .i64 r.turned ∧ C i 3 = .int .i64 r.holder) := hC
  clear hC
  obtain ⟨n, hnn⟩ : ∃ n, n = ss.length := ⟨_, rfl⟩
  rw [← hnn] at h1 h3 hn ⊢
  have HN : Hid (n = ss.length) := hnn
  clear hnn
  have H3 : Hid (0 < n → ∃ b o, a = some ⟨b, o, none⟩ ∧ b < w.heap.size ∧ ∀ i, i < n → ∀ j, j < 4 → w.cell? ⟨b, o + i * 4 + j, none⟩ = some (C i j)) := h3
  clear h3
  have HLN : Hid (∀ (i : Nat) (s : DRow), ss[i]? = some s → s.key.length ≤ 1048576 ∧ s.val.length ≤ 1048576) := hlen
  clear hlen
  obtain ⟨i0, hi, hz0, hz1, hz2⟩ := info_parts info_R
  have hml : n ≤ maxLen := by unfold maxLen; omega
  have hml2 : (n : Int) ≤ 1048576 := by omega
  go_enter Try.func19, Try.ntmps19
  go_wp2_with (at_make; refine wpList_make_full _ rfl _ _ 32 rfl w.heap.size 57 i0 (.agg #[.slice none 0 0, .slice none 0 0, .int .i64 0, .int .i64 0]) 4 Try.underlying32 hi hz0 hz1 _ _ _ _ n rfl rfl rfl rfl ?b1 ?b2 ?b3 ?_)
  case b1 => rw [hz2]; omega
  case b2 => exact hml
  case b3 => exact Nat.le_refl _
  intro w1 hown hgr
  have hb1 : Below w.heap.size w w1 := (Below.refl _ _).grown hgr (Nat.le_refl _) (fun k hk => by cases hk)
  have hbk := blk_made (F := fun _ _ => .bool true) hown
  clear hown hgr
  go_wp2
  go_loopw [4] (fun i wr => ∃ k : Nat, k ≤ n ∧ i = .int .i64 k ∧ Below w.heap.size w wr ∧ ∃ F, Blk wr w.heap.size 57 4 n k F ∧ Hid (∀ i s, i < k → ss[i]? = some s → Ow wr (w.heap.size + 1) (F i 0) s.key ∧ Ow wr (w.heap.size + 1) (F i 1) s.val ∧ F i 2 = .int .i64 s.turned ∧ F i 3 = .int .i64 s.holder)) (fun i _ => n - (intOf i).toNat)
  case atStart => exact ⟨0, Nat.zero_le _, rfl, hb1, _, hbk, fun i s hi => absurd hi (by omega)⟩
  case round =>
    obtain ⟨k, hk, rfl, hb, F, hF, hall⟩ := hrel
    clear hbk hb1
    by_cases hlt : k < n
    · obtain ⟨b, o, rfl, hbl, hc⟩ := H3.out (by omega)
      obtain ⟨s, hs⟩ : ∃ s, ss[k]? = some s := ⟨_, List.getElem?_eq_getElem (by have := HN.out; omega)⟩
      obtain ⟨e0, e1, e2, e3⟩ := HC.out k s hs
      have c0 := World.grownBy.cell (ext_below hb) (hc k hlt 0 (by omega)) (by simp)
      have c1 := World.grownBy.cell (ext_below hb) (hc k hlt 1 (by omega)) (by simp)
      have c2 := World.grownBy.cell (ext_below hb) (hc k hlt 2 (by omega)) (by simp)
      have c3 := World.grownBy.cell (ext_below hb) (hc k hlt 3 (by omega)) (by simp)
      have r0 := e0.ext (ext_below hb)
      obtain ⟨a0, p0, x0, _, _, _⟩ := e0
      rw [x0] at r0 c0
      rw [Nat.add_zero] at c0
      have r1 := e1.ext (ext_below hb)
      obtain ⟨a1, p1, x1, _, _, _⟩ := e1
      rw [x1] at r1 c1
      rw [e2] at c2
      rw [e3] at c3
      have hlt' : (k : Int) < (n : Int) := by omega
      clear hc
      go_wp2_with fail
      refine (toEl_R _ _ s wr r0 r1 (HLN.out k s hs).1 (HLN.out k s hs).2).mono ?_
      rintro e w2 ⟨k', v', rfl, ok, ov, b2⟩
      obtain ⟨a5, p5, rfl, _, _, _⟩ := Ow.rv ok (rv_rng r0)
      obtain ⟨a6, p6, rfl, _, _, _⟩ := Ow.rv ov (rv_rng r1)
      have hF2 := blk_kept hF (b2.block _ (blk_lt hF))
      have hgl := blk_lt hF
      have hb2 := hb.trans (b2.mono hb.size)
      obtain ⟨⟨u0, d0⟩, f0⟩ := blk_cell hF2 (k * 4) (by omega)
      obtain ⟨⟨u1, d1⟩, f1⟩ := blk_cell hF2 (k * 4 + 1) (by omega)
      obtain ⟨⟨u2, d2⟩, f2⟩ := blk_cell hF2 (k * 4 + 2) (by omega)
      obtain ⟨⟨u3, d3⟩, f3⟩ := blk_cell hF2 (k * 4 + 3) (by omega)
      have G := blk_next (blk_set (blk_set (blk_set (blk_set hF2 (k * 4) (by omega) (.slice a5 s.key.length p5)) (k * 4 + 1) (by omega) (.slice a6 s.val.length p6)) (k * 4 + 2) (by omega) (.int .i64 s.turned)) (k * 4 + 3) (by omega) (.int .i64 s.holder)) (fun j => if j = 0 then .slice a5 s.key.length p5 else if j = 1 then .slice a6 s.val.length p6 else if j = 2 then .int .i64 s.turned else .int .i64 s.holder) (fun j hj => by
        have hj : j = 0 ∨ j = 1 ∨ j = 2 ∨ j = 3 := by omega
        rcases hj with rfl | rfl | rfl | rfl <;> simp [*, go_sem])
      have HG : Hid (Blk ((((w2.setCell ⟨w.heap.size, k * 4, none⟩ (.slice a5 s.key.length p5)).setCell ⟨w.heap.size, k * 4 + 1, none⟩ (.slice a6 s.val.length p6)).setCell ⟨w.heap.size, k * 4 + 2, none⟩ (.int .i64 s.turned)).setCell ⟨w.heap.size, k * 4 + 3, none⟩ (.int .i64 s.holder)) w.heap.size 57 4 n (k + 1) (fun i j => if i = k then (if j = 0 then .slice a5 s.key.length p5 else if j = 1 then .slice a6 s.val.length p6 else if j = 2 then .int .i64 s.turned else .int .i64 s.holder) else F i j)) := G
      have HBF : Hid (Below w.heap.size w ((((w2.setCell ⟨w.heap.size, k * 4, none⟩ (.slice a5 s.key.length p5)).setCell ⟨w.heap.size, k * 4 + 1, none⟩ (.slice a6 s.val.length p6)).setCell ⟨w.heap.size, k * 4 + 2, none⟩ (.int .i64 s.turned)).setCell ⟨w.heap.size, k * 4 + 3, none⟩ (.int .i64 s.holder))) := ((((hb2.setCell (Nat.le_refl _) _).setCell (Nat.le_refl _) _).setCell (Nat.le_refl _) _).setCell (Nat.le_refl _) _)
      have HA : Hid (∀ i r, i < k + 1 → ss[i]? = some r → Ow ((((w2.setCell ⟨w.heap.size, k * 4, none⟩ (.slice a5 s.key.length p5)).setCell ⟨w.heap.size, k * 4 + 1, none⟩ (.slice a6 s.val.length p6)).setCell ⟨w.heap.size, k * 4 + 2, none⟩ (.int .i64 s.turned)).setCell ⟨w.heap.size, k * 4 + 3, none⟩ (.int .i64 s.holder)) (w.heap.size + 1) ((fun i j => if i = k then (if j = 0 then .slice a5 s.key.length p5 else if j = 1 then .slice a6 s.val.length p6 else if j = 2 then .int .i64 s.turned else .int .i64 s.holder) else F i j) i 0) r.key ∧ Ow ((((w2.setCell ⟨w.heap.size, k * 4, none⟩ (.slice a5 s.key.length p5)).setCell ⟨w.heap.size, k * 4 + 1, none⟩ (.slice a6 s.val.length p6)).setCell ⟨w.heap.size, k * 4 + 2, none⟩ (.int .i64 s.turned)).setCell ⟨w.heap.size, k * 4 + 3, none⟩ (.int .i64 s.holder)) (w.heap.size + 1) ((fun i j => if i = k then (if j = 0 then .slice a5 s.key.length p5 else if j = 1 then .slice a6 s.val.length p6 else if j = 2 then .int .i64 s.turned else .int .i64 s.holder) else F i j) i 1) r.val ∧ (fun i j => if i = k then (if j = 0 then .slice a5 s.key.length p5 else if j = 1 then .slice a6 s.val.length p6 else if j = 2 then .int .i64 s.turned else .int .i64 s.holder) else F i j) i 2 = .int .i64 r.turned ∧ (fun i j => if i = k then (if j = 0 then .slice a5 s.key.length p5 else if j = 1 then .slice a6 s.val.length p6 else if j = 2 then .int .i64 s.turned else .int .i64 s.holder) else F i j) i 3 = .int .i64 r.holder) := fun i r hi hr => by
        by_cases e : i = k
        · subst e
          rw [hs] at hr
          cases hr
          simp only [if_pos]
          exact ⟨(by simpa using (ow_row (ow_row (ow_row (ow_row (ow_base ok (by omega)) (set_grown _ _ _ _) (by omega)) (set_grown _ _ _ _) (by omega)) (set_grown _ _ _ _) (by omega)) (set_grown _ _ _ _) (by omega))), (by simpa using (ow_row (ow_row (ow_row (ow_row (ow_base ov (by omega)) (set_grown _ _ _ _) (by omega)) (set_grown _ _ _ _) (by omega)) (set_grown _ _ _ _) (by omega)) (set_grown _ _ _ _) (by omega))), (by simp), (by simp)⟩
        · simp only [if_neg e]
          exact ⟨(ow_row (ow_row (ow_row (ow_row ((hall.out i r (by omega) hr).1.ext (ext_below b2)) (set_grown _ _ _ _) (by omega)) (set_grown _ _ _ _) (by omega)) (set_grown _ _ _ _) (by omega)) (set_grown _ _ _ _) (by omega)), (ow_row (ow_row (ow_row (ow_row ((hall.out i r (by omega) hr).2.1.ext (ext_below b2)) (set_grown _ _ _ _) (by omega)) (set_grown _ _ _ _) (by omega)) (set_grown _ _ _ _) (by omega)) (set_grown _ _ _ _) (by omega)), (hall.out i r (by omega) hr).2.2.1, (hall.out i r (by omega) hr).2.2.2⟩
      clear hb hF hall G hb2 hF2 b2
      go_wp2
      go_roundw
      case rel => exact ⟨k + 1, by omega, by go_num, HBF.out, _, HG.out, HA⟩
      case measure => simp [intOf]; omega
    · have hkn : k = n := by omega
      subst hkn
      go_wp2
      go_ret
      exact ⟨F, rfl, hF, fun i s hs => hall.out i s (by have := (List.getElem?_eq_some_iff.1 hs).1; have := HN.out; omega) hs, hb⟩

end Go.Proofs.Ytknemgmfbmmngaa
