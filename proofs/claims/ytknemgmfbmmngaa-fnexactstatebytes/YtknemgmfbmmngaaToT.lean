/- The exact statements' helpers that copy: Tomb. -/
import Derived.Test.YtknemgmfbmmngaaTo0
import Derived.Test.YtknemgmfbmmngaaSz0
namespace Go.Proofs.Ytknemgmfbmmngaa
open Go.RowKit

set_option maxHeartbeats 1000000 in
theorem toEl_T (kv : Value) (s : DTomb) (w : World) (rk : RV w kv s.key) (hk : s.key.length ≤ 1048576) :
    Calls Try.prog 53 #[.agg #[kv, .int .i64 s.index]] w fun e w' => ∃ k', e = .returned (.agg #[k', .int .i64 s.index]) ∧ Ow w' w.heap.size k' s.key ∧ Below w.heap.size w w' := by
  have hE : ∀ w : World, ∀ o, Ext w (w.alloc o) := fun w o => World.grownBy_alloc _ _ _
  have hrk := rv_rng rk
  go_enter Try.func53, Try.ntmps53
  go_wp2_with fail
  refine (toV kv s.key _ (rk.ext (((hE _ _).tr (hE _ _)).tr (hE _ _))) hk).mono ?_
  rintro e w1 ⟨k1, rfl, o1, b1⟩
  have hs1 : w.heap.size + 3 ≤ w1.heap.size := by have := b1.size; simp at this; omega
  have P3 := below_blk b1 (by simp; omega) (h3_0 w _ _ _)
  have R3 := below_blk b1 (by simp) (h3_1 w _ _ _)
  have T3 := below_blk b1 (by simp) (h3_2 w _ _ _)
  have B3 : Below w.heap.size w w1 := ((((Below.refl _ w).alloc (Nat.le_refl _) _).alloc (by simp) _).alloc (by simp; omega) _).trans (b1.mono (by simp; omega))
  obtain ⟨ka, kc, rfl, _, _, _⟩ := Ow.rv o1 hrk
  have p1 := (at_block P3 1 _ rfl).1
  obtain ⟨q0, g0⟩ := at_block T3 0 _ rfl
  obtain ⟨q1, g1⟩ := at_block T3 1 _ rfl
  obtain ⟨r0, z0⟩ := at_block R3 0 _ rfl
  obtain ⟨r1, z1⟩ := at_block R3 1 _ rfl
  go_wp2
  refine bodyPost_ret (v := .agg #[.slice ka s.key.length kc, .int .i64 s.index]) (by simp [results, Try.results53, go_sem, r0, r1]) rfl ?_
  have GG : ∀ (W : World) (j : Nat) (u : Value), W.grownBy (W.setCell ⟨w.heap.size + 1, j, none⟩ u) (some (w.heap.size + 1)) := fun W j u => set_grown W _ j u
  have GT : ∀ (W : World) (j : Nat) (u : Value), W.grownBy (W.setCell ⟨w.heap.size + 1 + 1, j, none⟩ u) (some (w.heap.size + 1 + 1)) := fun W j u => set_grown W _ j u
  refine ⟨_, rfl, ?_, ?_⟩
  · exact ow_base (ow_row (ow_row (ow_row (ow_row o1 (GT _ _ _) (by simp)) (GT _ _ _) (by simp)) (GG _ _ _) (by simp)) (GG _ _ _) (by simp)) (by simp; omega)
  · exact (((B3.setCell (by simp; omega) _).setCell (by simp; omega) _).setCell (by simp) _).setCell (by simp) _

theorem info_T : (Try.prog.info? 61).map (fun i => (i.zero, i.size, i.bytes)) = some (some (.agg #[.slice none 0 0, .int .i64 0]), 2, 32) := by kernel_rfl

set_option maxHeartbeats 2000000 in
theorem toS_T (v : Value) (ss : List DTomb) (w : World) (h : VTombs w v ss) (hn : ss.length ≤ 1048576) (hlen : ∀ (i : Nat) (s : DTomb), ss[i]? = some s → s.key.length ≤ 1048576) :
    Calls Try.prog 20 #[v] w fun e w' => ∃ F, e = .returned (.slice (some ⟨w.heap.size, 0, none⟩) ss.length ss.length) ∧ Blk w' w.heap.size 61 2 ss.length ss.length F ∧ (∀ i s, ss[i]? = some s → Ow w' (w.heap.size + 1) (F i 0) s.key ∧ F i 1 = .int .i64 s.index) ∧ Below w.heap.size w w' := by
  obtain ⟨C, ⟨a, cap, rfl, h1, h2, h3⟩, hC⟩ := h
  have HC : Hid (∀ i r, ss[i]? = some r → RV w (C i 0) r.key ∧ C i 1 = .int .i64 r.index) := hC
  clear hC
  obtain ⟨n, hnn⟩ : ∃ n, n = ss.length := ⟨_, rfl⟩
  rw [← hnn] at h1 h3 hn ⊢
  have HN : Hid (n = ss.length) := hnn
  clear hnn
  have H3 : Hid (0 < n → ∃ b o, a = some ⟨b, o, none⟩ ∧ b < w.heap.size ∧ ∀ i, i < n → ∀ j, j < 2 → w.cell? ⟨b, o + i * 2 + j, none⟩ = some (C i j)) := h3
  clear h3
  have HLN : Hid (∀ (i : Nat) (s : DTomb), ss[i]? = some s → s.key.length ≤ 1048576) := hlen
  clear hlen
  obtain ⟨i0, hi, hz0, hz1, hz2⟩ := info_parts info_T
  have hml : n ≤ maxLen := by unfold maxLen; omega
  have hml2 : (n : Int) ≤ 1048576 := by omega
  go_enter Try.func20, Try.ntmps20
  go_wp2_with (at_make; refine wpList_make_full _ rfl _ _ 33 rfl w.heap.size 61 i0 (.agg #[.slice none 0 0, .int .i64 0]) 2 Try.underlying33 hi hz0 hz1 _ _ _ _ n rfl rfl rfl rfl ?b1 ?b2 ?b3 ?_)
  case b1 => rw [hz2]; omega
  case b2 => exact hml
  case b3 => exact Nat.le_refl _
  intro w1 hown hgr
  have hb1 : Below w.heap.size w w1 := (Below.refl _ _).grown hgr (Nat.le_refl _) (fun k hk => by cases hk)
  have hbk := blk_made (F := fun _ _ => .bool true) hown
  clear hown hgr
  go_wp2
  go_loopw [4] (fun i wr => ∃ k : Nat, k ≤ n ∧ i = .int .i64 k ∧ Below w.heap.size w wr ∧ ∃ F, Blk wr w.heap.size 61 2 n k F ∧ Hid (∀ i s, i < k → ss[i]? = some s → Ow wr (w.heap.size + 1) (F i 0) s.key ∧ F i 1 = .int .i64 s.index)) (fun i _ => n - (intOf i).toNat)
  case atStart => exact ⟨0, Nat.zero_le _, rfl, hb1, _, hbk, fun i s hi => absurd hi (by omega)⟩
  case round =>
    obtain ⟨k, hk, rfl, hb, F, hF, hall⟩ := hrel
    clear hbk hb1
    by_cases hlt : k < n
    · obtain ⟨b, o, rfl, hbl, hc⟩ := H3.out (by omega)
      obtain ⟨s, hs⟩ : ∃ s, ss[k]? = some s := ⟨_, List.getElem?_eq_getElem (by have := HN.out; omega)⟩
      obtain ⟨e0, e1⟩ := HC.out k s hs
      have c0 := World.grownBy.cell (ext_below hb) (hc k hlt 0 (by omega)) (by simp)
      have c1 := World.grownBy.cell (ext_below hb) (hc k hlt 1 (by omega)) (by simp)
      have r0 := e0.ext (ext_below hb)
      obtain ⟨a0, p0, x0, _, _, _⟩ := e0
      rw [x0] at r0 c0
      rw [Nat.add_zero] at c0
      rw [e1] at c1
      have hlt' : (k : Int) < (n : Int) := by omega
      clear hc
      go_wp2_with fail
      refine (toEl_T _ s wr r0 (HLN.out k s hs)).mono ?_
      rintro e w2 ⟨k', rfl, ok, b2⟩
      obtain ⟨a5, p5, rfl, _, _, _⟩ := Ow.rv ok (rv_rng r0)
      have hF2 := blk_kept hF (b2.block _ (blk_lt hF))
      have hgl := blk_lt hF
      have hb2 := hb.trans (b2.mono hb.size)
      obtain ⟨⟨u0, d0⟩, f0⟩ := blk_cell hF2 (k * 2) (by omega)
      obtain ⟨⟨u1, d1⟩, f1⟩ := blk_cell hF2 (k * 2 + 1) (by omega)
      have G := blk_next (blk_set (blk_set hF2 (k * 2) (by omega) (.slice a5 s.key.length p5)) (k * 2 + 1) (by omega) (.int .i64 s.index)) (fun j => if j = 0 then .slice a5 s.key.length p5 else .int .i64 s.index) (fun j hj => by
        have hj : j = 0 ∨ j = 1 := by omega
        rcases hj with rfl | rfl <;> simp [*, go_sem])
      have HG : Hid (Blk ((w2.setCell ⟨w.heap.size, k * 2, none⟩ (.slice a5 s.key.length p5)).setCell ⟨w.heap.size, k * 2 + 1, none⟩ (.int .i64 s.index)) w.heap.size 61 2 n (k + 1) (fun i j => if i = k then (if j = 0 then .slice a5 s.key.length p5 else .int .i64 s.index) else F i j)) := G
      have HBF : Hid (Below w.heap.size w ((w2.setCell ⟨w.heap.size, k * 2, none⟩ (.slice a5 s.key.length p5)).setCell ⟨w.heap.size, k * 2 + 1, none⟩ (.int .i64 s.index))) := ((hb2.setCell (Nat.le_refl _) _).setCell (Nat.le_refl _) _)
      have HA : Hid (∀ i r, i < k + 1 → ss[i]? = some r → Ow ((w2.setCell ⟨w.heap.size, k * 2, none⟩ (.slice a5 s.key.length p5)).setCell ⟨w.heap.size, k * 2 + 1, none⟩ (.int .i64 s.index)) (w.heap.size + 1) ((fun i j => if i = k then (if j = 0 then .slice a5 s.key.length p5 else .int .i64 s.index) else F i j) i 0) r.key ∧ (fun i j => if i = k then (if j = 0 then .slice a5 s.key.length p5 else .int .i64 s.index) else F i j) i 1 = .int .i64 r.index) := fun i r hi hr => by
        by_cases e : i = k
        · subst e
          rw [hs] at hr
          cases hr
          simp only [if_pos]
          exact ⟨(by simpa using (ow_row (ow_row (ow_base ok (by omega)) (set_grown _ _ _ _) (by omega)) (set_grown _ _ _ _) (by omega))), (by simp)⟩
        · simp only [if_neg e]
          exact ⟨(ow_row (ow_row ((hall.out i r (by omega) hr).1.ext (ext_below b2)) (set_grown _ _ _ _) (by omega)) (set_grown _ _ _ _) (by omega)), (hall.out i r (by omega) hr).2⟩
      clear hb hF hall G hb2 hF2 b2
      go_wp2
      go_roundw
      case rel => exact ⟨k + 1, by omega, by go_num, HBF.out, _, HG.out, HA⟩
      case measure => simp [intOf]; omega
    · have hkn : k = n := by omega
      subst hkn
      go_wp2
      go_ret
      exact ⟨F, rfl, hF, fun i s hs => hall.out i s (by have := (List.getElem?_eq_some_iff.1 hs).1; have := HN.out; omega) hs, hb⟩

end Go.Proofs.Ytknemgmfbmmngaa
