
/- Marks of duties. -/
import Derived.Test.YtnklnhnjmikooaaGreatDy0
import Derived.Test.YtnklnhnjmikooaaGreatWh3
import Derived.Test.YtnklnhnjmikooaaGreatHpL
import Derived.Test.YtnklnhnjmikooaaGreatElG
namespace Go.Proofs.YtnklnhnjmikooaaGreat
open Go.RowKit

set_option maxHeartbeats 1000000 in
theorem szD (v : Value) (D : DDuty) (l : Int) (w : World) (h : VDuty w v D) (hl0 : 0 ≤ l) (hl : l ≤ 1048576) :
    Calls Tryz.prog 5 #[v, .int .i64 l] w (SzPost l D.wh.tms.length w) := by
  have hE : ∀ w : World, ∀ o, Ext w (w.alloc o) := fun w o => World.grownBy_alloc _ _ _
  have hB : ∀ w : World, ∀ o, Below w.heap.size w (w.alloc o) := fun w o => (Below.refl _ w).alloc (Nat.le_refl _) _
  obtain ⟨tv, rfl, ht⟩ := h
  obtain ⟨m, hm⟩ : ∃ m, m = D.wh.tms.length := ⟨_, rfl⟩
  have HM : Hid (m = D.wh.tms.length) := hm
  rw [← hm]
  clear hm
  go_enter Tryz.func5, Tryz.ntmps5
  go_wp2_with fail
  refine (szW _ D.wh l _ ⟨tv, rfl, ht.ext (hE _ _)⟩ (by omega) (by omega)).mono ?_
  rintro e w1 ⟨r, rfl, hr, b1⟩
  rw [← HM.out] at hr
  have B1 := (hB w _).trans (b1.mono (by simp))
  rcases hr with ⟨g1, rfl⟩ | ⟨g1, g2⟩
  · go_wp2
    go_ret
    exact ⟨-1, rfl, .inl ⟨g1, rfl⟩, B1⟩
  · have hr0 : 0 ≤ r := by omega
    have HR : Hid (r = l - m) := g2
    clear g2 g1
    go_wp2
    go_ret
    exact ⟨r, rfl, .inr ⟨by have := HR.out; omega, HR.out⟩, B1⟩

set_option maxHeartbeats 1000000 in
theorem toD (v : Value) (D : DDuty) (w : World) (h : VDuty w v D) (hn : D.wh.tms.length ≤ 1048576) :
    Calls Tryz.prog 8 #[v] w fun e w' => ∃ g, e = .returned (.agg #[.int .i64 D.ttl, .int .i64 D.wh.now, .slice (some ⟨g, 0, none⟩) D.wh.tms.length D.wh.tms.length]) ∧ w.heap.size ≤ g ∧ OTims w' g D.wh.tms ∧ Below w.heap.size w w' := by
  obtain ⟨tv, rfl, ht⟩ := h
  obtain ⟨n, hnn⟩ : ∃ n, n = D.wh.tms.length := ⟨_, rfl⟩
  have HN : Hid (n = D.wh.tms.length) := hnn
  rw [← hnn] at hn ⊢
  clear hnn
  go_enter Tryz.func8, Tryz.ntmps8
  go_wp2_with fail
  generalize hV : World.alloc (World.alloc (World.alloc w _) _) _ = V
  have HB0 : Below w.heap.size w V := by
    rw [← hV]
    exact (((Below.refl _ w).alloc (Nat.le_refl _) _).alloc (by simp) _).alloc (by simp; omega) _
  have hq0 : V.cell? ⟨w.heap.size + 1 + 1, 0, none⟩ = some (.int .i64 D.ttl) := by rw [← hV]; simp [go_sem]
  have hq1 : V.cell? ⟨w.heap.size + 1 + 1, 1, none⟩ = some (.int .i64 0) := by rw [← hV]; simp [go_sem]
  have hq2 : V.cell? ⟨w.heap.size + 1 + 1, 2, none⟩ = some (.slice none 0 0) := by rw [← hV]; simp [go_sem]
  have hf1 : V.frozen? ⟨w.heap.size + 1 + 1, 1, none⟩ = false := by rw [← hV]; simp [go_sem]
  have hf2 : V.frozen? ⟨w.heap.size + 1 + 1, 2, none⟩ = false := by rw [← hV]; simp [go_sem]
  have hr0 : V.cell? ⟨w.heap.size + 1, 0, none⟩ = some (.int .i64 0) := by rw [← hV]; simp [go_sem]
  have hr1 : V.cell? ⟨w.heap.size + 1, 1, none⟩ = some (.int .i64 0) := by rw [← hV]; simp [go_sem]
  have hr2 : V.cell? ⟨w.heap.size + 1, 2, none⟩ = some (.slice none 0 0) := by rw [← hV]; simp [go_sem]
  have hs0 : V.frozen? ⟨w.heap.size + 1, 0, none⟩ = false := by rw [← hV]; simp [go_sem]
  have hs1 : V.frozen? ⟨w.heap.size + 1, 1, none⟩ = false := by rw [← hV]; simp [go_sem]
  have hs2 : V.frozen? ⟨w.heap.size + 1, 2, none⟩ = false := by rw [← hV]; simp [go_sem]
  have hsz : V.heap.size = w.heap.size + 3 := by rw [← hV]; simp [go_sem]
  clear hV
  refine (toW _ D.wh V ⟨tv, rfl, ht.ext (ext_below HB0)⟩ (by rw [← HN.out]; exact hn)).mono ?_
  rintro e w1 ⟨g, rfl, hg, o1, b1⟩
  rw [← HN.out]
  have HO : Hid (OTims w1 g D.wh.tms) := o1
  have B1 := HB0.trans (b1.mono (by omega))
  obtain ⟨hc, hf⟩ : (∀ b o, b < V.heap.size → w1.cell? ⟨b, o, none⟩ = V.cell? ⟨b, o, none⟩) ∧ (∀ b o, b < V.heap.size → w1.frozen? ⟨b, o, none⟩ = V.frozen? ⟨b, o, none⟩) := ⟨fun b o h => b1.cell (p := ⟨b, o, none⟩) h, fun b o h => b1.frozen (p := ⟨b, o, none⟩) h⟩
  have q0 := (hc _ _ (by omega)).trans hq0
  have q1 := (hc _ _ (by omega)).trans hq1
  have q2 := (hc _ _ (by omega)).trans hq2
  have f1 := (hf _ _ (by omega)).trans hf1
  have f2 := (hf _ _ (by omega)).trans hf2
  have r0 := (hc _ _ (by omega)).trans hr0
  have r1 := (hc _ _ (by omega)).trans hr1
  have r2 := (hc _ _ (by omega)).trans hr2
  have s0 := (hf _ _ (by omega)).trans hs0
  have s1 := (hf _ _ (by omega)).trans hs1
  have s2 := (hf _ _ (by omega)).trans hs2
  clear hc hf hq0 hq1 hq2 hf1 hf2 hr0 hr1 hr2 hs0 hs1 hs2 o1
  have HG : Hid (V.heap.size ≤ g) := hg
  have Hsz : Hid (V.heap.size = w.heap.size + 3) := hsz
  have hgt : w.heap.size + 2 < g := by omega
  have HSZ : Hid (w.heap.size ≤ g) := by show _ ≤ _; omega
  have HB1 : Hid (Below w.heap.size w w1) := B1
  clear hsz b1 HB0 B1 hg
  go_wp2
  refine bodyPost_ret (v := .agg #[.int .i64 D.ttl, .int .i64 D.wh.now, .slice (some ⟨g, 0, none⟩) n n]) (by simp [results, Tryz.results8, go_sem, *]) rfl ?_
  refine ⟨g, rfl, HSZ.out, ?_, ?_⟩
  · refine (((((HO.out.grown (set_grown _ _ _ _) ?_).grown (set_grown _ _ _ _) ?_).grown (set_grown _ _ _ _) ?_).grown (set_grown _ _ _ _) ?_).grown (set_grown _ _ _ _) ?_)
    all_goals simp; omega
  · exact ((((HB1.out.setCell (by simp <;> omega) _).setCell (by simp <;> omega) _).setCell (by simp <;> omega) _).setCell (by simp <;> omega) _).setCell (by simp <;> omega) _

set_option maxHeartbeats 1000000 in
theorem eqD (v u : Value) (D : DDuty) (w : World) (h : VDuty w v D) (k : VDuty w u D) (hn : D.wh.tms.length ≤ 1048576) :
    Calls Tryz.prog 11 #[v, u] w fun e w' => e = .returned (.bool true) ∧ Below w.heap.size w w' := by
  obtain ⟨tv, rfl, ht⟩ := h
  obtain ⟨uv, rfl, hu⟩ := k
  have EE : ∀ o o', Ext w ((w.alloc o).alloc o') := fun o o' => (World.grownBy_alloc _ _ _).trans (World.grownBy_alloc _ _ _)
  go_enter Tryz.func11, Tryz.ntmps11
  go_wp2_with fail
  refine (eqW _ _ D.wh _ ⟨tv, rfl, ht.ext (EE _ _)⟩ ⟨uv, rfl, hu.ext (EE _ _)⟩ hn).mono ?_
  rintro e w1 ⟨rfl, b1⟩
  go_wp2
  go_ret
  exact ⟨rfl, (((Below.refl _ w).alloc (Nat.le_refl _) _).alloc (by simp) _).trans (b1.mono (by simp; omega))⟩

end Go.Proofs.YtnklnhnjmikooaaGreat

namespace Go.Proofs.YtnklnhnjmikooaaGreat
open Go.RowKit

set_option maxHeartbeats 1000000 in
theorem markDu (base : Nat) (ttl now : Int) (v : Value) (ts : List DTim) (k : Int) (w : World) (h : OwT w base v ts) (hn : ts.length ≤ 1048576) (hk0 : 0 ≤ k) (hk1 : k ≤ 100000) :
    Calls Tryz.prog 13 #[.agg #[.int .i64 ttl, .int .i64 now, v], .int .i64 k] w fun e w' => e = .returned (.int .i64 (k + 2 * ts.length)) ∧ OwT w' base v (mkT k ts.length) ∧ w.grownBy w' v.ownBlock := by
  obtain ⟨a, c, rfl⟩ := h.v.shape
  have HO : Hid (OwT w base (.slice a ts.length c) ts) := h
  have HN : Hid (ts.length ≤ 1048576) := hn
  obtain ⟨n, hnn⟩ : ∃ n, n = ts.length := ⟨_, rfl⟩
  rw [← hnn] at HO HN ⊢
  have HNN : Hid (n = ts.length) := hnn
  clear h hn hnn
  go_enter Tryz.func13, Tryz.ntmps13
  go_wp2_with fail
  refine (markWh base now _ ts k _ (HO.out.alloc _) (by rw [← HNN.out]; exact HN.out) hk0 hk1).mono ?_
  rintro e w1 ⟨rfl, o1, g1⟩
  rw [← HNN.out] at o1 ⊢
  go_wp2
  go_ret
  exact ⟨rfl, o1, (World.grownBy_alloc _ _ _).trans g1⟩

set_option maxHeartbeats 1000000 in
theorem heldDu (base : Nat) (ttl now : Int) (v : Value) (n : Nat) (k : Int) (w : World) (h : OwT w base v (mkT k n)) (hn : n ≤ 1048576) (hk0 : 0 ≤ k) (hk1 : k ≤ 100000) :
    Calls Tryz.prog 15 #[.agg #[.int .i64 ttl, .int .i64 now, v], .int .i64 k] w fun e w' => e = .returned (.int .i64 (k + 2 * n)) ∧ Below w.heap.size w w' := by
  obtain ⟨a, c, rfl⟩ := h.v.shape
  rw [mkT_len] at h ⊢
  have HO : Hid (OwT w base (.slice a n c) (mkT k n)) := h
  have HN : Hid (n ≤ 1048576) := hn
  have hn1 : (n : Int) ≤ 1048576 := by omega
  clear h
  go_enter Tryz.func15, Tryz.ntmps15
  go_wp2_with fail
  refine (heldW base now _ n k _ (HO.out.alloc _) HN.out hk0 hk1).mono ?_
  rintro e w1 ⟨rfl, b1⟩
  have h0 : ¬ (k + 2 * (n : Int) < 0) := by omega
  go_wp2
  go_ret
  exact ⟨rfl, ((Below.refl _ w).alloc (Nat.le_refl _) _).trans (b1.mono (by simp))⟩

theorem bx3 {w : World} {g : Nat} {v0 v1 v2 : Value} {t : TypeId} (h : w.heap[g]? = some (.cells #[v0, v1, v2] t (0, 0))) : w.cell? ⟨g, 0, none⟩ = some v0 ∧ w.cell? ⟨g, 1, none⟩ = some v1 ∧ w.cell? ⟨g, 2, none⟩ = some v2 := ⟨(at_block h 0 _ rfl).1, (at_block h 1 _ rfl).1, (at_block h 2 _ rfl).1⟩

end Go.Proofs.YtnklnhnjmikooaaGreat

