/- The specification's Heard. -/
import Derived.Test.YtbphmgcfbjiadaaHd1
import Derived.Test.YtbphmgcfbjiadaaMs3
namespace Go.Proofs.Ytbphmgcfbjiadaa
open Go.RowKit

set_option maxRecDepth 20000 in
set_option maxHeartbeats 4000000 in
theorem sHeardV (v : Value) (T : DTab) (m : DMem) (w : World) (h : VTab w v T) (hn : T.mems.length ≤ 1048576) :
    Calls Try.prog 6 #[v, .agg #[.int .i64 m.id, .int .i64 m.st, .int .i64 m.life]] w fun e w' => ∃ tv, e = .returned (.tuple #[.agg #[.int .i64 (heardD T m).1.self, tv], .bool (heardD T m).2]) ∧ OwMem w' w.heap.size tv (heardD T m).1.mems ∧ Below w.heap.size w w' := by
  have hE : ∀ w : World, ∀ o, Ext w (w.alloc o) := fun w o => World.grownBy_alloc _ _ _
  have HT : Hid (VTab w v T) := h
  have HN : Hid (T.mems.length ≤ 1048576) := hn
  obtain ⟨tv, rfl, h⟩ := h
  obtain ⟨a, cap, rfl⟩ := h.shape
  obtain ⟨R, hR⟩ : ∃ R, R = heardD T m := ⟨_, rfl⟩
  rw [← hR]
  have HR : Hid (R = heardD T m) := hR
  obtain ⟨n, hnn⟩ : ∃ n, n = T.mems.length := ⟨_, rfl⟩
  have HNN : Hid (n = T.mems.length) := hnn
  rw [← hnn] at HT ⊢
  clear h hR hnn hn
  go_enter Try.func6, Try.ntmps6
  go_wp2_with fail
  generalize hW : World.alloc (World.alloc (World.alloc w _) _) _ = W
  have PA : W.heap[w.heap.size]? = some (.cells #[.int .i64 T.self, .slice a n cap] 30 (0, 0)) := by rw [← hW]; exact al3_0 w _ _ _
  have PM : W.heap[w.heap.size + 1]? = some (.cells #[.int .i64 m.id, .int .i64 m.st, .int .i64 m.life] 34 (0, 0)) := by rw [← hW]; exact al3_1 w _ _ _
  have PR : W.heap[w.heap.size + 1 + 1]? = some (.cells #[.int .i64 0, .slice none 0 0] 30 (0, 0)) := by rw [← hW]; exact al3_2 w _ _ _
  have BW : Below w.heap.size w W := by rw [← hW]; exact (((Below.refl _ w).alloc (Nat.le_refl _) _).alloc (by simp) _).alloc (by simp; omega) _
  clear hW
  refine (sTableOkV _ T W (HT.out.ext (ext_below BW)) HN.out).mono ?_
  rintro e w1 ⟨rfl, b1⟩
  have B1 := BW.trans (b1.mono BW.size)
  have PA1 := below_blk b1 (Array.getElem?_eq_some_iff.1 PA).1 PA
  have PM1 := below_blk b1 (Array.getElem?_eq_some_iff.1 PM).1 PM
  have PR1 := below_blk b1 (Array.getElem?_eq_some_iff.1 PR).1 PR
  clear PA PM PR BW b1
  obtain ⟨q0, q1⟩ := cells2 PA1
  obtain ⟨m0, m1, m2⟩ := cells3 PM1
  cases t0 : tB (TabP T)
  · have HK : Hid (R = (⟨0, []⟩, false)) := by show _ = _; rw [HR.out]; exact heardD_no (fun h' => by rw [tB_true h'] at t0; cases t0)
    obtain ⟨r0, f0⟩ := at_block PR1 0 _ rfl
    obtain ⟨r1, f1⟩ := at_block PR1 1 _ rfl
    clear t0
    go_wp2
    refine bodyPost_ret (v := .tuple #[.agg #[.int .i64 0, .slice none 0 0], .bool false]) (by simp [results, Try.results6, go_sem, *]) rfl ?_
    rw [HK.out]
    exact ⟨_, rfl, OwMem.nil _ _, (B1.setCell (by simp <;> omega) _).setCell (by simp <;> omega) _⟩
  have hp : TabP T := tB_iff.1 t0
  have HTP : Hid (TabP T) := hp
  have h0 : 0 < T.mems.length := tab_pos hp
  clear t0 hp
  go_wp2_with fail
  refine (sMemberOkV m w1).mono ?_
  rintro e w2 ⟨rfl, b2⟩
  have B2 := B1.trans (b2.mono B1.size)
  have PA2 := below_blk b2 (Array.getElem?_eq_some_iff.1 PA1).1 PA1
  have PM2 := below_blk b2 (Array.getElem?_eq_some_iff.1 PM1).1 PM1
  have PR2 := below_blk b2 (Array.getElem?_eq_some_iff.1 PR1).1 PR1
  clear PA1 PM1 PR1 b2 q0 q1 m0 m1 m2
  obtain ⟨q0, q1⟩ := cells2 PA2
  cases hm : memB m
  · have HK : Hid (R = (⟨0, []⟩, false)) := by show _ = _; rw [HR.out]; exact heardD_bad hm
    obtain ⟨r0, f0⟩ := at_block PR2 0 _ rfl
    obtain ⟨r1, f1⟩ := at_block PR2 1 _ rfl
    clear hm
    go_wp2
    refine bodyPost_ret (v := .tuple #[.agg #[.int .i64 0, .slice none 0 0], .bool false]) (by simp [results, Try.results6, go_sem, *]) rfl ?_
    rw [HK.out]
    exact ⟨_, rfl, OwMem.nil _ _, (B2.setCell (by simp <;> omega) _).setCell (by simp <;> omega) _⟩
  have HMB : Hid (memB m = true) := hm
  have HK : Hid (R = sayD T m) := by show _ = _; rw [HR.out]; exact heardD_yes HTP.out hm
  clear hm
  go_wp2_with fail
  refine (sOwnTV _ T w2 (HT.out.ext (ext_below B2)) HN.out).mono ?_
  rintro e w3 ⟨tv3, rfl, o3, b3⟩
  obtain ⟨g, c3, rfl, hg, hc, hcm⟩ := o3.at h0
  rw [← HNN.out] at o3 hc ⊢
  have B3 := B2.trans (b3.mono B2.size)
  have PM3 := below_blk b3 (Array.getElem?_eq_some_iff.1 PM2).1 PM2
  have PR3 := below_blk b3 (Array.getElem?_eq_some_iff.1 PR2).1 PR2
  have sR := (Array.getElem?_eq_some_iff.1 PR2).1
  have sg := (o3.lt g (by simp [Value.ownBlock])).2
  have HO3 : Hid (OwMem w3 w2.heap.size (.slice (some ⟨g, 0, none⟩) n c3) T.mems) := o3
  have HCM : Hid (c3 ≤ maxLen) := hcm
  have s3 := b3.size
  clear PA2 PM2 PR2 b3 q0 q1 o3 hcm
  obtain ⟨m0, m1, m2⟩ := cells3 PM3
  have km0 := fun o => World.grownBy.cell (World.grownBy_alloc w3 o none) m0 (by simp)
  have km1 := fun o => World.grownBy.cell (World.grownBy_alloc w3 o none) m1 (by simp)
  have km2 := fun o => World.grownBy.cell (World.grownBy_alloc w3 o none) m2 (by simp)
  go_wp2_with fail
  clear km0 km1 km2
  generalize hU : World.alloc w3 _ = U
  have XU : Ext w3 U := by rw [← hU]; exact hE _ _
  have PU : U.heap[w3.heap.size]? = some (.cells #[.int .i64 T.self, .slice (some ⟨g, 0, none⟩) n c3] 30 (0, 0)) := by rw [← hU]; exact heap_alloc_new w3 _
  have sU : U.heap.size = w3.heap.size + 1 := by rw [← hU]; simp
  clear hU
  refine (sSayV w3.heap.size w2.heap.size g c3 n T m U PU (HO3.out.ext XU) HNN.out HTP.out HMB.out (by omega) (by omega) hc HCM.out).mono ?_
  rintro e w4 ⟨rfl, tv4, PU4, o4, S4⟩
  rw [← HK.out] at o4 ⊢
  have PR4 := S4.blk (by omega) (by omega) (ext_blk XU PR3)
  have B4 : Below w.heap.size w w4 := (B3.trans ((ext_bel XU).mono B3.size)).trans (S4.below (by have := B3.size; omega) (by have := B2.size; omega) (by have := B2.size; omega))
  obtain ⟨ra, rc, hrv⟩ := o4.v.shape
  obtain ⟨l, hl⟩ : ∃ l, l = R.1.mems.length := ⟨_, rfl⟩
  rw [← hl] at hrv
  subst hrv
  have HO4 : Hid (OwMem w4 w2.heap.size (.slice ra l rc) R.1.mems) := o4
  have nR : (Value.slice ra l rc).ownBlock = none ∨ (Value.slice ra l rc).ownBlock ≠ some (w.heap.size + 1 + 1) := by
    cases hv : (Value.slice ra l rc).ownBlock with
    | none => exact .inl rfl
    | some k => exact .inr (by have := (o4.lt k hv).1; simp; omega)
  have hs2 : w.heap.size ≤ w2.heap.size := B2.size
  have HSF : Hid (R.1.self = T.self) := by show _ = _; rw [HK.out]; exact sayD_self T m
  clear PM3 PR3 m0 m1 m2 PU XU S4 o4 hl B3 HO3
  obtain ⟨u0, u1⟩ := cells2 PU4
  obtain ⟨r0, f0⟩ := at_block PR4 0 _ rfl
  obtain ⟨r1, f1⟩ := at_block PR4 1 _ rfl
  go_wp2
  refine bodyPost_ret (v := .tuple #[.agg #[.int .i64 T.self, .slice ra l rc], .bool R.2]) (by simp [results, Try.results6, go_sem, *]) rfl ?_
  rw [HSF.out]
  exact ⟨_, rfl, OwMem.base ((HO4.out.keep (set_grown _ _ _ _) nR).keep (set_grown _ _ _ _) nR) hs2, (B4.setCell (by simp <;> omega) _).setCell (by simp <;> omega) _⟩

end Go.Proofs.Ytbphmgcfbjiadaa
