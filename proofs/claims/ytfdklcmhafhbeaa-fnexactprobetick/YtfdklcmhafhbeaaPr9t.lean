/- The specification's ProbeTick. -/
import Derived.Test.YtfdklcmhafhbeaaPr9
namespace Go.Proofs.Ytfdklcmhafhbeaa
open Go.RowKit

set_option maxRecDepth 20000 in
set_option maxHeartbeats 2000000 in
theorem sProbeTickV (v u : Value) (P : DPro) (T : DTab) (w : World) (h : VPro w v P) (k : VTab w u T) (hn : P.order.length ≤ 1048576) (kn : T.mems.length ≤ 1048576) :
    Calls Try.prog 22 #[v, u] w fun e w' => ∃ tv, e = .returned (.tuple #[.agg #[tv, .int .i64 (ptickPD P T).1.next, .int .i64 (ptickPD P T).1.seed, .int .i64 (ptickPD P T).1.state, .int .i64 (ptickPD P T).1.who, .int .i64 (ptickPD P T).1.wait], .int .i64 (ptickPD P T).2.1, .int .i64 (ptickPD P T).2.2]) ∧ OwI w' w.heap.size tv (ptickPD P T).1.order ∧ Below w.heap.size w w' := by
  have hE : ∀ w : World, ∀ o, Ext w (w.alloc o) := fun w o => World.grownBy_alloc _ _ _
  have HT : Hid (VPro w v P) := h
  have HU : Hid (VTab w u T) := k
  have HN : Hid (P.order.length ≤ 1048576 ∧ T.mems.length ≤ 1048576) := ⟨hn, kn⟩
  obtain ⟨ov, rfl, ho⟩ := h
  obtain ⟨a, cap, rfl⟩ := vl_shape ho
  obtain ⟨mv, rfl, hm⟩ := k
  obtain ⟨ma, mc, rfl⟩ := hm.shape
  obtain ⟨R, hR⟩ : ∃ R, R = ptickPD P T := ⟨_, rfl⟩
  rw [← hR]
  have HR : Hid (R = ptickPD P T) := hR
  obtain ⟨n, hnn⟩ : ∃ n, n = P.order.length := ⟨_, rfl⟩
  have HNN : Hid (n = P.order.length) := hnn
  obtain ⟨mn, hmn⟩ : ∃ mn, mn = T.mems.length := ⟨_, rfl⟩
  rw [← hnn] at HT ⊢
  rw [← hmn] at HU ⊢
  clear ho hm hR hnn hmn hn kn
  go_enter Try.func22, Try.ntmps22
  go_wp2_with fail
  generalize hW : World.alloc (World.alloc (World.alloc w _) _) _ = W
  have XW : Ext w W := by rw [← hW]; exact ((hE _ _).tr (hE _ _)).tr (hE _ _)
  have P0 : W.heap[w.heap.size]? = some (.cells #[.slice a n cap, .int .i64 P.next, .int .i64 P.seed, .int .i64 P.state, .int .i64 P.who, .int .i64 P.wait] 30 (0, 0)) := by rw [← hW, Below.heap_alloc _ _ _ (by simp; omega), Below.heap_alloc _ _ _ (by simp)]; exact heap_alloc_new w _
  have P1 : W.heap[w.heap.size + 1]? = some (.cells #[.int .i64 T.self, .slice ma mn mc] 36 (0, 0)) := by rw [← hW, Below.heap_alloc _ _ _ (by simp)]; simpa using heap_alloc_new (World.alloc w _) (.cells #[.int .i64 T.self, .slice ma mn mc] 36 (0, 0))
  have P2 : W.heap[w.heap.size + 1 + 1]? = some (.cells #[.slice none 0 0, .int .i64 0, .int .i64 0, .int .i64 0, .int .i64 0, .int .i64 0] 30 (0, 0)) := by rw [← hW]; simpa using heap_alloc_new (World.alloc (World.alloc w _) _) (.cells #[.slice none 0 0, .int .i64 0, .int .i64 0, .int .i64 0, .int .i64 0, .int .i64 0] 30 (0, 0))
  clear hW
  refine (sProberOkV _ P W (HT.out.ext XW) HN.out.1).mono ?_
  rintro e w1 ⟨rfl, b1⟩
  have X1 : Ext w w1 := XW.tr (ext_below b1)
  have Q0 := ext_blk (ext_below b1) P0
  have Q1 := ext_blk (ext_below b1) P1
  have Q2 := ext_blk (ext_below b1) P2
  clear P0 P1 P2 b1 XW
  obtain ⟨p0, p1, p2, p3, p4, p5⟩ := cells6 Q0
  obtain ⟨u0, u1⟩ := two_cells Q1
  have HZ : Hid (∀ W', Ext w W' → W'.heap[w.heap.size + 1 + 1]? = some (.cells #[.slice none 0 0, .int .i64 0, .int .i64 0, .int .i64 0, .int .i64 0, .int .i64 0] 30 (0, 0)) → ¬ (ProP P ∧ TabP T) → R = (zeroPro, 0, 0)) := fun _ _ _ hno => by rw [HR.out]; exact ptickPD_no hno
  cases t0 : tB (ProP P)
  · have HK : Hid (R = (zeroPro, 0, 0)) := HZ.out w1 X1 Q2 (fun h' => by rw [tB_true h'.1] at t0; cases t0)
    obtain ⟨r0, f0⟩ := at_block Q2 0 _ rfl
    obtain ⟨r1, f1⟩ := at_block Q2 1 _ rfl
    obtain ⟨r2, f2⟩ := at_block Q2 2 _ rfl
    obtain ⟨r3, f3⟩ := at_block Q2 3 _ rfl
    obtain ⟨r4, f4⟩ := at_block Q2 4 _ rfl
    obtain ⟨r5, f5⟩ := at_block Q2 5 _ rfl
    clear t0
    go_wp2
    refine bodyPost_ret (v := .tuple #[.agg #[.slice none 0 0, .int .i64 0, .int .i64 0, .int .i64 0, .int .i64 0, .int .i64 0], .int .i64 0, .int .i64 0]) (by simp [results, Try.results22, go_sem, *]) rfl ?_
    rw [HK.out]
    exact ⟨_, rfl, OwI.nil _ _, pro_below (ext_bel X1) (by omega) _ _ _ _ _ _⟩
  have HPP : Hid (ProP P) := tB_iff.1 t0
  clear t0
  go_wp2_with fail
  refine (sTableOkV _ T w1 (HU.out.ext X1) HN.out.2).mono ?_
  rintro e w2 ⟨rfl, b2⟩
  have X2 : Ext w w2 := X1.tr (ext_below b2)
  have S0 := ext_blk (ext_below b2) Q0
  have S1 := ext_blk (ext_below b2) Q1
  have S2 := ext_blk (ext_below b2) Q2
  clear p0 p1 p2 p3 p4 p5 u0 u1 Q0 Q1 Q2 b2 X1
  obtain ⟨p0, p1, p2, p3, p4, p5⟩ := cells6 S0
  cases t0 : tB (TabP T)
  · have HK : Hid (R = (zeroPro, 0, 0)) := HZ.out w2 X2 S2 (fun h' => by rw [tB_true h'.2] at t0; cases t0)
    obtain ⟨r0, f0⟩ := at_block S2 0 _ rfl
    obtain ⟨r1, f1⟩ := at_block S2 1 _ rfl
    obtain ⟨r2, f2⟩ := at_block S2 2 _ rfl
    obtain ⟨r3, f3⟩ := at_block S2 3 _ rfl
    obtain ⟨r4, f4⟩ := at_block S2 4 _ rfl
    obtain ⟨r5, f5⟩ := at_block S2 5 _ rfl
    clear t0
    go_wp2
    refine bodyPost_ret (v := .tuple #[.agg #[.slice none 0 0, .int .i64 0, .int .i64 0, .int .i64 0, .int .i64 0, .int .i64 0], .int .i64 0, .int .i64 0]) (by simp [results, Try.results22, go_sem, *]) rfl ?_
    rw [HK.out]
    exact ⟨_, rfl, OwI.nil _ _, pro_below (ext_bel X2) (by omega) _ _ _ _ _ _⟩
  have HK : Hid (R = tickPD (othersD T) P) := by show _ = _; rw [HR.out]; exact ptickPD_yes ⟨HPP.out, tB_iff.1 t0⟩
  clear t0 HZ
  go_wp2_with fail
  refine (sOwnPV _ P w2 (HT.out.ext X2) HN.out.1).mono ?_
  rintro e w3 ⟨tv3, rfl, o3, b3⟩
  obtain ⟨a3, c3, hv3⟩ := o3.shape
  rw [← HNN.out] at hv3
  subst hv3
  have X3 : Ext w w3 := X2.tr (ext_below b3)
  have T1 := ext_blk (ext_below b3) S1
  have T2 := ext_blk (ext_below b3) S2
  have s3 := b3.size
  have sT := (Array.getElem?_eq_some_iff.1 S2).1
  have HO3 : Hid (OwI w3 w2.heap.size (.slice a3 n c3) P.order) := o3
  have s2 := X2.size
  clear p0 p1 p2 p3 p4 p5 S0 S1 S2 b3 o3
  obtain ⟨u0, u1⟩ := two_cells T1
  have ku0 := fun o => World.grownBy.cell (World.grownBy_alloc w3 o none) u0 (by simp)
  have ku1 := fun o => World.grownBy.cell (World.grownBy_alloc w3 o none) u1 (by simp)
  go_wp2_with fail
  clear ku0 ku1
  generalize hU : w3.alloc _ = U
  have XU : Ext w3 U := by rw [← hU]; exact hE _ _
  have PU : U.heap[w3.heap.size]? = some (.cells #[.slice a3 n c3, .int .i64 P.next, .int .i64 P.seed, .int .i64 P.state, .int .i64 P.who, .int .i64 P.wait] 30 (0, 0)) := by rw [← hU]; exact heap_alloc_new w3 _
  clear hU
  refine (sTickV w3.heap.size w2.heap.size P _ _ T U PU (HO3.out.ext XU) HPP.out.w HPP.out.2.2.2.2.1.1 HPP.out.2.2.2.2.1.2 (HU.out.ext (X3.tr XU)) HN.out.2 s3 (Nat.le_trans s3 XU.size)).mono ?_
  rintro e w4 ⟨rfl, qv, S4⟩
  rw [← HK.out] at S4 ⊢
  have hUS := XU.size
  have Q4 : w4.heap[w.heap.size + 1 + 1]? = some (.cells #[.slice none 0 0, .int .i64 0, .int .i64 0, .int .i64 0, .int .i64 0, .int .i64 0] 30 (0, 0)) := (S4.low.block _ (by omega)).trans (ext_blk XU T2)
  have HB4 : Hid (Below w.heap.size w w4) := (ext_bel (X3.tr XU)).trans (S4.low.mono s2)
  have HO4 : Hid (OwI w4 w2.heap.size qv R.1.order) := S4.own
  obtain ⟨qa, qc, hqv⟩ := S4.own.shape
  obtain ⟨ql, hql⟩ : ∃ ql, ql = R.1.order.length := ⟨_, rfl⟩
  rw [← hql] at hqv
  subst hqv
  have NB : (Value.slice qa ql qc).ownBlock = none ∨ (Value.slice qa ql qc).ownBlock ≠ some (w.heap.size + 1 + 1) := by
    cases hv : (Value.slice qa ql qc).ownBlock with
    | none => exact .inl rfl
    | some k => exact .inr (by have := (HO4.out.lt k hv).1; simp; omega)
  obtain ⟨p0, p1, p2, p3, p4, p5⟩ := cells6 S4.box
  obtain ⟨r0, f0⟩ := at_block Q4 0 _ rfl
  obtain ⟨r1, f1⟩ := at_block Q4 1 _ rfl
  obtain ⟨r2, f2⟩ := at_block Q4 2 _ rfl
  obtain ⟨r3, f3⟩ := at_block Q4 3 _ rfl
  obtain ⟨r4, f4⟩ := at_block Q4 4 _ rfl
  obtain ⟨r5, f5⟩ := at_block Q4 5 _ rfl
  obtain ⟨⟨ro, rn, rs, rt, rw', ra⟩, rwh, rid⟩ := R
  simp only at p1 p2 p3 p4 p5 HO4 ⊢
  clear S4 PU XU Q4 T1 T2 X3 X2 hql hUS u0 u1
  go_wp2
  refine bodyPost_ret (v := .tuple #[.agg #[.slice qa ql qc, .int .i64 rn, .int .i64 rs, .int .i64 rt, .int .i64 rw', .int .i64 ra], .int .i64 rwh, .int .i64 rid]) (by simp [results, Try.results22, go_sem, *]) rfl ?_
  exact ⟨_, rfl, (pro_own HO4.out NB _ _ _ _ _ _).base s2, pro_below HB4.out (by omega) _ _ _ _ _ _⟩

end Go.Proofs.Ytfdklcmhafhbeaa
