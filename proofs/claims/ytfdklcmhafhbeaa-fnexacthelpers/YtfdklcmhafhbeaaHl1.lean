/- The specification's Helpers. -/
import Derived.Test.YtfdklcmhafhbeaaHl0
import Derived.Test.YtfdklcmhafhbeaaStI
import Derived.Test.YtfdklcmhafhbeaaLPr
import Derived.Deep.RegionHeld3
namespace Go.Proofs.Ytfdklcmhafhbeaa
open Go.RowKit

/-- What Helpers tells. -/
def helpPD (P : DPro) (T : DTab) (kk : Int) (h : Decidable ((ProP P ∧ TabP T) ∧ (0 ≤ kk ∧ kk ≤ 3)) := Classical.propDecidable _) (k : Decidable (TabP T) := Classical.propDecidable (TabP T)) : DPro × List Int := @ite _ ((ProP P ∧ TabP T) ∧ (0 ≤ kk ∧ kk ≤ 3)) h (⟨P.order, P.next, (helpS T P k).2, P.state, P.who, P.wait⟩, (helpS T P k).1.take kk.toNat) (zeroPro, [])
theorem helpPD_no {P : DPro} {T : DTab} {kk : Int} (h : ¬ ((ProP P ∧ TabP T) ∧ (0 ≤ kk ∧ kk ≤ 3))) : helpPD P T kk = (zeroPro, []) := by unfold helpPD; exact if_neg h
theorem helpPD_yes {P : DPro} {T : DTab} {kk : Int} (h : (ProP P ∧ TabP T) ∧ (0 ≤ kk ∧ kk ≤ 3)) : helpPD P T kk = (⟨P.order, P.next, (helpS T P).2, P.state, P.who, P.wait⟩, (helpS T P).1.take kk.toNat) := by unfold helpPD; exact if_pos h

/-- While Helpers lays its answer: the prober's box, the answer's box, the order's row. -/
def HlS (w : World) (gt r base : Nat) (bx rx : Array Value) (ov : Value) (os : List Int) (X : World) : Prop := X.heap[gt]? = some (.cells bx 30 (0, 0)) ∧ X.heap[r]? = some (.cells rx 30 (0, 0)) ∧ OwI X base ov os ∧ Below w.heap.size w X
theorem nb_of {X : World} {base r : Nat} {v : Value} {xs : List Int} (o : OwI X base v xs) (h : r < base) : v.ownBlock = none ∨ v.ownBlock ≠ some r := by
  cases hv : v.ownBlock with
  | none => exact .inl rfl
  | some k => exact .inr (by have := (o.lt k hv).1; simp; omega)
section
variable {w X Y : World} {gt r base : Nat} {bx rx : Array Value} {ov : Value} {os : List Int}
theorem HlS.nb (h : HlS w gt r base bx rx ov os X) (hb : r < base) : ov.ownBlock = none ∨ ov.ownBlock ≠ some r := nb_of h.2.2.1 hb
theorem HlS.ext (h : HlS w gt r base bx rx ov os X) (e : Ext X Y) : HlS w gt r base bx rx ov os Y := ⟨ext_blk e h.1, ext_blk e h.2.1, h.2.2.1.ext e, h.2.2.2.trans ((ext_bel e).mono h.2.2.2.size)⟩
theorem HlS.store {c0 c1 c2 c3 c4 c5 : Value} (h : HlS w gt r base bx #[c0, c1, c2, c3, c4, c5] ov os X) (hne : r ≠ gt) (hb : r < base) (hw : w.heap.size ≤ r) (v0 v1 v2 v3 v4 v5 : Value) : HlS w gt r base bx #[v0, v1, v2, v3, v4, v5] ov os ((((((X.setCell ⟨r, 0, none⟩ v0).setCell ⟨r, 1, none⟩ v1).setCell ⟨r, 2, none⟩ v2).setCell ⟨r, 3, none⟩ v3).setCell ⟨r, 4, none⟩ v4).setCell ⟨r, 5, none⟩ v5) :=
  ⟨set_other _ _ _ (Ne.symm hne) (set_other _ _ _ (Ne.symm hne) (set_other _ _ _ (Ne.symm hne) (set_other _ _ _ (Ne.symm hne) (set_other _ _ _ (Ne.symm hne) (set_other _ _ _ (Ne.symm hne) h.1))))), pro_set h.2.1 _ _ _ _ _ _, pro_own h.2.2.1 (h.nb hb) _ _ _ _ _ _, pro_below h.2.2.2 hw _ _ _ _ _ _⟩
theorem HlS.app {g n c M : Nat} (h : HlS w gt r base bx rx ov os X) (e : X.grownBy Y (Value.slice (some ⟨g, 0, none⟩) n c).ownBlock) (hM : M ≤ g) (hl : ∀ k, ov.ownBlock = some k → k < M) (hr : r < base) (hw : w.heap.size ≤ base) (hb : base ≤ M) (hg : gt < M) : HlS w gt r base bx rx ov os Y := by
  refine ⟨(e.block gt (Array.getElem?_eq_some_iff.1 h.1).1 (by simp [Value.ownBlock]; omega)).trans h.1, (e.block r (Array.getElem?_eq_some_iff.1 h.2.1).1 (by simp [Value.ownBlock]; omega)).trans h.2.1, h.2.2.1.keep e ?_, h.2.2.2.grown e h.2.2.2.size (fun k hk => by simp [Value.ownBlock] at hk; omega)⟩
  cases hv : ov.ownBlock with
  | none => exact .inl rfl
  | some k => exact .inr (by have := hl k hv; simp [Value.ownBlock]; omega)
end

set_option maxRecDepth 20000 in
set_option maxHeartbeats 4000000 in
theorem sHelpersV (v u : Value) (P : DPro) (T : DTab) (kk : Int) (w : World) (h : VPro w v P) (k : VTab w u T) (hn : P.order.length ≤ 1048576) (kn : T.mems.length ≤ 1048576) :
    Calls Try.prog 17 #[v, u, .int .i64 kk] w fun e w' => ∃ tv lv mid, e = .returned (.tuple #[.agg #[tv, .int .i64 (helpPD P T kk).1.next, .int .i64 (helpPD P T kk).1.seed, .int .i64 (helpPD P T kk).1.state, .int .i64 (helpPD P T kk).1.who, .int .i64 (helpPD P T kk).1.wait], lv]) ∧ OwI w' w.heap.size tv (helpPD P T kk).1.order ∧ OwI w' mid lv (helpPD P T kk).2 ∧ w.heap.size ≤ mid ∧ (∀ k, tv.ownBlock = some k → k < mid) ∧ Below w.heap.size w w' := by
  have hE : ∀ w : World, ∀ o, Ext w (w.alloc o) := fun w o => World.grownBy_alloc _ _ _
  have HT : Hid (VPro w v P) := h
  have HU : Hid (VTab w u T) := k
  have HN : Hid (P.order.length ≤ 1048576 ∧ T.mems.length ≤ 1048576) := ⟨hn, kn⟩
  obtain ⟨ov, rfl, ho⟩ := h
  obtain ⟨a, cap, rfl⟩ := vl_shape ho
  obtain ⟨mv, rfl, hm⟩ := k
  obtain ⟨ma, mc, rfl⟩ := hm.shape
  obtain ⟨R, hR⟩ : ∃ R, R = helpPD P T kk := ⟨_, rfl⟩
  rw [← hR]
  have HR : Hid (R = helpPD P T kk) := hR
  obtain ⟨n, hnn⟩ : ∃ n, n = P.order.length := ⟨_, rfl⟩
  have HNN : Hid (n = P.order.length) := hnn
  obtain ⟨mn, hmn⟩ : ∃ mn, mn = T.mems.length := ⟨_, rfl⟩
  rw [← hnn] at HT ⊢
  rw [← hmn] at HU ⊢
  clear ho hm hR hnn hmn hn kn
  go_enter Try.func17, Try.ntmps17
  go_wp2_with fail
  generalize hW : World.alloc (World.alloc (World.alloc w _) _) _ = W
  have XW : Ext w W := by rw [← hW]; exact ((hE _ _).tr (hE _ _)).tr (hE _ _)
  have P0 : W.heap[w.heap.size]? = some (.cells #[.slice a n cap, .int .i64 P.next, .int .i64 P.seed, .int .i64 P.state, .int .i64 P.who, .int .i64 P.wait] 30 (0, 0)) := by rw [← hW, Below.heap_alloc _ _ _ (by simp; omega), Below.heap_alloc _ _ _ (by simp)]; exact heap_alloc_new w _
  have P1 : W.heap[w.heap.size + 1]? = some (.cells #[.int .i64 T.self, .slice ma mn mc] 36 (0, 0)) := by rw [← hW, Below.heap_alloc _ _ _ (by simp)]; simpa using heap_alloc_new (World.alloc w _) (.cells #[.int .i64 T.self, .slice ma mn mc] 36 (0, 0))
  have P2 : W.heap[w.heap.size + 1 + 1]? = some (.cells #[.slice none 0 0, .int .i64 0, .int .i64 0, .int .i64 0, .int .i64 0, .int .i64 0] 30 (0, 0)) := by rw [← hW]; simpa using heap_alloc_new (World.alloc (World.alloc w _) _) (.cells #[.slice none 0 0, .int .i64 0, .int .i64 0, .int .i64 0, .int .i64 0, .int .i64 0] 30 (0, 0))
  clear hW
  refine (sProberOkV _ P W (HT.out.ext XW) HN.out.1).mono ?_
  rintro e w1 ⟨rfl, b1⟩
  have X1 : Ext w w1 := XW.tr (ext_below b1)
  have Q0 := ext_blk (ext_below b1) P0
  have Q1 := ext_blk (ext_below b1) P1
  have Q2 := ext_blk (ext_below b1) P2
  clear P0 P1 P2 b1 XW
  obtain ⟨p0, p1, p2, p3, p4, p5⟩ := cells6 Q0
  obtain ⟨u0, u1⟩ := two_cells Q1
  have HZ : Hid (∀ W', Ext w W' → W'.heap[w.heap.size + 1 + 1]? = some (.cells #[.slice none 0 0, .int .i64 0, .int .i64 0, .int .i64 0, .int .i64 0, .int .i64 0] 30 (0, 0)) → ¬ ((ProP P ∧ TabP T) ∧ (0 ≤ kk ∧ kk ≤ 3)) → R = (zeroPro, [])) := fun _ _ _ hno => by rw [HR.out]; exact helpPD_no hno
  cases t0 : tB (ProP P)
  · have HK : Hid (R = (zeroPro, [])) := HZ.out w1 X1 Q2 (fun h' => by rw [tB_true h'.1.1] at t0; cases t0)
    obtain ⟨r0, f0⟩ := at_block Q2 0 _ rfl
    obtain ⟨r1, f1⟩ := at_block Q2 1 _ rfl
    obtain ⟨r2, f2⟩ := at_block Q2 2 _ rfl
    obtain ⟨r3, f3⟩ := at_block Q2 3 _ rfl
    obtain ⟨r4, f4⟩ := at_block Q2 4 _ rfl
    obtain ⟨r5, f5⟩ := at_block Q2 5 _ rfl
    clear t0
    go_wp2
    refine bodyPost_ret (v := .tuple #[.agg #[.slice none 0 0, .int .i64 0, .int .i64 0, .int .i64 0, .int .i64 0, .int .i64 0], .slice none 0 0]) (by simp [results, Try.results17, go_sem, *]) rfl ?_
    rw [HK.out]
    exact ⟨_, _, w.heap.size, rfl, OwI.nil _ _, OwI.nil _ _, Nat.le_refl _, (fun k hk => by cases hk), pro_below (ext_bel X1) (by omega) _ _ _ _ _ _⟩
  have HPP : Hid (ProP P) := tB_iff.1 t0
  clear t0
  go_wp2_with fail
  refine (sTableOkV _ T w1 (HU.out.ext X1) HN.out.2).mono ?_
  rintro e w2 ⟨rfl, b2⟩
  have X2 : Ext w w2 := X1.tr (ext_below b2)
  have S0 := ext_blk (ext_below b2) Q0
  have S1 := ext_blk (ext_below b2) Q1
  have S2 := ext_blk (ext_below b2) Q2
  clear p0 p1 p2 p3 p4 p5 u0 u1 Q0 Q1 Q2 b2 X1
  obtain ⟨p0, p1, p2, p3, p4, p5⟩ := cells6 S0
  cases t0 : tB (TabP T)
  · have HK : Hid (R = (zeroPro, [])) := HZ.out w2 X2 S2 (fun h' => by rw [tB_true h'.1.2] at t0; cases t0)
    obtain ⟨r0, f0⟩ := at_block S2 0 _ rfl
    obtain ⟨r1, f1⟩ := at_block S2 1 _ rfl
    obtain ⟨r2, f2⟩ := at_block S2 2 _ rfl
    obtain ⟨r3, f3⟩ := at_block S2 3 _ rfl
    obtain ⟨r4, f4⟩ := at_block S2 4 _ rfl
    obtain ⟨r5, f5⟩ := at_block S2 5 _ rfl
    clear t0
    go_wp2
    refine bodyPost_ret (v := .tuple #[.agg #[.slice none 0 0, .int .i64 0, .int .i64 0, .int .i64 0, .int .i64 0, .int .i64 0], .slice none 0 0]) (by simp [results, Try.results17, go_sem, *]) rfl ?_
    rw [HK.out]
    exact ⟨_, _, w.heap.size, rfl, OwI.nil _ _, OwI.nil _ _, Nat.le_refl _, (fun k hk => by cases hk), pro_below (ext_bel X2) (by omega) _ _ _ _ _ _⟩
  by_cases hk0 : kk < 0
  · have HK : Hid (R = (zeroPro, [])) := HZ.out w2 X2 S2 (fun h' => by have := h'.2; omega)
    obtain ⟨r0, f0⟩ := at_block S2 0 _ rfl
    obtain ⟨r1, f1⟩ := at_block S2 1 _ rfl
    obtain ⟨r2, f2⟩ := at_block S2 2 _ rfl
    obtain ⟨r3, f3⟩ := at_block S2 3 _ rfl
    obtain ⟨r4, f4⟩ := at_block S2 4 _ rfl
    obtain ⟨r5, f5⟩ := at_block S2 5 _ rfl
    clear t0
    go_wp2
    refine bodyPost_ret (v := .tuple #[.agg #[.slice none 0 0, .int .i64 0, .int .i64 0, .int .i64 0, .int .i64 0, .int .i64 0], .slice none 0 0]) (by simp [results, Try.results17, go_sem, *]) rfl ?_
    rw [HK.out]
    exact ⟨_, _, w.heap.size, rfl, OwI.nil _ _, OwI.nil _ _, Nat.le_refl _, (fun k hk => by cases hk), pro_below (ext_bel X2) (by omega) _ _ _ _ _ _⟩
  by_cases hk3 : 3 < kk
  · have HK : Hid (R = (zeroPro, [])) := HZ.out w2 X2 S2 (fun h' => by have := h'.2; omega)
    obtain ⟨r0, f0⟩ := at_block S2 0 _ rfl
    obtain ⟨r1, f1⟩ := at_block S2 1 _ rfl
    obtain ⟨r2, f2⟩ := at_block S2 2 _ rfl
    obtain ⟨r3, f3⟩ := at_block S2 3 _ rfl
    obtain ⟨r4, f4⟩ := at_block S2 4 _ rfl
    obtain ⟨r5, f5⟩ := at_block S2 5 _ rfl
    clear t0
    go_wp2
    refine bodyPost_ret (v := .tuple #[.agg #[.slice none 0 0, .int .i64 0, .int .i64 0, .int .i64 0, .int .i64 0, .int .i64 0], .slice none 0 0]) (by simp [results, Try.results17, go_sem, *]) rfl ?_
    rw [HK.out]
    exact ⟨_, _, w.heap.size, rfl, OwI.nil _ _, OwI.nil _ _, Nat.le_refl _, (fun k hk => by cases hk), pro_below (ext_bel X2) (by omega) _ _ _ _ _ _⟩
  have HK : Hid (R = (⟨P.order, P.next, (helpS T P).2, P.state, P.who, P.wait⟩, (helpS T P).1.take kk.toNat)) := by show _ = _; rw [HR.out]; exact helpPD_yes ⟨⟨HPP.out, tB_iff.1 t0⟩, by omega, by omega⟩
  have HTP : Hid (TabP T) := tB_iff.1 t0
  have hka : 0 ≤ kk := by omega
  have hkb : kk ≤ 3 := by omega
  clear t0 HZ
  go_wp2_with fail
  refine (sOwnPV _ P w2 (HT.out.ext X2) HN.out.1).mono ?_
  rintro e w3 ⟨tv3, rfl, o3, b3⟩
  obtain ⟨a3, c3, hv3⟩ := o3.shape
  rw [← HNN.out] at hv3
  subst hv3
  have X3 : Ext w w3 := X2.tr (ext_below b3)
  have T1 := ext_blk (ext_below b3) S1
  have T2 := ext_blk (ext_below b3) S2
  have s3 := b3.size
  have sT := (Array.getElem?_eq_some_iff.1 S2).1
  have HO3 : Hid (OwI w3 w2.heap.size (.slice a3 n c3) P.order) := o3
  have s2 := X2.size
  clear p0 p1 p2 p3 p4 p5 S0 S1 S2 b3 o3
  obtain ⟨u0, u1⟩ := two_cells T1
  have ku0 := fun o => World.grownBy.cell (World.grownBy_alloc w3 o none) u0 (by simp)
  have ku1 := fun o => World.grownBy.cell (World.grownBy_alloc w3 o none) u1 (by simp)
  go_wp2_with fail
  clear ku0 ku1
  generalize hU : w3.alloc _ = U
  have XU : Ext w3 U := by rw [← hU]; exact hE _ _
  have PU : U.heap[w3.heap.size]? = some (.cells #[.slice a3 n c3, .int .i64 P.next, .int .i64 P.seed, .int .i64 P.state, .int .i64 P.who, .int .i64 P.wait] 30 (0, 0)) := by rw [← hU]; exact heap_alloc_new w3 _
  clear hU
  refine (sHelpV w3.heap.size w2.heap.size P _ _ T kk U PU (HO3.out.ext XU) HPP.out.2.2.1.1 HPP.out.2.2.1.2 hka hkb (HU.out.ext (X3.tr XU)) HN.out.2 s3 (Nat.le_trans s3 XU.size)).mono ?_
  rintro e w4 ⟨lv, rfl, o4, S4⟩
  obtain ⟨Z, hZ⟩ : ∃ Z, Z = (helpS T P).1.take kk.toNat := ⟨_, rfl⟩
  rw [← hZ] at o4 HK
  have HZL : Hid (Z.length ≤ 1048576) := by show _ ≤ _; rw [hZ, List.length_take]; exact Nat.le_trans (Nat.min_le_right _ _) (help_len HN.out.2)
  obtain ⟨la, lc, hlv⟩ := o4.shape
  subst hlv
  have HQ4 : Hid (HlS w w3.heap.size (w.heap.size + 1 + 1) w2.heap.size #[.slice a3 n c3, .int .i64 P.next, .int .i64 (helpS T P).2, .int .i64 P.state, .int .i64 P.who, .int .i64 P.wait] #[.slice none 0 0, .int .i64 0, .int .i64 0, .int .i64 0, .int .i64 0, .int .i64 0] (.slice a3 n c3) P.order w4) := ⟨S4.box, (S4.low.block _ (by omega)).trans (ext_blk XU T2), S4.own, (ext_bel (X3.tr XU)).trans (S4.low.mono s2)⟩
  have HNE : Hid (w.heap.size + 1 + 1 ≠ w3.heap.size ∧ w.heap.size + 1 + 1 < w2.heap.size) := ⟨by omega, by omega⟩
  have H0 : Hid (HlS w w3.heap.size (w.heap.size + 1 + 1) w2.heap.size #[.slice a3 n c3, .int .i64 P.next, .int .i64 (helpS T P).2, .int .i64 P.state, .int .i64 P.who, .int .i64 P.wait] #[.slice none 0 0, .int .i64 0, .int .i64 0, .int .i64 0, .int .i64 0, .int .i64 0] (.slice a3 n c3) P.order w4) := HQ4.out
  have HB0 : Hid (HlS w w3.heap.size (w.heap.size + 1 + 1) w2.heap.size #[.slice a3 n c3, .int .i64 P.next, .int .i64 (helpS T P).2, .int .i64 P.state, .int .i64 P.who, .int .i64 P.wait] #[.slice a3 n c3, .int .i64 P.next, .int .i64 (helpS T P).2, .int .i64 P.state, .int .i64 P.who, .int .i64 P.wait] (.slice a3 n c3) P.order ((((((w4.setCell ⟨w.heap.size + 1 + 1, 0, none⟩ (.slice a3 n c3)).setCell ⟨w.heap.size + 1 + 1, 1, none⟩ (.int .i64 P.next)).setCell ⟨w.heap.size + 1 + 1, 2, none⟩ (.int .i64 (helpS T P).2)).setCell ⟨w.heap.size + 1 + 1, 3, none⟩ (.int .i64 P.state)).setCell ⟨w.heap.size + 1 + 1, 4, none⟩ (.int .i64 P.who)).setCell ⟨w.heap.size + 1 + 1, 5, none⟩ (.int .i64 P.wait))) := H0.out.store HNE.out.1 HNE.out.2 (by omega) _ _ _ _ _ _
  have HW3 : Hid (w3.heap.size < w4.heap.size) := (Array.getElem?_eq_some_iff.1 S4.box).1
  have hsz4 : w2.heap.size ≤ w4.heap.size := Nat.le_trans (Nat.le_trans s3 XU.size) S4.low.size
  have HS2 : Hid (w.heap.size ≤ w2.heap.size) := s2
  have HS4 : Hid (w2.heap.size ≤ w4.heap.size) := hsz4
  obtain ⟨p0, p1, p2, p3, p4, p5⟩ := cells6 H0.out.1
  obtain ⟨r0, f0⟩ := at_block H0.out.2.1 0 _ rfl; obtain ⟨r1, f1⟩ := at_block H0.out.2.1 1 _ rfl; obtain ⟨r2, f2⟩ := at_block H0.out.2.1 2 _ rfl; obtain ⟨r3, f3⟩ := at_block H0.out.2.1 3 _ rfl; obtain ⟨r4, f4⟩ := at_block H0.out.2.1 4 _ rfl; obtain ⟨r5, f5⟩ := at_block H0.out.2.1 5 _ rfl
  have hne1 : w3.heap.size ≠ w.heap.size + 1 + 1 := by omega
  have hne2 : w.heap.size + 1 + 1 ≠ w3.heap.size := by omega
  have HLT : Hid (∀ k, (Value.slice a3 n c3).ownBlock = some k → k < w4.heap.size) := fun k hk => (S4.own.lt k hk).2
  have hUS : Hid (w2.heap.size ≤ U.heap.size) := Nat.le_trans s3 XU.size
  have HLA : Hid (VL fI (w4.alloc (.cells #[] 3)).drew (.slice la Z.length lc) Z) := (o4.vl.ext (hE _ _)).ext (ext_drewN _ 1)
  have HLB : Hid (VL fI ((((((((w4.alloc (.cells #[] 3)).setCell ⟨w.heap.size + 1 + 1, 0, none⟩ (.slice a3 n c3)).setCell ⟨w.heap.size + 1 + 1, 1, none⟩ (.int .i64 P.next)).setCell ⟨w.heap.size + 1 + 1, 2, none⟩ (.int .i64 (helpS T P).2)).setCell ⟨w.heap.size + 1 + 1, 3, none⟩ (.int .i64 P.state)).setCell ⟨w.heap.size + 1 + 1, 4, none⟩ (.int .i64 P.who)).setCell ⟨w.heap.size + 1 + 1, 5, none⟩ (.int .i64 P.wait))).drew (.slice la Z.length lc) Z) := ((pro_own (o4.ext (hE _ _)) (nb_of o4 (Nat.lt_of_lt_of_le HNE.out.2 hUS.out)) _ _ _ _ _ _).vl).ext (ext_drewN _ 1)
  have HLC : Hid (VL fI ((((((((w4.setCell ⟨w.heap.size + 1 + 1, 0, none⟩ (.slice a3 n c3)).setCell ⟨w.heap.size + 1 + 1, 1, none⟩ (.int .i64 P.next)).setCell ⟨w.heap.size + 1 + 1, 2, none⟩ (.int .i64 (helpS T P).2)).setCell ⟨w.heap.size + 1 + 1, 3, none⟩ (.int .i64 P.state)).setCell ⟨w.heap.size + 1 + 1, 4, none⟩ (.int .i64 P.who)).setCell ⟨w.heap.size + 1 + 1, 5, none⟩ (.int .i64 P.wait))).alloc (.cells #[] 3)).drew (.slice la Z.length lc) Z) := (((pro_own o4 (nb_of o4 (Nat.lt_of_lt_of_le HNE.out.2 hUS.out)) _ _ _ _ _ _).ext (hE _ _)).vl).ext (ext_drewN _ 1)
  have HA1 : Hid (HlS w w3.heap.size (w.heap.size + 1 + 1) w2.heap.size #[.slice a3 n c3, .int .i64 P.next, .int .i64 (helpS T P).2, .int .i64 P.state, .int .i64 P.who, .int .i64 P.wait] #[.slice none 0 0, .int .i64 0, .int .i64 0, .int .i64 0, .int .i64 0, .int .i64 0] (.slice a3 n c3) P.order (w4.alloc (.cells #[] 3))) := H0.out.ext (hE _ _)
  have HAA : Hid (HlS w w3.heap.size (w.heap.size + 1 + 1) w2.heap.size #[.slice a3 n c3, .int .i64 P.next, .int .i64 (helpS T P).2, .int .i64 P.state, .int .i64 P.who, .int .i64 P.wait] #[.slice none 0 0, .int .i64 0, .int .i64 0, .int .i64 0, .int .i64 0, .int .i64 0] (.slice a3 n c3) P.order (w4.alloc (.cells #[] 3)).drew) := HA1.out.ext (ext_drewN _ 1)
  have HAB : Hid (HlS w w3.heap.size (w.heap.size + 1 + 1) w2.heap.size #[.slice a3 n c3, .int .i64 P.next, .int .i64 (helpS T P).2, .int .i64 P.state, .int .i64 P.who, .int .i64 P.wait] #[.slice a3 n c3, .int .i64 P.next, .int .i64 (helpS T P).2, .int .i64 P.state, .int .i64 P.who, .int .i64 P.wait] (.slice a3 n c3) P.order ((((((((w4.alloc (.cells #[] 3)).setCell ⟨w.heap.size + 1 + 1, 0, none⟩ (.slice a3 n c3)).setCell ⟨w.heap.size + 1 + 1, 1, none⟩ (.int .i64 P.next)).setCell ⟨w.heap.size + 1 + 1, 2, none⟩ (.int .i64 (helpS T P).2)).setCell ⟨w.heap.size + 1 + 1, 3, none⟩ (.int .i64 P.state)).setCell ⟨w.heap.size + 1 + 1, 4, none⟩ (.int .i64 P.who)).setCell ⟨w.heap.size + 1 + 1, 5, none⟩ (.int .i64 P.wait))).drew) := HlS.ext (HA1.out.store HNE.out.1 HNE.out.2 (by omega) _ _ _ _ _ _) (ext_drewN _ 1)
  have HAC : Hid (HlS w w3.heap.size (w.heap.size + 1 + 1) w2.heap.size #[.slice a3 n c3, .int .i64 P.next, .int .i64 (helpS T P).2, .int .i64 P.state, .int .i64 P.who, .int .i64 P.wait] #[.slice a3 n c3, .int .i64 P.next, .int .i64 (helpS T P).2, .int .i64 P.state, .int .i64 P.who, .int .i64 P.wait] (.slice a3 n c3) P.order ((((((((w4.setCell ⟨w.heap.size + 1 + 1, 0, none⟩ (.slice a3 n c3)).setCell ⟨w.heap.size + 1 + 1, 1, none⟩ (.int .i64 P.next)).setCell ⟨w.heap.size + 1 + 1, 2, none⟩ (.int .i64 (helpS T P).2)).setCell ⟨w.heap.size + 1 + 1, 3, none⟩ (.int .i64 P.state)).setCell ⟨w.heap.size + 1 + 1, 4, none⟩ (.int .i64 P.who)).setCell ⟨w.heap.size + 1 + 1, 5, none⟩ (.int .i64 P.wait))).alloc (.cells #[] 3)).drew) := (HB0.out.ext (hE _ _)).ext (ext_drewN _ 1)
  have HE1 : Hid (OwI (w4.alloc (.cells #[] 3)) w4.heap.size (.slice (some ⟨w4.heap.size, 0, none⟩) 0 0) []) := World.ownsRow_lit w4 #[] 0 (Nat.le_refl _) (Nat.zero_le _) rfl
  have HEA : Hid (OwI (w4.alloc (.cells #[] 3)).drew w4.heap.size (.slice (some ⟨w4.heap.size, 0, none⟩) 0 0) []) := HE1.out.ext (ext_drewN _ 1)
  have HEB : Hid (OwI ((((((((w4.alloc (.cells #[] 3)).setCell ⟨w.heap.size + 1 + 1, 0, none⟩ (.slice a3 n c3)).setCell ⟨w.heap.size + 1 + 1, 1, none⟩ (.int .i64 P.next)).setCell ⟨w.heap.size + 1 + 1, 2, none⟩ (.int .i64 (helpS T P).2)).setCell ⟨w.heap.size + 1 + 1, 3, none⟩ (.int .i64 P.state)).setCell ⟨w.heap.size + 1 + 1, 4, none⟩ (.int .i64 P.who)).setCell ⟨w.heap.size + 1 + 1, 5, none⟩ (.int .i64 P.wait))).drew w4.heap.size (.slice (some ⟨w4.heap.size, 0, none⟩) 0 0) []) := OwI.ext (pro_own HE1.out (nb_of HE1.out (Nat.lt_of_lt_of_le HNE.out.2 HS4.out)) _ _ _ _ _ _) (ext_drewN _ 1)
  have HE2 : Hid (OwI ((((((((w4.setCell ⟨w.heap.size + 1 + 1, 0, none⟩ (.slice a3 n c3)).setCell ⟨w.heap.size + 1 + 1, 1, none⟩ (.int .i64 P.next)).setCell ⟨w.heap.size + 1 + 1, 2, none⟩ (.int .i64 (helpS T P).2)).setCell ⟨w.heap.size + 1 + 1, 3, none⟩ (.int .i64 P.state)).setCell ⟨w.heap.size + 1 + 1, 4, none⟩ (.int .i64 P.who)).setCell ⟨w.heap.size + 1 + 1, 5, none⟩ (.int .i64 P.wait))).alloc (.cells #[] 3)) w4.heap.size (.slice (some ⟨w4.heap.size, 0, none⟩) 0 0) []) := by unfold Hid OwI; have := World.ownsRow_lit (((((((w4.setCell ⟨w.heap.size + 1 + 1, 0, none⟩ (.slice a3 n c3)).setCell ⟨w.heap.size + 1 + 1, 1, none⟩ (.int .i64 P.next)).setCell ⟨w.heap.size + 1 + 1, 2, none⟩ (.int .i64 (helpS T P).2)).setCell ⟨w.heap.size + 1 + 1, 3, none⟩ (.int .i64 P.state)).setCell ⟨w.heap.size + 1 + 1, 4, none⟩ (.int .i64 P.who)).setCell ⟨w.heap.size + 1 + 1, 5, none⟩ (.int .i64 P.wait))) #[] 0 (base := w4.heap.size) (e := 3) (size := 1) (by simp) (Nat.zero_le _) rfl; simpa using this
  have HEC : Hid (OwI ((((((((w4.setCell ⟨w.heap.size + 1 + 1, 0, none⟩ (.slice a3 n c3)).setCell ⟨w.heap.size + 1 + 1, 1, none⟩ (.int .i64 P.next)).setCell ⟨w.heap.size + 1 + 1, 2, none⟩ (.int .i64 (helpS T P).2)).setCell ⟨w.heap.size + 1 + 1, 3, none⟩ (.int .i64 P.state)).setCell ⟨w.heap.size + 1 + 1, 4, none⟩ (.int .i64 P.who)).setCell ⟨w.heap.size + 1 + 1, 5, none⟩ (.int .i64 P.wait))).alloc (.cells #[] 3)).drew w4.heap.size (.slice (some ⟨w4.heap.size, 0, none⟩) 0 0) []) := HE2.out.ext (ext_drewN _ 1)
  clear T1 T2 S4 o4 PU XU X3 X2 hZ u0 u1
  go_upto_region 5 with fail
  go_region_held3 (fun w' => w'.cell? ⟨w3.heap.size, 0, none⟩ = some (.slice a3 n c3) ∧ w'.cell? ⟨w3.heap.size, 1, none⟩ = some (.int .i64 P.next) ∧ w'.cell? ⟨w3.heap.size, 2, none⟩ = some (.int .i64 (helpS T P).2) ∧ w'.cell? ⟨w3.heap.size, 3, none⟩ = some (.int .i64 P.state) ∧ w'.cell? ⟨w3.heap.size, 4, none⟩ = some (.int .i64 P.who) ∧ w'.cell? ⟨w3.heap.size, 5, none⟩ = some (.int .i64 P.wait)) (first | (simp [*]; done) | go_keep)
    (first | (refine step_append_il rfl (.tmp 33) (.tmp 34) rfl w4.heap.size (.slice (some ⟨w4.heap.size, 0, none⟩) 0 0) [] rfl ?_ la Z.length lc Z rfl ?_ (by have := HZL.out; simp; omega) (by simp) ?_; (first | with_reducible exact HEA.out | with_reducible exact HEB.out | with_reducible exact HEC.out); (first | with_reducible exact HLA.out | with_reducible exact HLB.out | with_reducible exact HLC.out); intro v5 w5 o5 g5; have HO5 : Hid (OwI w5 w4.heap.size v5 Z) := (by have := o5; rw [List.nil_append] at this; exact this); (first | with_reducible have HA5 := hideR (HAA.out.app g5 (Nat.le_refl _) HLT.out HNE.out.2 HS2.out HS4.out HW3.out) | with_reducible have HA5 := hideR (HAB.out.app g5 (Nat.le_refl _) HLT.out HNE.out.2 HS2.out HS4.out HW3.out) | with_reducible have HA5 := hideR (HAC.out.app g5 (Nat.le_refl _) HLT.out HNE.out.2 HS2.out HS4.out HW3.out)); have HP5 : Hid (OwI w5 w2.heap.size (.slice a3 n c3) P.order) := HA5.out.2.2.1; have HW5 : Hid (Below w.heap.size w w5) := HA5.out.2.2.2; obtain ⟨q0, q1, q2, q3, q4, q5⟩ := cells6 HA5.out.1; obtain ⟨y0, t0⟩ := at_block HA5.out.2.1 0 _ rfl; obtain ⟨y1, t1⟩ := at_block HA5.out.2.1 1 _ rfl; obtain ⟨y2, t2⟩ := at_block HA5.out.2.1 2 _ rfl; obtain ⟨y3, t3⟩ := at_block HA5.out.2.1 3 _ rfl; obtain ⟨y4, t4⟩ := at_block HA5.out.2.1 4 _ rfl; obtain ⟨y5, t5⟩ := at_block HA5.out.2.1 5 _ rfl; obtain ⟨v5a, v5c, hv5⟩ := HO5.out.shape; subst hv5; clear o5 g5))
  all_goals
    go_wp2
    refine bodyPost_ret (v := .tuple #[.agg #[.slice a3 n c3, .int .i64 P.next, .int .i64 (helpS T P).2, .int .i64 P.state, .int .i64 P.who, .int .i64 P.wait], .slice v5a Z.length v5c]) (by simp [results, Try.results17, go_sem, *]) rfl ?_
    rw [HK.out]
    refine ⟨_, _, w4.heap.size, rfl, ?gp, ?gl, Nat.le_trans HS2.out HS4.out, HLT.out, ?gb⟩
    case gp => first | with_reducible exact OwI.base HP5.out HS2.out | exact OwI.base (pro_own HP5.out (nb_of HP5.out HNE.out.2) _ _ _ _ _ _) HS2.out
    case gl => first | with_reducible exact HO5.out | exact pro_own HO5.out (nb_of HO5.out (Nat.lt_of_lt_of_le HNE.out.2 HS4.out)) _ _ _ _ _ _
    case gb => first | with_reducible exact HW5.out | exact pro_below HW5.out (by omega) _ _ _ _ _ _

end Go.Proofs.Ytfdklcmhafhbeaa
