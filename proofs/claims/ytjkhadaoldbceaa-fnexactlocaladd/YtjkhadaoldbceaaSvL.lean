
/- Locals: sized, copied, held against one another. -/
import Derived.Test.YtjkhadaoldbceaaSvA
namespace Go.Proofs.Ytjkhadaoldbceaa
open Go.RowKit

structure DLoc where
  node : List Int
  svcs : List DSvc
def VLoc (w : World) (v : Value) (d : DLoc) : Prop := ∃ nv cv, v = .agg #[nv, cv] ∧ RV w nv d.node ∧ VSvcs w cv d.svcs
theorem VLoc.ext {w w' : World} {v : Value} {d : DLoc} (h : VLoc w v d) (e : Ext w w') : VLoc w' v d := by
  obtain ⟨nv, cv, hv, h1, h2⟩ := h
  exact ⟨nv, cv, hv, h1.ext e, h2.ext e⟩
theorem svcs_shape {w : World} {v : Value} {cs : List DSvc} (h : VSvcs w v cs) : ∃ a c, v = .slice a cs.length c := by
  obtain ⟨C, ⟨a, c, hv, _⟩, _⟩ := h
  exact ⟨a, c, hv⟩
def zLo (d : DLoc) : Nat := d.node.length + (d.svcs.length + sSv d.svcs)
def LenLo (s : DLoc) : Prop := s.node.length ≤ 1048576 ∧ s.svcs.length ≤ 1048576 ∧ ∀ (i : Nat) (c : DSvc), s.svcs[i]? = some c → LenSv c
theorem lenLo_of {s : DLoc} (h : zLo s ≤ 1048576) : LenLo s := by
  unfold zLo at h
  refine ⟨by omega, by omega, fun i c hc => lenSv_of ?_⟩
  have h1 := sum_mem zSv s.svcs i c hc
  have h2 : (s.svcs.map zSv).sum = sSv s.svcs := rfl
  omega
theorem OSvs.ext {w w' : World} {base : Nat} {v : Value} {cs : List DSvc} (h : OSvs w base v cs) (e : Ext w w') : OSvs w' base v cs := by
  obtain ⟨b, F, hv, hb, hB, hF⟩ := h
  refine ⟨b, F, hv, hb, blk_kept hB (e.block b (blk_lt hB) (by simp)), fun i s hs => ?_⟩
  obtain ⟨e0, e1⟩ := hF i s hs
  exact ⟨e0.ext e, e1.ext e⟩
theorem OSvs.row {w w' : World} {base g : Nat} {v : Value} {cs : List DSvc} (h : OSvs w base v cs) (e : w.grownBy w' (some g)) (hg : g < base) : OSvs w' base v cs := by
  obtain ⟨b, F, hv, hb, hB, hF⟩ := h
  refine ⟨b, F, hv, hb, blk_kept hB (e.block b (blk_lt hB) (by simp; omega)), fun i s hs => ?_⟩
  obtain ⟨e0, e1⟩ := hF i s hs
  exact ⟨ow_row e0 e hg, e1.row e hg⟩
theorem OSvs.base {w : World} {base b' : Nat} {v : Value} {cs : List DSvc} (h : OSvs w base v cs) (hb' : b' ≤ base) : OSvs w b' v cs := by
  obtain ⟨b, F, hv, hb, hB, hF⟩ := h
  refine ⟨b, F, hv, by omega, hB, fun i s hs => ?_⟩
  obtain ⟨e0, e1⟩ := hF i s hs
  exact ⟨ow_base e0 hb', e1.base hb'⟩
theorem OSvs.v {w : World} {base : Nat} {v : Value} {cs : List DSvc} (h : OSvs w base v cs) (hm : cs.length ≤ 1048576) (hl : ∀ (i : Nat) (s : DSvc), cs[i]? = some s → LenSv s) (hr : rngSvs cs) : VSvcs w v cs := by
  obtain ⟨b, F, rfl, hb, hB, hF⟩ := h
  refine ⟨F, blk_SL hB (by unfold maxLen; omega), fun i s hs => ?_⟩
  obtain ⟨e0, e1⟩ := hF i s hs
  exact ⟨Ow.rv e0 (hr i s hs).1, e1.v (hl i s hs).2.1 (hr i s hs).2⟩
/-- A local of the call's own. -/
theorem oloc_v {w : World} {base : Nat} {nv sv : Value} {d : DLoc} (h1 : Ow w base nv d.node) (h2 : OSvs w base sv d.svcs) (hl : LenLo d) (hn : ∀ x ∈ d.node, 0 ≤ x ∧ x ≤ 255) (hr : rngSvs d.svcs) : VLoc w (.agg #[nv, sv]) d := ⟨nv, sv, rfl, Ow.rv h1 hn, h2.v hl.2.1 hl.2.2 hr⟩

set_option maxHeartbeats 2000000 in
theorem szLoc (v : Value) (d : DLoc) (l : Int) (w : World) (h : VLoc w v d) (hl0 : 0 ≤ l) (hl : l ≤ 1048576) :
    Calls Try.prog 5 #[v, .int .i64 l] w (SzPost l (zLo d) w) := by
  have hE : ∀ w : World, ∀ o, Ext w (w.alloc o) := fun w o => World.grownBy_alloc _ _ _
  have hB : ∀ w : World, ∀ o, Below w.heap.size w (w.alloc o) := fun w o => (Below.refl _ w).alloc (Nat.le_refl _) _
  obtain ⟨nv, cv, rfl, hn, hc⟩ := h
  have HZ : Hid (zLo d = d.node.length + (d.svcs.length + sSv d.svcs)) := rfl
  obtain ⟨z, hz⟩ : ∃ z, z = zLo d := ⟨_, rfl⟩
  obtain ⟨q, hq⟩ : ∃ q, q = d.svcs.length + sSv d.svcs := ⟨_, rfl⟩
  have HZ2 : Hid (z = d.node.length + q) := by show _ = _; rw [hz, HZ.out, hq]
  have HQ : Hid (q = d.svcs.length + sSv d.svcs) := hq
  rw [← hz]
  clear hz hq HZ
  by_cases h1 : l - d.node.length < 0
  · go_enter Try.func5, Try.ntmps5
    go_wp2_with fail
    refine (szB nv d.node l _ (hn.ext (hE _ _)) hl0 hl).mono ?_
    rintro e w1 ⟨rfl, rfl⟩
    rw [if_pos (by omega)]
    go_wp2
    go_ret
    exact ⟨-1, rfl, .inl ⟨by have := HZ2.out; omega, rfl⟩, hB _ _⟩
  · go_enter Try.func5, Try.ntmps5
    go_wp2_with fail
    refine (szB nv d.node l _ (hn.ext (hE _ _)) hl0 hl).mono ?_
    rintro e w1 ⟨rfl, rfl⟩
    rw [if_neg (by omega)]
    have hl2 : 0 ≤ l - (d.node.length : Int) := by omega
    have hl3 : l - (d.node.length : Int) ≤ 1048576 := by omega
    obtain ⟨l2, hl2e⟩ : ∃ l2, l2 = l - (d.node.length : Int) := ⟨_, rfl⟩
    have HL2 : Hid (l2 = l - (d.node.length : Int)) := hl2e
    rw [← hl2e] at hl2 hl3 ⊢
    clear hl2e
    go_wp2_with fail
    refine (szS_Sv cv d.svcs l2 _ (hc.ext (hE _ _)) hl2 hl3).mono ?_
    rintro e w2 ⟨r, rfl, hr, b2⟩
    rw [← HQ.out] at hr
    have B2 := (hB w _).trans (b2.mono (by simp))
    rcases hr with ⟨g1, rfl⟩ | ⟨g1, g2⟩
    · go_wp2
      go_ret
      exact ⟨-1, rfl, .inl ⟨by have := HZ2.out; have := HL2.out; omega, rfl⟩, B2⟩
    · have hr0 : 0 ≤ r := by omega
      have HR : Hid ((z : Int) ≤ l ∧ r = l - z) := by have := HZ2.out; have := HL2.out; constructor <;> omega
      clear g1 g2
      go_wp2
      go_ret
      exact ⟨r, rfl, .inr ⟨by have := HR.out; omega, HR.out.2⟩, B2⟩

set_option maxHeartbeats 2000000 in
theorem toLoc (v : Value) (d : DLoc) (w : World) (h : VLoc w v d) (hl : LenLo d) :
    Calls Try.prog 7 #[v] w fun e w' => ∃ a c b, e = .returned (.agg #[.slice a d.node.length c, .slice (some ⟨b, 0, none⟩) d.svcs.length d.svcs.length]) ∧ Ow w' w.heap.size (.slice a d.node.length c) d.node ∧ OSvs w' w.heap.size (.slice (some ⟨b, 0, none⟩) d.svcs.length d.svcs.length) d.svcs ∧ Below w.heap.size w w' := by
  obtain ⟨nv, cv, rfl, hn, hc⟩ := h
  have HR : Hid (∀ x ∈ d.node, 0 ≤ x ∧ x ≤ 255) := rv_rngK hn
  have HL : Hid (LenLo d) := hl
  obtain ⟨n, hnn⟩ : ∃ n, n = d.node.length := ⟨_, rfl⟩
  have HN : Hid (n = d.node.length) := hnn
  obtain ⟨m, hmm⟩ : ∃ m, m = d.svcs.length := ⟨_, rfl⟩
  have HM : Hid (m = d.svcs.length) := hmm
  obtain ⟨na, nc, hnv⟩ := rv_shape hn
  obtain ⟨ca, cc, hcv⟩ := svcs_shape hc
  rw [← hnn] at hnv ⊢
  rw [← hmm] at hcv ⊢
  subst hnv
  subst hcv
  clear hnn hmm hl
  have HNV := (show Hid (RV w (.slice na n nc) d.node) from hn)
  have HCV := (show Hid (VSvcs w (.slice ca m cc) d.svcs) from hc)
  clear hn hc
  go_enter Try.func7, Try.ntmps7
  go_wp2_with fail
  generalize hV : World.alloc (World.alloc (World.alloc w _) _) _ = V
  have HB0 : Below w.heap.size w V := by
    rw [← hV]
    exact (((Below.refl _ w).alloc (Nat.le_refl _) _).alloc (by simp) _).alloc (by simp; omega) _
  have A0 : V.heap[w.heap.size]? = some (.cells #[.slice na n nc, .slice ca m cc] 25 (0, 0)) := by
    rw [← hV, Below.heap_alloc _ _ _ (by simp; omega), Below.heap_alloc _ _ _ (by simp)]; exact heap_alloc_new w _
  have A1 : V.heap[w.heap.size + 1]? = some (.cells #[.slice none 0 0, .slice none 0 0] 29 (0, 0)) := by
    rw [← hV, Below.heap_alloc _ _ _ (by simp)]; simpa using heap_alloc_new (World.alloc w _) (.cells #[.slice none 0 0, .slice none 0 0] 29 (0, 0))
  have A2 : V.heap[w.heap.size + 1 + 1]? = some (.cells #[.slice none 0 0, .slice none 0 0] 29 (0, 0)) := by
    rw [← hV]; simpa using heap_alloc_new (World.alloc (World.alloc w _) _) (.cells #[.slice none 0 0, .slice none 0 0] 29 (0, 0))
  have HSZ : Hid (w.heap.size + 2 < V.heap.size) := (Array.getElem?_eq_some_iff.1 A2).1
  clear hV
  refine (toV _ d.node V (HNV.out.ext (ext_below HB0)) HL.out.1).mono ?_
  rintro e w1 ⟨v1, rfl, o1, b1⟩
  obtain ⟨a1, c1, rfl, _, _, _⟩ := Ow.rv o1 HR.out
  rw [← HN.out] at o1 ⊢
  have A0' := ext_blk (ext_below b1) A0
  have A1' := ext_blk (ext_below b1) A1
  have A2' := ext_blk (ext_below b1) A2
  have HO1 : Hid (Ow w1 V.heap.size (.slice a1 n c1) d.node) := o1
  have HX1 : Hid (Ext w w1) := (ext_below HB0).tr (ext_below b1)
  have HS1 : Hid (V.heap.size ≤ w1.heap.size) := b1.size
  clear A0 A1 A2 b1 HB0 o1
  obtain ⟨z0, y0⟩ := at_block A2' 0 _ rfl
  obtain ⟨x1, _⟩ := at_block A0' 1 _ rfl
  have HU : Hid (∀ U, U = w1.setCell ⟨w.heap.size + 1 + 1, 0, none⟩ (.slice a1 n c1) → Below w.heap.size w U ∧ U.heap[w.heap.size]? = some (.cells #[.slice na n nc, .slice ca m cc] 25 (0, 0)) ∧ U.heap[w.heap.size + 1]? = some (.cells #[.slice none 0 0, .slice none 0 0] 29 (0, 0)) ∧ U.heap[w.heap.size + 1 + 1]? = some (.cells #[.slice a1 n c1, .slice none 0 0] 29 (0, 0)) ∧ Ow U V.heap.size (.slice a1 n c1) d.node) := fun U hU => by
    subst hU
    exact ⟨(ext_bel HX1.out).setCell (Nat.le_trans (Nat.le_succ _) (Nat.le_succ _)) _, set_other _ _ _ (by omega) A0', set_other _ _ _ (by omega) A1', set_block A2' 0 _, ow_set HO1.out (by have := HSZ.out; omega)⟩
  clear A0' A1' A2'
  go_upto_region 3 with fail
  generalize hU : w1.setCell _ _ = U
  obtain ⟨BU, B0, B1, B2, O1⟩ := HU.out U hU.symm
  clear hU HU z0 y0 x1
  have HSU : Hid (w.heap.size + 2 < U.heap.size) := (Array.getElem?_eq_some_iff.1 B2).1
  have HO2 := (show Hid (Ow U V.heap.size (.slice a1 n c1) d.node) from O1)
  have HBU := (show Hid (Below w.heap.size w U) from BU)
  clear O1 BU HO1 HX1 HS1
  obtain ⟨x1, _⟩ := at_block B0 1 _ rfl
  go_wp2_with fail
  refine (toS_Sv _ d.svcs U (HCV.out.ext (ext_below HBU.out)) HL.out.2.1 HL.out.2.2).mono ?_
  rintro e w2 ⟨b5, rfl, o2, b2⟩
  rw [← HM.out] at o2 ⊢
  have D1 := ext_blk (ext_below b2) B1
  have D2 := ext_blk (ext_below b2) B2
  have HO3 : Hid (Ow w2 V.heap.size (.slice a1 n c1) d.node ∧ OSvs w2 U.heap.size (.slice (some ⟨b5, 0, none⟩) m m) d.svcs ∧ Below w.heap.size w w2) := ⟨HO2.out.ext (ext_below b2), o2, HBU.out.trans (b2.mono HBU.out.size)⟩
  obtain ⟨q0, _⟩ := at_block D1 0 _ rfl
  obtain ⟨q1, k1⟩ := at_block D1 1 _ rfl
  obtain ⟨r0, f0⟩ := at_block D2 0 _ rfl
  obtain ⟨r1, f1⟩ := at_block D2 1 _ rfl
  clear x1 B0 B1 B2 o2 b2 D1 D2 HO2 HBU
  have HFIN : Hid (∀ W, w2.grownBy W (some (w.heap.size + 1 + 1)) → ∀ W', W.grownBy W' (some (w.heap.size + 1)) → Ow W' w.heap.size (.slice a1 n c1) d.node ∧ OSvs W' w.heap.size (.slice (some ⟨b5, 0, none⟩) m m) d.svcs ∧ Below w.heap.size w W') := fun W k W' k' => by
    have h1 := HSZ.out
    have h2 := HSU.out
    exact ⟨ow_base (ow_row (ow_row HO3.out.1 k (by omega)) k' (by omega)) (by omega), ((HO3.out.2.1.row k (by omega)).row k' (by omega)).base (by omega), (HO3.out.2.2.grown k HO3.out.2.2.size (fun j hj => by cases hj; omega)).grown k' (Nat.le_trans HO3.out.2.2.size k.size) (fun j hj => by cases hj; omega)⟩
  clear HO3 HSU HSZ
  go_wp2
  refine bodyPost_ret (v := .agg #[.slice a1 n c1, .slice (some ⟨b5, 0, none⟩) m m]) (by simp [results, Try.results7, go_sem, *]) rfl ?_
  have HR3 := HFIN.out _ (set_grown w2 (w.heap.size + 1 + 1) 1 (.slice (some ⟨b5, 0, none⟩) m m)) _ ((set_grown _ (w.heap.size + 1) 0 (.slice a1 n c1)).trans (set_grown _ _ 1 (.slice (some ⟨b5, 0, none⟩) m m)))
  exact ⟨a1, c1, b5, rfl, HR3.1, HR3.2.1, HR3.2.2⟩

set_option maxHeartbeats 2000000 in
theorem eqLoc (v u : Value) (d : DLoc) (w : World) (h : VLoc w v d) (k : VLoc w u d) (hl : LenLo d) :
    Calls Try.prog 10 #[v, u] w fun e w' => e = .returned (.bool true) ∧ Below w.heap.size w w' := by
  have HL : Hid (LenLo d) := hl
  obtain ⟨nv, cv, rfl, hn, hc⟩ := h
  obtain ⟨nu, cu, rfl, kn, kc⟩ := k
  have EE : ∀ o o', Ext w ((w.alloc o).alloc o') := fun o o' => (World.grownBy_alloc _ _ _).trans (World.grownBy_alloc _ _ _)
  have hB2 : ∀ o o', Below w.heap.size w ((w.alloc o).alloc o') := fun o o' => ((Below.refl _ w).alloc (Nat.le_refl _) _).alloc (by simp) _
  have P0 : ∀ o o', ((w.alloc o).alloc o').heap[w.heap.size]? = some o := fun o o' => by rw [Below.heap_alloc _ _ _ (by simp)]; exact heap_alloc_new w o
  have P1 : ∀ o o', ((w.alloc o).alloc o').heap[w.heap.size + 1]? = some o' := fun o o' => by simpa using heap_alloc_new (w.alloc o) o'
  have HC := (show Hid (VSvcs w cv d.svcs ∧ VSvcs w cu d.svcs) from ⟨hc, kc⟩)
  clear hc kc hl
  go_enter Try.func10, Try.ntmps10
  go_wp2_with fail
  refine (eqV_yes nv nu d.node _ (hn.ext (EE _ _)) (kn.ext (EE _ _)) (Nat.le_trans HL.out.1 (by omega))).mono ?_
  rintro e w1 ⟨rfl, q, rfl⟩
  go_wp2_with fail
  refine (eqS_Sv cv cu d.svcs _ (HC.out.1.ext ((EE _ _).tr (ext_drewN _ q))) (HC.out.2.ext ((EE _ _).tr (ext_drewN _ q))) HL.out.2.1 HL.out.2.2).mono ?_
  rintro e w2 ⟨rfl, b2⟩
  go_wp2
  go_ret
  exact ⟨rfl, (below_drewN (hB2 _ _) q).trans (b2.mono (by simp; omega))⟩

end Go.Proofs.Ytjkhadaoldbceaa
