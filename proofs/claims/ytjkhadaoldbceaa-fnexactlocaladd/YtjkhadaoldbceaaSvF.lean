
/- Copies of locals whose parts lie apart. -/
import Derived.Test.YtjkhadaoldbceaaSvE
namespace Go.Proofs.Ytjkhadaoldbceaa
open Go.RowKit

set_option maxHeartbeats 2000000 in
theorem toLocD (v : Value) (d : DLoc) (w : World) (h : VLoc w v d) (hl : LenLo d) :
    Calls Try.prog 7 #[v] w fun e w' => ∃ a c b mid, e = .returned (.agg #[.slice a d.node.length c, .slice (some ⟨b, 0, none⟩) d.svcs.length d.svcs.length]) ∧ OwS (Rg w.heap.size mid) w' (.slice a d.node.length c) d.node ∧ OSD (Rg mid w'.heap.size) w' (.slice (some ⟨b, 0, none⟩) d.svcs.length d.svcs.length) d.svcs ∧ (w.heap.size ≤ mid ∧ mid ≤ w'.heap.size) ∧ Below w.heap.size w w' := by
  obtain ⟨nv, cv, rfl, hn, hc⟩ := h
  have HR : Hid (∀ x ∈ d.node, 0 ≤ x ∧ x ≤ 255) := rv_rngK hn
  have HL : Hid (LenLo d) := hl
  obtain ⟨n, hnn⟩ : ∃ n, n = d.node.length := ⟨_, rfl⟩
  have HN : Hid (n = d.node.length) := hnn
  obtain ⟨m, hmm⟩ : ∃ m, m = d.svcs.length := ⟨_, rfl⟩
  have HM : Hid (m = d.svcs.length) := hmm
  obtain ⟨na, nc, hnv⟩ := rv_shape hn
  obtain ⟨ca, cc, hcv⟩ := svcs_shape hc
  rw [← hnn] at hnv ⊢
  rw [← hmm] at hcv ⊢
  subst hnv
  subst hcv
  clear hnn hmm hl
  have HNV := (show Hid (RV w (.slice na n nc) d.node) from hn)
  have HCV := (show Hid (VSvcs w (.slice ca m cc) d.svcs) from hc)
  clear hn hc
  go_enter Try.func7, Try.ntmps7
  go_wp2_with fail
  generalize hV : World.alloc (World.alloc (World.alloc w _) _) _ = V
  have HB0 : Below w.heap.size w V := by
    rw [← hV]
    exact (((Below.refl _ w).alloc (Nat.le_refl _) _).alloc (by simp) _).alloc (by simp; omega) _
  have A0 : V.heap[w.heap.size]? = some (.cells #[.slice na n nc, .slice ca m cc] 25 (0, 0)) := by
    rw [← hV, Below.heap_alloc _ _ _ (by simp; omega), Below.heap_alloc _ _ _ (by simp)]; exact heap_alloc_new w _
  have A1 : V.heap[w.heap.size + 1]? = some (.cells #[.slice none 0 0, .slice none 0 0] 29 (0, 0)) := by
    rw [← hV, Below.heap_alloc _ _ _ (by simp)]; simpa using heap_alloc_new (World.alloc w _) (.cells #[.slice none 0 0, .slice none 0 0] 29 (0, 0))
  have A2 : V.heap[w.heap.size + 1 + 1]? = some (.cells #[.slice none 0 0, .slice none 0 0] 29 (0, 0)) := by
    rw [← hV]; simpa using heap_alloc_new (World.alloc (World.alloc w _) _) (.cells #[.slice none 0 0, .slice none 0 0] 29 (0, 0))
  have HSZ : Hid (w.heap.size + 2 < V.heap.size) := (Array.getElem?_eq_some_iff.1 A2).1
  clear hV
  refine (toV _ d.node V (HNV.out.ext (ext_below HB0)) HL.out.1).mono ?_
  rintro e w1 ⟨v1, rfl, o1, b1⟩
  obtain ⟨a1, c1, rfl, _, _, _⟩ := Ow.rv o1 HR.out
  rw [← HN.out] at o1 ⊢
  have A0' := ext_blk (ext_below b1) A0
  have A1' := ext_blk (ext_below b1) A1
  have A2' := ext_blk (ext_below b1) A2
  have HO1 : Hid (Ow w1 V.heap.size (.slice a1 n c1) d.node) := o1
  have HX1 : Hid (Ext w w1) := (ext_below HB0).tr (ext_below b1)
  have HS1 : Hid (V.heap.size ≤ w1.heap.size) := b1.size
  clear A0 A1 A2 b1 HB0 o1
  obtain ⟨z0, y0⟩ := at_block A2' 0 _ rfl
  obtain ⟨x1, _⟩ := at_block A0' 1 _ rfl
  have HU : Hid (∀ U, U = w1.setCell ⟨w.heap.size + 1 + 1, 0, none⟩ (.slice a1 n c1) → Below w.heap.size w U ∧ U.heap[w.heap.size]? = some (.cells #[.slice na n nc, .slice ca m cc] 25 (0, 0)) ∧ U.heap[w.heap.size + 1]? = some (.cells #[.slice none 0 0, .slice none 0 0] 29 (0, 0)) ∧ U.heap[w.heap.size + 1 + 1]? = some (.cells #[.slice a1 n c1, .slice none 0 0] 29 (0, 0)) ∧ Ow U V.heap.size (.slice a1 n c1) d.node) := fun U hU => by
    subst hU
    exact ⟨(ext_bel HX1.out).setCell (Nat.le_trans (Nat.le_succ _) (Nat.le_succ _)) _, set_other _ _ _ (by omega) A0', set_other _ _ _ (by omega) A1', set_block A2' 0 _, ow_set HO1.out (by have := HSZ.out; omega)⟩
  clear A0' A1' A2'
  go_upto_region 3 with fail
  generalize hU : w1.setCell _ _ = U
  obtain ⟨BU, B0, B1, B2, O1⟩ := HU.out U hU.symm
  clear hU HU z0 y0 x1
  have HSU : Hid (w.heap.size + 2 < U.heap.size) := (Array.getElem?_eq_some_iff.1 B2).1
  have HO2 := (show Hid (Ow U V.heap.size (.slice a1 n c1) d.node) from O1)
  have HBU := (show Hid (Below w.heap.size w U) from BU)
  clear O1 BU HO1 HX1 HS1
  obtain ⟨x1, _⟩ := at_block B0 1 _ rfl
  go_wp2_with fail
  refine (toS_SvD _ d.svcs U (HCV.out.ext (ext_below HBU.out)) HL.out.2.1 HL.out.2.2).mono ?_
  rintro e w2 ⟨b5, rfl, o2, b2⟩
  rw [← HM.out] at o2 ⊢
  have HUS : Hid (U.heap.size ≤ w2.heap.size) := b2.size
  have D1 := ext_blk (ext_below b2) B1
  have D2 := ext_blk (ext_below b2) B2
  have HO3 : Hid (OwS (Rg w.heap.size U.heap.size) w2 (.slice a1 n c1) d.node ∧ OSD (Rg U.heap.size w2.heap.size) w2 (.slice (some ⟨b5, 0, none⟩) m m) d.svcs ∧ Below w.heap.size w w2) := ⟨((ows_of HO2.out HR.out (Nat.le_refl _)).mono (fun b hb => ⟨by have := HSZ.out; have := hb.1; omega, hb.2⟩)).ext (ext_below b2), o2, HBU.out.trans (b2.mono HBU.out.size)⟩
  have HNM : Hid (∀ b, (Value.slice a1 n c1).ownBlock = some b → V.heap.size ≤ b) := fun b hb => (World.ownsRow.lt HO2.out b hb).1
  obtain ⟨q0, _⟩ := at_block D1 0 _ rfl
  obtain ⟨q1, k1⟩ := at_block D1 1 _ rfl
  obtain ⟨r0, f0⟩ := at_block D2 0 _ rfl
  obtain ⟨r1, f1⟩ := at_block D2 1 _ rfl
  clear x1 B0 B1 B2 o2 b2 D1 D2 HO2 HBU
  have HFIN : Hid (∀ W, w2.grownBy W (some (w.heap.size + 1 + 1)) → ∀ W', W.grownBy W' (some (w.heap.size + 1)) → OwS (Rg w.heap.size U.heap.size) W' (.slice a1 n c1) d.node ∧ OSD (Rg U.heap.size W'.heap.size) W' (.slice (some ⟨b5, 0, none⟩) m m) d.svcs ∧ (w.heap.size ≤ U.heap.size ∧ U.heap.size ≤ W'.heap.size) ∧ Below w.heap.size w W') := fun W k W' k' => by
    have h1 := HSZ.out
    have h2 := HSU.out
    have T : Trn (fun b => b = w.heap.size + 1 + 1 ∨ b = w.heap.size + 1) w2 W' := (Trn.one k (fun x e => by cases e; exact .inl rfl)).trans (Trn.one k' (fun x e => by cases e; exact .inr rfl))
    have N : OwS (fun b => V.heap.size ≤ b ∧ b < U.heap.size) w2 (.slice a1 n c1) d.node := ⟨HO3.out.1.1, fun b hb => ⟨HNM.out b hb, (HO3.out.1.2 b hb).2⟩⟩
    have hs2 := HUS.out
    have ts := T.size
    refine ⟨(N.keep T (fun b hb e => by have := hb.1; omega)).mono (fun b hb => ⟨by have := hb.1; omega, hb.2⟩), (HO3.out.2.1.keep T (fun b hb e => by have := hb.1; omega)).mono (fun b hb => ⟨hb.1, by have := hb.2; omega⟩), ⟨by omega, by omega⟩, (HO3.out.2.2.grown k HO3.out.2.2.size (fun j hj => by cases hj; omega)).grown k' (Nat.le_trans HO3.out.2.2.size k.size) (fun j hj => by cases hj; omega)⟩
  clear HO3 HSU HSZ HNM HUS
  go_wp2
  refine bodyPost_ret (v := .agg #[.slice a1 n c1, .slice (some ⟨b5, 0, none⟩) m m]) (by simp [results, Try.results7, go_sem, *]) rfl ?_
  have HR3 := HFIN.out _ (set_grown w2 (w.heap.size + 1 + 1) 1 (.slice (some ⟨b5, 0, none⟩) m m)) _ ((set_grown _ (w.heap.size + 1) 0 (.slice a1 n c1)).trans (set_grown _ _ 1 (.slice (some ⟨b5, 0, none⟩) m m)))
  exact ⟨a1, c1, b5, _, rfl, HR3.1, HR3.2.1, HR3.2.2.1, HR3.2.2.2⟩

/-- The copy as one owned thing. -/
theorem old_of {w : World} {nv sv : Value} {L : DLoc} {lo mid hi : Nat} (h1 : OwS (Rg lo mid) w nv L.node) (h2 : OSD (Rg mid hi) w sv L.svcs) (h : lo ≤ mid ∧ mid ≤ hi) : OLD (Rg lo hi) w nv sv L :=
  ⟨_, _, h1, h2, fun b hb hk => by have := hb.2; have := hk.1; omega, fun b hb => ⟨hb.1, Nat.lt_of_lt_of_le hb.2 h.2⟩, fun b hb => ⟨Nat.le_trans h.1 hb.1, hb.2⟩⟩

end Go.Proofs.Ytjkhadaoldbceaa
