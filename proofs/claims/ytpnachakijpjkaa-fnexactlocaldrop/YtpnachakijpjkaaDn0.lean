
/- The specification's l14done. -/
import Derived.Test.YtpnachakijpjkaaTkS
namespace Go.Proofs.Ytpnachakijpjkaa
open Go.RowKit

/-- The new local where it may be one, else the elder. -/
def doneX (ok : Bool) (O L : DLoc) : DLoc × Bool := if ok then (O, true) else (L, false)

set_option maxRecDepth 20000 in
set_option maxHeartbeats 4000000 in
theorem sl14doneV (v u : Value) (L O : DLoc) (w : World) (h : VLoc w v L) (k : VLoc w u O) (hl : LenLo L) (ho : LenLo O) :
    Calls Try.prog 43 #[v, u] w fun e w' => ∃ nv sv mid, e = .returned (.tuple #[.agg #[nv, sv], .bool (doneX (tB (LocP O)) O L).2]) ∧ OwS (Rg w.heap.size mid) w' nv (doneX (tB (LocP O)) O L).1.node ∧ OSD (Rg mid w'.heap.size) w' sv (doneX (tB (LocP O)) O L).1.svcs ∧ (w.heap.size ≤ mid ∧ mid ≤ w'.heap.size) ∧ Below w.heap.size w w' := by
  have hE : ∀ w : World, ∀ o, Ext w (w.alloc o) := fun w o => World.grownBy_alloc _ _ _
  have h0 := hidL h
  have j0 := hidL k
  obtain ⟨nv, sv, rfl, hn, hs⟩ := h
  obtain ⟨na, nc, rfl⟩ := rv_shape hn
  obtain ⟨sa, sc, rfl⟩ := svcs_shape hs
  obtain ⟨mv, tv, rfl, qn, qs⟩ := k
  obtain ⟨oa, oc, rfl⟩ := rv_shape qn
  obtain ⟨ua, uc, rfl⟩ := svcs_shape qs
  obtain ⟨nn, hnn⟩ : ∃ nn, nn = L.node.length := ⟨_, rfl⟩
  obtain ⟨m, hm⟩ : ∃ m, m = L.svcs.length := ⟨_, rfl⟩
  obtain ⟨on, hon⟩ : ∃ on, on = O.node.length := ⟨_, rfl⟩
  obtain ⟨om, hom⟩ : ∃ om, om = O.svcs.length := ⟨_, rfl⟩
  have HNN := hidL hnn
  have HM := hidL hm
  have HON := hidL hon
  have HOM := hidL hom
  rw [← hnn, ← hm] at h0 ⊢
  rw [← hon, ← hom] at j0 ⊢
  have HL := hidL hl
  have HO := hidL ho
  clear hnn hm hn hs hl hon hom qn qs ho
  have HLO : Hid (∀ V, Ext w V → Calls Try.prog 9 #[.agg #[.slice oa on oc, .slice ua om uc]] V fun e w' => e = .returned (.bool (tB (LocP O))) ∧ Below V.heap.size V w') := fun V e => sLocalOkV _ O V (j0.out.ext e) HO.out
  have HOW : Hid (∀ V, Ext w V → Calls Try.prog 42 #[.agg #[.slice na nn nc, .slice sa m sc]] V fun e w' => ∃ xa xc xb xd mid, e = .returned (.agg #[.slice xa nn xc, .slice xb m xd]) ∧ OwS (Rg V.heap.size mid) w' (.slice xa nn xc) L.node ∧ OSD (Rg mid w'.heap.size) w' (.slice xb m xd) L.svcs ∧ (V.heap.size ≤ mid ∧ mid ≤ w'.heap.size) ∧ Below V.heap.size V w') := fun V e => (sOwnLV _ L V (h0.out.ext e) HL.out).mono fun e w' ⟨nv, sv, mid, h1, h2, h3, h4, h5⟩ => by
    obtain ⟨xa, xc, rfl⟩ := rv_shape h2.rv
    obtain ⟨xb, xd, rfl⟩ := svcs_shape h3.v
    rw [← HNN.out] at h1 h2
    rw [← HM.out] at h1 h3
    exact ⟨xa, xc, xb, xd, mid, h1, h2, h3, h4, h5⟩
  have HOX : Hid (∀ V, Ext w V → Calls Try.prog 42 #[.agg #[.slice oa on oc, .slice ua om uc]] V fun e w' => ∃ xa xc xb xd mid, e = .returned (.agg #[.slice xa on xc, .slice xb om xd]) ∧ OwS (Rg V.heap.size mid) w' (.slice xa on xc) O.node ∧ OSD (Rg mid w'.heap.size) w' (.slice xb om xd) O.svcs ∧ (V.heap.size ≤ mid ∧ mid ≤ w'.heap.size) ∧ Below V.heap.size V w') := fun V e => (sOwnLV _ O V (j0.out.ext e) HO.out).mono fun e w' ⟨nv, sv, mid, h1, h2, h3, h4, h5⟩ => by
    obtain ⟨xa, xc, rfl⟩ := rv_shape h2.rv
    obtain ⟨xb, xd, rfl⟩ := svcs_shape h3.v
    rw [← HON.out] at h1 h2
    rw [← HOM.out] at h1 h3
    exact ⟨xa, xc, xb, xd, mid, h1, h2, h3, h4, h5⟩
  have HR : Hid (∀ x, tB (LocP O) = x → doneX (tB (LocP O)) O L = if x then (O, true) else (L, false)) := fun x h => by subst h; rfl
  obtain ⟨R, hR⟩ : ∃ R, R = doneX (tB (LocP O)) O L := ⟨_, rfl⟩
  rw [← hR] at HR ⊢
  clear hR
  go_enter Try.func43, Try.ntmps43
  go_upto_region 1 with fail
  generalize hW : World.alloc (World.alloc (World.alloc w _) _) _ = W
  have PA : W.heap[w.heap.size]? = some (.cells #[.slice na nn nc, .slice sa m sc] 30 (0, 0)) := by rw [← hW]; exact ext_blk (hE _ _) (al2a _ _ _)
  have PO : W.heap[w.heap.size + 1]? = some (.cells #[.slice oa on oc, .slice ua om uc] 30 (0, 0)) := by rw [← hW]; exact ext_blk (hE _ _) (al2b _ _ _)
  have PR : W.heap[w.heap.size + 2]? = some (.cells #[.slice none 0 0, .slice none 0 0] 30 (0, 0)) := by rw [← hW]; simpa using heap_alloc_new (World.alloc (World.alloc w _) _) _
  have BW : Below w.heap.size w W := by rw [← hW]; exact (((Below.refl _ w).alloc (Nat.le_refl _) _).alloc (by simp) _).alloc (by simp; omega) _
  have hW2 : Hid (W.heap.size = w.heap.size + 3) := by show _ = _; rw [← hW]; simp
  clear hW
  obtain ⟨⟨y0, y1⟩, _, _⟩ := cells2S PO
  go_wp2_with fail
  refine (HLO.out W (ext_below BW)).mono ?_
  rintro e w1 ⟨rfl, b1⟩
  have PA1 := below_blk b1 (by have := hW2.out; omega) PA
  have PO1 := below_blk b1 (by have := hW2.out; omega) PO
  have PR1 := below_blk b1 (by have := hW2.out; omega) PR
  have B1 := hidL (BW.trans (b1.mono BW.size))
  clear y0 y1 PA PO PR BW b1
  obtain ⟨⟨x0, x1⟩, _, _⟩ := cells2S PA1
  obtain ⟨⟨y0, y1⟩, _, _⟩ := cells2S PO1
  obtain ⟨⟨r0, r1⟩, k0, k1⟩ := cells2S PR1
  clear PA1 PO1
  cases hb : tB (LocP O)
  · have HK : Hid (R = (L, false)) := by show _ = _; rw [HR.out false hb]; rfl
    clear hb HR
    go_wp2_with fail
    refine (HOW.out w1 (ext_below B1.out)).mono ?_
    rintro e w2 ⟨xa, xc, xb, xd, mid, rfl, o2, s2, hm2, b2⟩
    have PR2 := below_blk b2 (Array.getElem?_eq_some_iff.1 PR1).1 PR1
    have B2 := B1.out.trans (b2.mono B1.out.size)
    have hw1 := (Array.getElem?_eq_some_iff.1 PR1).1
    have TR : Trn (fun b => b = w.heap.size + 2) w2 ((w2.setCell ⟨w.heap.size + 2, 0, none⟩ (.slice xa nn xc)).setCell ⟨w.heap.size + 2, 1, none⟩ (.slice xb m xd)) := (Trn.set (fun b => b = w.heap.size + 2) _ _ _ _ rfl).trans (Trn.set (fun b => b = w.heap.size + 2) _ _ _ _ rfl)
    have hss : ((w2.setCell ⟨w.heap.size + 2, 0, none⟩ (.slice xa nn xc)).setCell ⟨w.heap.size + 2, 1, none⟩ (.slice xb m xd)).heap.size = w2.heap.size := by simp
    have HW1 : Hid (OwS (Rg w.heap.size mid) ((w2.setCell ⟨w.heap.size + 2, 0, none⟩ (.slice xa nn xc)).setCell ⟨w.heap.size + 2, 1, none⟩ (.slice xb m xd)) (.slice xa nn xc) L.node) := (o2.keep TR (fun b h e => by have := h.1; omega)).mono (fun b h => ⟨by have := h.1; omega, h.2⟩)
    have HW2 : Hid (OSD (Rg mid ((w2.setCell ⟨w.heap.size + 2, 0, none⟩ (.slice xa nn xc)).setCell ⟨w.heap.size + 2, 1, none⟩ (.slice xb m xd)).heap.size) ((w2.setCell ⟨w.heap.size + 2, 0, none⟩ (.slice xa nn xc)).setCell ⟨w.heap.size + 2, 1, none⟩ (.slice xb m xd)) (.slice xb m xd) L.svcs) := by
      rw [hss]
      exact s2.keep TR (fun b h e => by have := h.1; have := hm2.1; omega)
    have HW3 : Hid (Below w.heap.size w ((w2.setCell ⟨w.heap.size + 2, 0, none⟩ (.slice xa nn xc)).setCell ⟨w.heap.size + 2, 1, none⟩ (.slice xb m xd))) := (B2.setCell (by show w.heap.size ≤ w.heap.size + 2; omega) _).setCell (by show w.heap.size ≤ w.heap.size + 2; omega) _
    have HW4 := hidL (show w.heap.size ≤ mid ∧ mid ≤ ((w2.setCell ⟨w.heap.size + 2, 0, none⟩ (.slice xa nn xc)).setCell ⟨w.heap.size + 2, 1, none⟩ (.slice xb m xd)).heap.size by rw [hss]; omega)
    clear x0 x1 y0 y1 r0 r1 k0 k1 hss TR o2 s2 hm2 b2 B2 hw1
    obtain ⟨⟨r0, r1⟩, k0, k1⟩ := cells2S PR2
    clear PR2 PR1
    go_wp2
    refine bodyPost_ret (v := .tuple #[.agg #[.slice xa nn xc, .slice xb m xd], .bool false]) (by simp [results, Try.results43, go_sem, *]) rfl ?_
    rw [HK.out]
    exact ⟨_, _, mid, rfl, HW1.out, HW2.out, HW4.out, HW3.out⟩
  · have HK : Hid (R = (O, true)) := by show _ = _; rw [HR.out true hb]; rfl
    clear hb HR
    go_wp2_with fail
    refine (HOX.out w1 (ext_below B1.out)).mono ?_
    rintro e w2 ⟨xa, xc, xb, xd, mid, rfl, o2, s2, hm2, b2⟩
    have PR2 := below_blk b2 (Array.getElem?_eq_some_iff.1 PR1).1 PR1
    have B2 := B1.out.trans (b2.mono B1.out.size)
    have hw1 := (Array.getElem?_eq_some_iff.1 PR1).1
    have TR : Trn (fun b => b = w.heap.size + 2) w2 ((w2.setCell ⟨w.heap.size + 2, 0, none⟩ (.slice xa on xc)).setCell ⟨w.heap.size + 2, 1, none⟩ (.slice xb om xd)) := (Trn.set (fun b => b = w.heap.size + 2) _ _ _ _ rfl).trans (Trn.set (fun b => b = w.heap.size + 2) _ _ _ _ rfl)
    have hss : ((w2.setCell ⟨w.heap.size + 2, 0, none⟩ (.slice xa on xc)).setCell ⟨w.heap.size + 2, 1, none⟩ (.slice xb om xd)).heap.size = w2.heap.size := by simp
    have HW1 : Hid (OwS (Rg w.heap.size mid) ((w2.setCell ⟨w.heap.size + 2, 0, none⟩ (.slice xa on xc)).setCell ⟨w.heap.size + 2, 1, none⟩ (.slice xb om xd)) (.slice xa on xc) O.node) := (o2.keep TR (fun b h e => by have := h.1; omega)).mono (fun b h => ⟨by have := h.1; omega, h.2⟩)
    have HW2 : Hid (OSD (Rg mid ((w2.setCell ⟨w.heap.size + 2, 0, none⟩ (.slice xa on xc)).setCell ⟨w.heap.size + 2, 1, none⟩ (.slice xb om xd)).heap.size) ((w2.setCell ⟨w.heap.size + 2, 0, none⟩ (.slice xa on xc)).setCell ⟨w.heap.size + 2, 1, none⟩ (.slice xb om xd)) (.slice xb om xd) O.svcs) := by
      rw [hss]
      exact s2.keep TR (fun b h e => by have := h.1; have := hm2.1; omega)
    have HW3 : Hid (Below w.heap.size w ((w2.setCell ⟨w.heap.size + 2, 0, none⟩ (.slice xa on xc)).setCell ⟨w.heap.size + 2, 1, none⟩ (.slice xb om xd))) := (B2.setCell (by show w.heap.size ≤ w.heap.size + 2; omega) _).setCell (by show w.heap.size ≤ w.heap.size + 2; omega) _
    have HW4 := hidL (show w.heap.size ≤ mid ∧ mid ≤ ((w2.setCell ⟨w.heap.size + 2, 0, none⟩ (.slice xa on xc)).setCell ⟨w.heap.size + 2, 1, none⟩ (.slice xb om xd)).heap.size by rw [hss]; omega)
    clear x0 x1 y0 y1 r0 r1 k0 k1 hss TR o2 s2 hm2 b2 B2 hw1
    obtain ⟨⟨r0, r1⟩, k0, k1⟩ := cells2S PR2
    clear PR2 PR1
    go_wp2
    refine bodyPost_ret (v := .tuple #[.agg #[.slice xa on xc, .slice xb om xd], .bool true]) (by simp [results, Try.results43, go_sem, *]) rfl ?_
    rw [HK.out]
    exact ⟨_, _, mid, rfl, HW1.out, HW2.out, HW4.out, HW3.out⟩

end Go.Proofs.Ytpnachakijpjkaa
