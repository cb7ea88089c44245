
/- Draws of tables: the walk of l10table. -/
import Derived.Test.YtmodliaieienfaaDrT
namespace Go.Proofs.Ytmodliaieienfaa
open Go.RowKit

theorem leave_len {T : DTab} (h : TabP T) : ((leaveD T).1.mems.length = T.mems.length ∧ (leaveD T).1.mems.length ≤ 12) := by
  obtain ⟨i, t, ht, hp, _, _⟩ := own_place h
  rw [leaveD_some h hp ht]
  have := h.1
  split
  · exact ⟨rfl, this⟩
  · simp; omega
theorem over_self (T : DTab) (m t : DMem) (i : Nat) : (overD T m t i).1.self = T.self ∧ (overD T m t i).1.mems.length = T.mems.length := by
  unfold overD
  split
  · exact ⟨rfl, rfl⟩
  · split
    · exact ⟨rfl, by simp⟩
    · split
      · exact ⟨rfl, by simp⟩
      · exact ⟨rfl, by simp⟩
theorem hideR2 {p : Prop} (h : p) : Hid p := h
/-- A word said of a drawn member. -/
theorem sayC (w : World) (B g rb gt : Nat) (T : DTab) (tv : Value) (m : DMem) (W : World) (h : TabS w B g rb gt T tv W) (hm : memLow m) :
    Calls Try.prog 41 #[.pointer (some ⟨gt, 0, none⟩), .agg #[.int .i64 m.id, .int .i64 m.st, .int .i64 m.life]] W fun e W' => ∃ (b : Bool) (T' : DTab) (tv' : Value), e = .returned (.bool b) ∧ TabS w B g rb gt T' tv' W' := by
  obtain ⟨gr, cap, rfl, hbg, hnc, hcm⟩ := h.own.at (tab_pos h.ok)
  have h12 := h.ok.1
  have hmb := low_mem hm
  have hne : gr ≠ gt := fun e => by
    rcases mem_ne h.own h.box with h' | h'
    · cases h'
    · exact h' (by rw [e]; rfl)
  have hnr : rb ≠ gr := fun e => by
    rcases mem_ne h.own h.res with h' | h'
    · cases h'
    · exact h' (by rw [e]; rfl)
  have hlt := h.lt
  rcases placeM_cases T.mems m.id with ⟨hp, _⟩ | ⟨i, t, ht, _, _, hp⟩
  · refine (sSay_none gt w.heap.size gr cap T.mems.length T m W h.box h.own rfl (by omega) hp hne h.gr.size hnc hcm).mono ?_
    rintro e W' ⟨rfl, tv', hb, ho, hs⟩
    exact ⟨true, insD T m, tv', rfl, hb, ho, by have := tab_say h.ok hmb; rw [sayD_none hp] at this; exact this, h.cur.say hs (by have := h.gg; omega) (by omega), grown_say h.gr hs h.gg hbg, blk_say hs h.res h.nr hnr, h.lt, h.gg, h.nr⟩
  · refine (sSay_some gt w.heap.size gr cap T.mems.length i T m t W h.box h.own rfl (by omega) hp ht hne (by unfold memLow at hm; omega)).mono ?_
    rintro e W' ⟨rfl, hb, ho, hs⟩
    refine ⟨_, (overD T m t i).1, _, rfl, ?_, ho, tab_over h.ok hmb ht, h.cur.say hs (by have := h.gg; omega) (by omega), grown_say h.gr hs h.gg hbg, blk_say hs h.res h.nr hnr, h.lt, h.gg, h.nr⟩
    rw [(over_self T m t i).1]
    exact hb

/-- Two numbers laid in a box of a table. -/
theorem tab_lay {w V : World} {B g rb : Nat} {T : DTab} {tv c0 c1 : Value} (hc : Cur V B g) (hg : w.grownBy V (some g)) (ho : OwMem V w.heap.size tv T.mems) (hr : V.heap[rb]? = some (.cells #[c0, c1] 28 (0, 0))) (hw : w.heap.size ≤ rb) (hl : g < w.heap.size) (v0 v1 : Value) :
    OwMem ((V.setCell ⟨rb, 0, none⟩ v0).setCell ⟨rb, 1, none⟩ v1) w.heap.size tv T.mems ∧ Cur ((V.setCell ⟨rb, 0, none⟩ v0).setCell ⟨rb, 1, none⟩ v1) B g ∧ w.grownBy ((V.setCell ⟨rb, 0, none⟩ v0).setCell ⟨rb, 1, none⟩ v1) (some g) := by
  have hs : V.grownBy ((V.setCell ⟨rb, 0, none⟩ v0).setCell ⟨rb, 1, none⟩ v1) (some rb) := (set_grown _ _ _ _).trans (set_grown _ _ _ _)
  exact ⟨ho.keep hs (mem_ne ho hr), hc.off hs (by omega), grown_both hg hs hw⟩
/-- What a draw of a table leaves. -/
def TabDrawn (w : World) (B g : Nat) (e : Ending) (w' : World) : Prop := ∃ (T : DTab) (tv : Value), e = .returned (.agg #[.int .i64 T.self, tv]) ∧ OwMem w' w.heap.size tv T.mems ∧ 0 < T.mems.length ∧ T.mems.length ≤ 12 ∧ Cur w' B g ∧ w.grownBy w' (some g)

set_option maxRecDepth 20000 in
set_option maxHeartbeats 4000000 in
theorem tableC (B g : Nat) (w : World) (hc : Cur w B g) : Calls Try.prog 26 #[.pointer (some ⟨g, 0, none⟩)] w (TabDrawn w B g) := by
  have hE : ∀ w : World, ∀ o, Ext w (w.alloc o) := fun w o => World.grownBy_alloc _ _ _
  have HC : Hid (Cur w B g) := hc
  have HGL : Hid (g < w.heap.size) := (cur_in hc).1
  clear hc
  go_enter Try.func26, Try.ntmps26
  go_wp2_with fail
  generalize hW : w.alloc _ = W
  have XW : Ext w W := by rw [← hW]; exact hE _ _
  have R0 : W.heap[w.heap.size]? = some (.cells #[.int .i64 0, .slice none 0 0] 28 (0, 0)) := by rw [← hW]; exact heap_alloc_new w _
  clear hW
  refine (belowC B g 6 W (HC.out.ext XW) (by omega)).mono ?_
  rintro e w1 ⟨r, hr0, hr1, _, rfl, hc1, hg1⟩
  have hr6 : r < 6 := hr1 (by omega)
  have HR6 : Hid (0 ≤ r ∧ r < 6) := ⟨hr0, hr6⟩
  have R1 := grown_blk hg1 (by have := HGL.out; omega) R0
  have G1 : w.grownBy w1 (some g) := grown_tr (ext_row XW _) hg1
  clear hr0 hr1 hr6
  go_wp2_with fail
  refine (sTableNewV r w1).mono ?_
  rintro e w2 ⟨tv, rfl, o2, b2⟩
  have HTN : Hid (TabP (newD r).1) := tab_new HR6.out.1 HR6.out.2
  obtain ⟨T0, hT0⟩ : ∃ T0, T0 = newD r := ⟨_, rfl⟩
  rw [← hT0] at o2 HTN ⊢
  have X2 : Ext w1 w2 := ext_below b2
  have HM2 : Hid (∀ V, V = w2.alloc (.cells #[.int .i64 T0.1.self, tv] 28 (0, 0)) → TabS w B g w.heap.size w2.heap.size T0.1 tv V) := fun V hV => by
    subst hV
    have XV : Ext w1 (w2.alloc (.cells #[.int .i64 T0.1.self, tv] 28 (0, 0))) := X2.tr (hE _ _)
    have hs1 := (Array.getElem?_eq_some_iff.1 R1).1
    exact ⟨heap_alloc_new w2 _, (o2.ext (hE _ _)).base G1.size, HTN.out, hc1.ext XV, grown_tr G1 (ext_row XV _), ext_blk XV R1, HGL.out, Nat.le_trans G1.size X2.size, by have := X2.size; omega⟩
  obtain ⟨ta, tc, htv⟩ := o2.v.shape
  subst htv
  clear R0 R1 hc1 hg1 o2 b2 G1 hT0
  go_upto_region 2 with fail
  generalize hV : w2.alloc _ = V
  have HT0 := hideR2 (HM2.out V hV.symm)
  clear hV HM2 X2 XW
  generalize w2.heap.size = gt at *
  go_wp2_with fail
  refine (belowC B g 8 V HT0.out.cur (by omega)).mono ?_
  rintro e w3 ⟨n, hn0, hn1, _, rfl, hc3, hg3⟩
  have hn8 : n < 8 := hn1 (by omega)
  obtain ⟨nn, rfl⟩ := Int.eq_ofNat_of_zero_le hn0
  have HT3 := hideR2 (HT0.out.draw hc3 hg3)
  clear hn0 hn1 hc3 hg3 HT0
  go_wp2
  go_loopw [6] (fun i wr => ∃ (k : Nat) (T : DTab) (tv : Value), k ≤ nn ∧ i = .int .i64 k ∧ Hid (TabS w B g w.heap.size gt T tv wr)) (fun i _ => nn - (intOf i).toNat)
  case atStart => exact ⟨0, _, _, Nat.zero_le _, rfl, HT3⟩
  case round =>
    obtain ⟨k, T, tv, hk, rfl, hS⟩ := hrel
    by_cases hlt : k < nn
    · have hlt' : (k : Int) < (nn : Int) := by omega
      go_wp2_with fail
      refine (memC B g wr hS.out.cur).mono ?_
      rintro e w4 ⟨m, rfl, hm, hc4, hg4⟩
      have HS4 := hideR2 (hS.out.draw hc4 hg4)
      have HM : Hid (memLow m) := hm
      clear hm hc4 hg4
      go_wp2_with fail
      refine (sayC w B g w.heap.size gt T tv m w4 HS4.out HM.out).mono ?_
      rintro e w5 ⟨bb, T', tv', rfl, hS5⟩
      have HS5 : Hid (TabS w B g w.heap.size gt T' tv' w5) := hS5
      clear hS5
      go_wp2
      go_roundw
      case rel => exact ⟨k + 1, T', tv', by omega, by go_num, HS5⟩
      case measure => simp [intOf]; omega
    · go_wp2_with fail
      refine (onceC B g 8 wr hS.out.cur (by omega)).mono ?_
      rintro e w4 ⟨y, rfl, hc4, hg4⟩
      have HS4 := hideR2 (hS.out.draw hc4 hg4)
      clear hc4 hg4
      obtain ⟨va, vc, hva⟩ := HS4.out.own.v.shape
      subst hva
      have HNE : Hid (w.heap.size ≠ gt ∧ gt ≠ w.heap.size) := ⟨HS4.out.nr, Ne.symm HS4.out.nr⟩
      have hne1 : w.heap.size ≠ gt := HNE.out.1
      have hne2 : gt ≠ w.heap.size := HNE.out.2
      cases y
      · have HF : Hid (TabDrawn w B g (.returned (.agg #[.int .i64 T.self, .slice va T.mems.length vc])) ((w4.setCell ⟨w.heap.size, 0, none⟩ (.int .i64 T.self)).setCell ⟨w.heap.size, 1, none⟩ (.slice va T.mems.length vc))) := by
          obtain ⟨h1, h2, h3⟩ := tab_lay HS4.out.cur HS4.out.gr HS4.out.own HS4.out.res (Nat.le_refl _) HS4.out.lt (.int .i64 T.self) (.slice va T.mems.length vc)
          exact ⟨T, _, rfl, h1, tab_pos HS4.out.ok, HS4.out.ok.1, h2, h3⟩
        obtain ⟨x0, x1⟩ := two_cells HS4.out.box
        obtain ⟨r0, f0⟩ := at_block HS4.out.res 0 _ rfl
        obtain ⟨r1, f1⟩ := at_block HS4.out.res 1 _ rfl
        go_wp2
        exact bodyPost_ret (v := .agg #[.int .i64 T.self, .slice va T.mems.length vc]) (by simp [results, Try.results26, go_sem, *]) rfl HF.out
      · obtain ⟨x0, x1⟩ := two_cells HS4.out.box
        go_wp2_with fail
        refine (sLeaveV _ T w4 ⟨_, rfl, HS4.out.own.v⟩ (by have := HS4.out.ok.1; omega)).mono ?_
        rintro e w5 ⟨lv, rfl, o5, b5⟩
        have HLL : Hid (0 < (leaveD T).1.mems.length ∧ (leaveD T).1.mems.length ≤ 12) := by have h1 := leave_len HS4.out.ok; have h2 := tab_pos HS4.out.ok; unfold Hid; omega
        obtain ⟨L, hL⟩ : ∃ L, L = leaveD T := ⟨_, rfl⟩
        rw [← hL] at o5 HLL ⊢
        have X5 : Ext w4 w5 := ext_below b5
        obtain ⟨la, lc, hlv⟩ := o5.v.shape
        subst hlv
        have BX5 := ext_blk X5 HS4.out.box
        have RX5 := ext_blk X5 HS4.out.res
        have hw4 : w.heap.size ≤ w4.heap.size := HS4.out.gr.size
        have hs5 : w5.grownBy ((w5.setCell ⟨gt, 0, none⟩ (.int .i64 L.1.self)).setCell ⟨gt, 1, none⟩ (.slice la L.1.mems.length lc)) (some gt) := (set_grown _ _ _ _).trans (set_grown _ _ _ _)
        have HF : Hid (TabDrawn w B g (.returned (.agg #[.int .i64 L.1.self, .slice la L.1.mems.length lc])) ((((w5.setCell ⟨gt, 0, none⟩ (.int .i64 L.1.self)).setCell ⟨gt, 1, none⟩ (.slice la L.1.mems.length lc)).setCell ⟨w.heap.size, 0, none⟩ (.int .i64 L.1.self)).setCell ⟨w.heap.size, 1, none⟩ (.slice la L.1.mems.length lc))) := by
          have c5 := (HS4.out.cur.ext X5).off hs5 (by have := HS4.out.lt; have := HS4.out.gg; omega)
          have g5 := grown_both (grown_tr HS4.out.gr (ext_row X5 _)) hs5 HS4.out.gg
          have o6 := (o5.keep hs5 (mem_ne o5 BX5)).base hw4
          have r6 := (hs5.block w.heap.size (Array.getElem?_eq_some_iff.1 RX5).1 (by simpa using hne1)).trans RX5
          obtain ⟨h1, h2, h3⟩ := tab_lay c5 g5 o6 r6 (Nat.le_refl _) HS4.out.lt (.int .i64 L.1.self) (.slice la L.1.mems.length lc)
          exact ⟨L.1, _, rfl, h1, HLL.out.1, HLL.out.2, h2, h3⟩
        obtain ⟨k0, e0⟩ := at_block BX5 0 _ rfl
        obtain ⟨k1, e1⟩ := at_block BX5 1 _ rfl
        obtain ⟨r0, f0⟩ := at_block RX5 0 _ rfl
        obtain ⟨r1, f1⟩ := at_block RX5 1 _ rfl
        clear x0 x1 BX5 RX5 X5 o5 b5 hL hs5
        go_wp2
        exact bodyPost_ret (v := .agg #[.int .i64 L.1.self, .slice la L.1.mems.length lc]) (by simp [results, Try.results26, go_sem, *]) rfl HF.out

end Go.Proofs.Ytmodliaieienfaa
