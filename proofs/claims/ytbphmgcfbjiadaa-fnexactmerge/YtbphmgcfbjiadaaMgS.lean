/- The specification's Merge. -/
import Derived.Test.YtbphmgcfbjiadaaHd1
import Derived.Test.YtbphmgcfbjiadaaMg0
import Derived.Test.YtbphmgcfbjiadaaMs3
namespace Go.Proofs.Ytbphmgcfbjiadaa
open Go.RowKit

set_option maxRecDepth 20000 in
set_option maxHeartbeats 4000000 in
theorem sMergeV (v u : Value) (T O : DTab) (w : World) (h : VTab w v T) (k : VTab w u O) (hn : T.mems.length ≤ 1048576) (kn : O.mems.length ≤ 1048576) :
    Calls Try.prog 13 #[v, u] w fun e w' => ∃ tv, e = .returned (.tuple #[.agg #[.int .i64 (mergeD T O).1.self, tv], .bool (mergeD T O).2]) ∧ OwMem w' w.heap.size tv (mergeD T O).1.mems ∧ Below w.heap.size w w' := by
  have hE : ∀ w : World, ∀ o, Ext w (w.alloc o) := fun w o => World.grownBy_alloc _ _ _
  have HT : Hid (VTab w v T) := h
  have HO : Hid (VTab w u O) := k
  have HN : Hid (T.mems.length ≤ 1048576 ∧ O.mems.length ≤ 1048576) := ⟨hn, kn⟩
  obtain ⟨tv, rfl, h⟩ := h
  obtain ⟨a, cap, rfl⟩ := h.shape
  obtain ⟨tu, rfl, k⟩ := k
  obtain ⟨a2, cap2, rfl⟩ := k.shape
  obtain ⟨R, hR⟩ : ∃ R, R = mergeD T O := ⟨_, rfl⟩
  rw [← hR]
  have HR : Hid (R = mergeD T O) := hR
  obtain ⟨n, hnn⟩ : ∃ n, n = T.mems.length := ⟨_, rfl⟩
  obtain ⟨n2, hn2⟩ : ∃ n2, n2 = O.mems.length := ⟨_, rfl⟩
  have HNN : Hid (n = T.mems.length) := hnn
  have HN2 : Hid (n2 = O.mems.length) := hn2
  rw [← hnn] at HT ⊢
  rw [← hn2] at HO ⊢
  clear h k hR hnn hn kn hn2
  go_enter Try.func13, Try.ntmps13
  go_wp2_with fail
  generalize hW : World.alloc (World.alloc (World.alloc w _) _) _ = W
  have PA : W.heap[w.heap.size]? = some (.cells #[.int .i64 T.self, .slice a n cap] 30 (0, 0)) := by rw [← hW]; exact al3_0 w _ _ _
  have PO : W.heap[w.heap.size + 1]? = some (.cells #[.int .i64 O.self, .slice a2 n2 cap2] 30 (0, 0)) := by rw [← hW]; exact al3_1 w _ _ _
  have PR : W.heap[w.heap.size + 1 + 1]? = some (.cells #[.int .i64 0, .slice none 0 0] 30 (0, 0)) := by rw [← hW]; exact al3_2 w _ _ _
  have BW : Below w.heap.size w W := by rw [← hW]; exact (((Below.refl _ w).alloc (Nat.le_refl _) _).alloc (by simp) _).alloc (by simp; omega) _
  clear hW
  refine (sTableOkV _ T W (HT.out.ext (ext_below BW)) HN.out.1).mono ?_
  rintro e w1 ⟨rfl, b1⟩
  have B1 := BW.trans (b1.mono BW.size)
  have PA1 := below_blk b1 (Array.getElem?_eq_some_iff.1 PA).1 PA
  have PO1 := below_blk b1 (Array.getElem?_eq_some_iff.1 PO).1 PO
  have PR1 := below_blk b1 (Array.getElem?_eq_some_iff.1 PR).1 PR
  clear PA PO PR BW b1
  obtain ⟨q0, q1⟩ := cells2 PA1
  obtain ⟨m0, m1⟩ := cells2 PO1
  cases t0 : tB (TabP T)
  · have HK : Hid (R = (⟨0, []⟩, false)) := by show _ = _; rw [HR.out]; exact mergeD_no (fun h' => by rw [tB_true h'.1] at t0; cases t0)
    obtain ⟨r0, f0⟩ := at_block PR1 0 _ rfl
    obtain ⟨r1, f1⟩ := at_block PR1 1 _ rfl
    clear t0
    go_wp2
    refine bodyPost_ret (v := .tuple #[.agg #[.int .i64 0, .slice none 0 0], .bool false]) (by simp [results, Try.results13, go_sem, *]) rfl ?_
    rw [HK.out]
    exact ⟨_, rfl, OwMem.nil _ _, (B1.setCell (by simp <;> omega) _).setCell (by simp <;> omega) _⟩
  have hp : TabP T := tB_iff.1 t0
  have HTP : Hid (TabP T) := hp
  have h0 : 0 < T.mems.length := tab_pos hp
  clear t0 hp
  go_wp2_with fail
  refine (sTableOkV _ O w1 (HO.out.ext (ext_below B1)) HN.out.2).mono ?_
  rintro e w2 ⟨rfl, b2⟩
  have B2 := B1.trans (b2.mono B1.size)
  have PA2 := below_blk b2 (Array.getElem?_eq_some_iff.1 PA1).1 PA1
  have PO2 := below_blk b2 (Array.getElem?_eq_some_iff.1 PO1).1 PO1
  have PR2 := below_blk b2 (Array.getElem?_eq_some_iff.1 PR1).1 PR1
  clear PA1 PO1 PR1 b2 q0 q1 m0 m1
  obtain ⟨q0, q1⟩ := cells2 PA2
  cases t0 : tB (TabP O)
  · have HK : Hid (R = (⟨0, []⟩, false)) := by show _ = _; rw [HR.out]; exact mergeD_no (fun h' => by rw [tB_true h'.2] at t0; cases t0)
    obtain ⟨r0, f0⟩ := at_block PR2 0 _ rfl
    obtain ⟨r1, f1⟩ := at_block PR2 1 _ rfl
    clear t0
    go_wp2
    refine bodyPost_ret (v := .tuple #[.agg #[.int .i64 0, .slice none 0 0], .bool false]) (by simp [results, Try.results13, go_sem, *]) rfl ?_
    rw [HK.out]
    exact ⟨_, rfl, OwMem.nil _ _, (B2.setCell (by simp <;> omega) _).setCell (by simp <;> omega) _⟩
  have HTO : Hid (TabP O) := tB_iff.1 t0
  have HK : Hid (R = foldD T O.mems n2) := by show _ = _; rw [HR.out, HN2.out]; exact mergeD_yes ⟨HTP.out, HTO.out⟩
  have hn12 : n2 ≤ 12 := by have := HTO.out.1; have := HN2.out; omega
  clear t0
  go_wp2_with fail
  refine (sOwnTV _ T w2 (HT.out.ext (ext_below B2)) HN.out.1).mono ?_
  rintro e w3 ⟨tv3, rfl, o3, b3⟩
  obtain ⟨g, c3, rfl, hg, hc, hcm⟩ := o3.at h0
  rw [← HNN.out] at o3 ⊢
  have sR := (Array.getElem?_eq_some_iff.1 PR2).1
  have sO := (Array.getElem?_eq_some_iff.1 PO2).1
  have s3 := b3.size
  have HP2 : Hid (w2.heap[w.heap.size + 1]? = some (.cells #[.int .i64 O.self, .slice a2 n2 cap2] 30 (0, 0)) ∧ w2.heap[w.heap.size + 1 + 1]? = some (.cells #[.int .i64 0, .slice none 0 0] 30 (0, 0))) := ⟨PO2, PR2⟩
  have HO2 : Hid (VMem w2 (.slice a2 n2 cap2) O.mems) := by
    obtain ⟨x, hx, hy⟩ := HO.out.ext (ext_below B2)
    simp only [Value.agg.injEq, Array.mk.injEq, List.cons.injEq, and_true, true_and] at hx
    subst hx
    exact hy
  have HST : Hid (∀ W, W = w3.alloc (.cells #[.int .i64 T.self, .slice (some ⟨g, 0, none⟩) n c3] 30 (0, 0)) → MgSt T O.mems w2 w3.heap.size 0 W) := fun W hW => by
    subst hW
    refine ⟨(b3.trans ((ext_bel (hE w3 _)).mono b3.size)), g, c3, ?_, ?_⟩
    · rw [foldD_zero, ← HNN.out]
      exact heap_alloc_new w3 _
    · rw [foldD_zero, ← HNN.out]
      exact o3.ext (hE _ _)
  have B3 := B2.trans (b3.mono B2.size)
  have PO3 := below_blk b3 sO PO2
  clear PA2 PO2 PR2 q0 q1 o3 hcm hg hc
  obtain ⟨m0, m1⟩ := cells2 PO3
  have km0 := fun o => World.grownBy.cell (World.grownBy_alloc w3 o none) m0 (by simp)
  have km1 := fun o => World.grownBy.cell (World.grownBy_alloc w3 o none) m1 (by simp)
  have hgt : w2.heap.size ≤ w3.heap.size := s3
  go_wp2
  clear km0 km1
  generalize hU : World.alloc w3 _ = U
  have S0 := HST.out U hU.symm
  have sU : U.heap.size = w3.heap.size + 1 := by rw [← hU]; simp
  clear hU HST m0 m1 PO3 b3
  generalize w3.heap.size = gt at *
  have HMS : Hid (∀ t ∈ O.mems, memB t = true) := tab_mem HTO.out
  go_loopw [7, 8] (fun tv i wr => ∃ k : Nat, k ≤ n2 ∧ i = .int .i64 k ∧ tv = .bool (foldD T O.mems k).2 ∧ Hid (MgSt T O.mems w2 gt k wr)) (fun tv i _ => n2 - (intOf i).toNat)
  case atStart => exact ⟨0, Nat.zero_le _, rfl, by rw [foldD_zero], S0⟩
  case round =>
    obtain ⟨k, hk, rfl, rfl, hst⟩ := hrel
    clear S0
    have BR := hst.out.1
    have POr := below_blk BR sO HP2.out.1
    obtain ⟨m0, m1⟩ := cells2 POr
    by_cases hlt : k < n2
    · obtain ⟨s, hs⟩ : ∃ s, O.mems[k]? = some s := ⟨_, List.getElem?_eq_getElem (by have := HN2.out; omega)⟩
      obtain ⟨b, o, rfl, c0, c1, c2⟩ := HO2.out.at (ext_below BR) hs
      have hlt' : (k : Int) < (n2 : Int) := by omega
      have HSAY : Hid (∀ V, Ext wr V → Calls Try.prog 19 #[.pointer (some ⟨gt, 0, none⟩), .agg #[.int .i64 s.id, .int .i64 s.st, .int .i64 s.life]] V fun e W' => ∃ sb, e = .returned (.bool sb) ∧ (foldD T O.mems (k + 1)).2 = ((foldD T O.mems k).2 || sb) ∧ MgSt T O.mems w2 gt (k + 1) W') := fun V e => (hst.out.ext e).say hgt HTP.out HMS.out hs 19 sSayV
      obtain ⟨fb, hfb⟩ : ∃ fb, fb = (foldD T O.mems k).2 := ⟨_, rfl⟩
      rw [← hfb] at HSAY ⊢
      have HFB : Hid (fb = (foldD T O.mems k).2) := hfb
      clear hfb hst hs
      go_wp2_with fail
      refine (HSAY.out _ (ext_drewN wr 0)).mono ?_
      rintro e w6 ⟨sb, rfl, hsb, h6⟩
      have HSB : Hid ((foldD T O.mems (k + 1)).2 = (fb || sb)) := hsb
      have H6 : Hid (MgSt T O.mems w2 gt (k + 1) w6) := h6
      clear hsb h6 HSAY m0 m1 c0 c1 c2
      obtain ⟨m0, m1⟩ := cells2 (below_blk H6.out.1 sO HP2.out.1)
      cases sb
      · have HF : Hid ((foldD T O.mems (k + 1)).2 = fb) := by show _ = _; rw [HSB.out, Bool.or_false]
        go_wp2
        go_roundw
        case rel => exact ⟨k + 1, by omega, by go_num, by rw [HF.out], H6⟩
        case measure => simp [intOf]; omega
      · have HF : Hid ((foldD T O.mems (k + 1)).2 = true) := by show _ = _; rw [HSB.out, Bool.or_true]
        go_wp2
        go_roundw
        case rel => exact ⟨k + 1, by omega, by go_num, by rw [HF.out], H6⟩
        case measure => simp [intOf]; omega
    · have hkn : n2 = k := by omega
      subst hkn
      obtain ⟨bz, g', c', pz, oz⟩ := hst.out
      have PRz := below_blk bz sR HP2.out.2
      have BZ := B2.trans (bz.mono B2.size)
      rw [← HK.out] at pz oz
      obtain ⟨l, hl⟩ : ∃ l, l = R.1.mems.length := ⟨_, rfl⟩
      rw [← hl] at pz oz
      have HOZ : Hid (OwMem wr w2.heap.size (.slice (some ⟨g', 0, none⟩) l c') R.1.mems) := oz
      have hgb := (oz.lt g' rfl).1
      have nR : (Value.slice (some ⟨g', 0, none⟩) l c').ownBlock = none ∨ (Value.slice (some ⟨g', 0, none⟩) l c').ownBlock ≠ some (w.heap.size + 1 + 1) := .inr (by simp [Value.ownBlock]; omega)
      have HSF : Hid (R.1.self = T.self ∧ (foldD T O.mems n2).2 = R.2) := ⟨by rw [HK.out]; exact foldD_self _ _ _, by rw [HK.out]⟩
      rw [HSF.out.2]
      clear oz hl hst bz
      obtain ⟨u0, u1⟩ := cells2 pz
      obtain ⟨r0, f0⟩ := at_block PRz 0 _ rfl
      obtain ⟨r1, f1⟩ := at_block PRz 1 _ rfl
      go_wp2
      refine bodyPost_ret (v := .tuple #[.agg #[.int .i64 T.self, .slice (some ⟨g', 0, none⟩) l c'], .bool R.2]) (by simp [results, Try.results13, go_sem, *]) rfl ?_
      rw [HSF.out.1]
      exact ⟨_, rfl, OwMem.base ((HOZ.out.keep (set_grown _ _ _ _) nR).keep (set_grown _ _ _ _) nR) B2.size, (BZ.setCell (by simp <;> omega) _).setCell (by simp <;> omega) _⟩

end Go.Proofs.Ytbphmgcfbjiadaa
