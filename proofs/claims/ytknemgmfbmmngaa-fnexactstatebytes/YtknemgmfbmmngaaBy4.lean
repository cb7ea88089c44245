/- States as bytes: the specification's StateBytes. -/
import Derived.Test.YtknemgmfbmmngaaBy3
import Derived.Test.YtknemgmfbmmngaaSSb
import Derived.Deep.RegionHeld3
namespace Go.Proofs.Ytknemgmfbmmngaa
open Go.RowKit

set_option maxHeartbeats 1000000 in
theorem sFlagV (v : Value) (xs : List Int) (b : Bool) (w : World) (h : RV w v xs) (hn : xs.length ≤ 2097152) :
    Calls Try.prog 51 #[v, .bool b] w (PutPost w (xs ++ numL (yesI b))) := by
  obtain ⟨q, hq⟩ : ∃ q, q = yesI b := ⟨_, rfl⟩
  rw [← hq]
  cases b
  · have hq0 : q = 0 := hq
    subst hq0
    clear hq
    go_enter Try.func51, Try.ntmps51
    go_wp2_with fail
    refine (sPutV _ xs 0 w h hn).mono ?_
    rintro e w1 ⟨v1, rfl, r1, o1, b1⟩
    go_wp2
    go_ret
    exact ⟨_, rfl, r1, o1, b1⟩
  · have hq0 : q = 1 := hq
    subst hq0
    clear hq
    go_enter Try.func51, Try.ntmps51
    go_wp2_with fail
    refine (sPutV _ xs 1 w h hn).mono ?_
    rintro e w1 ⟨v1, rfl, r1, o1, b1⟩
    go_wp2
    go_ret
    exact ⟨_, rfl, r1, o1, b1⟩

set_option maxRecDepth 20000 in
set_option maxHeartbeats 8000000 in
theorem sBytesV (v : Value) (S : DState) (w : World) (h : VState w v S) (hw : StW S) : Calls Try.prog 18 #[v] w (PutPost w (b9state S)) := by
  have hE : ∀ w : World, ∀ o, Ext w (w.alloc o) := fun w o => World.grownBy_alloc _ _ _
  obtain ⟨rv, tv, sv, lv, rfl, hr, ht, hs, hl⟩ := h
  have HW : Hid (StW S) := hw
  obtain ⟨hnr, hnt, hns, hnl, _, _⟩ := hw
  obtain ⟨CR, ⟨ra, rc, rfl, hr1, hr2, hr3⟩, hrC⟩ := hr
  have HCR : Hid (∀ i r, S.rows[i]? = some r → RV w (CR i 0) r.key ∧ RV w (CR i 1) r.val ∧ CR i 2 = .int .i64 r.turned ∧ CR i 3 = .int .i64 r.holder) := hrC
  obtain ⟨nr, hrn⟩ : ∃ n, n = S.rows.length := ⟨_, rfl⟩
  have HNnr : Hid (nr = S.rows.length) := hrn
  rw [← hrn] at hr1 hr3 ⊢
  have H3R : Hid (0 < nr → ∃ b o, ra = some ⟨b, o, none⟩ ∧ b < w.heap.size ∧ ∀ i, i < nr → ∀ j, j < 4 → w.cell? ⟨b, o + i * 4 + j, none⟩ = some (CR i j)) := hr3
  clear hrn hrC hr3
  obtain ⟨CT, ⟨ta, tc, rfl, ht1, ht2, ht3⟩, htC⟩ := ht
  have HCT : Hid (∀ i r, S.tombs[i]? = some r → RV w (CT i 0) r.key ∧ CT i 1 = .int .i64 r.index) := htC
  obtain ⟨nt, htn⟩ : ∃ n, n = S.tombs.length := ⟨_, rfl⟩
  have HNnt : Hid (nt = S.tombs.length) := htn
  rw [← htn] at ht1 ht3 ⊢
  have H3T : Hid (0 < nt → ∃ b o, ta = some ⟨b, o, none⟩ ∧ b < w.heap.size ∧ ∀ i, i < nt → ∀ j, j < 2 → w.cell? ⟨b, o + i * 2 + j, none⟩ = some (CT i j)) := ht3
  clear htn htC ht3
  obtain ⟨CS, ⟨sa, sc, rfl, hs1, hs2, hs3⟩, hsC⟩ := hs
  have HCS : Hid (∀ i r, S.sess[i]? = some r → CS i 0 = .int .i64 r.id ∧ CS i 1 = .bool r.del) := hsC
  obtain ⟨ns, hsn⟩ : ∃ n, n = S.sess.length := ⟨_, rfl⟩
  have HNns : Hid (ns = S.sess.length) := hsn
  rw [← hsn] at hs1 hs3 ⊢
  have H3S : Hid (0 < ns → ∃ b o, sa = some ⟨b, o, none⟩ ∧ b < w.heap.size ∧ ∀ i, i < ns → ∀ j, j < 2 → w.cell? ⟨b, o + i * 2 + j, none⟩ = some (CS i j)) := hs3
  clear hsn hsC hs3
  obtain ⟨CL, ⟨la, lc, rfl, hl1, hl2, hl3⟩, hlC⟩ := hl
  have HCL : Hid (∀ i r, S.lasts[i]? = some r → CL i 0 = .int .i64 r.client ∧ CL i 1 = .int .i64 r.req ∧ CL i 2 = .int .i64 r.code ∧ CL i 3 = .int .i64 r.index) := hlC
  obtain ⟨nl, hln⟩ : ∃ n, n = S.lasts.length := ⟨_, rfl⟩
  have HNnl : Hid (nl = S.lasts.length) := hln
  rw [← hln] at hl1 hl3 ⊢
  have H3L : Hid (0 < nl → ∃ b o, la = some ⟨b, o, none⟩ ∧ b < w.heap.size ∧ ∀ i, i < nl → ∀ j, j < 4 → w.cell? ⟨b, o + i * 4 + j, none⟩ = some (CL i j)) := hl3
  clear hln hlC hl3
  replace hnr : nr ≤ 20 := by have := HNnr.out; omega
  replace hnt : nt ≤ 10 := by have := HNnt.out; omega
  replace hns : ns ≤ 8 := by have := HNns.out; omega
  replace hnl : nl ≤ 4 := by have := HNnl.out; omega
  unfold maxLen at hr2 ht2 hs2 hl2
  obtain ⟨x1, hx1⟩ : ∃ x, x = [] ++ numL S.index := ⟨_, rfl⟩
  obtain ⟨x2, hx2⟩ : ∃ x, x = x1 ++ numL S.lost := ⟨_, rfl⟩
  obtain ⟨x3, hx3⟩ : ∃ x, x = x2 ++ numL ((nr : Nat) : Int) := ⟨_, rfl⟩
  have m1 : x1.length ≤ 5 := by rw [hx1]; exact putL_le [] _
  have m2 : x2.length ≤ x1.length + 5 := by rw [hx2]; exact putL_le _ _
  have m3 : x3.length ≤ x2.length + 5 := by rw [hx3]; exact putL_le _ _
  have HEyr : Hid (x3 = [] ++ numL S.index ++ numL S.lost ++ numL ((nr : Nat) : Int)) := by unfold Hid; rw [hx3, hx2, hx1]
  have HT1 : Hid (∀ V u, Ext V V → RV V u [] → Calls Try.prog 49 #[u, .int .i64 S.index] V (PutPost V x1)) := fun V u e hu => by rw [hx1]; exact sPutV u [] S.index V hu (by simp)
  have HT2 : Hid (∀ V u, RV V u x1 → Calls Try.prog 49 #[u, .int .i64 S.lost] V (PutPost V x2)) := fun V u hu => by rw [hx2]; exact sPutV u x1 S.lost V hu (by omega)
  have HT3 : Hid (∀ V u, RV V u x2 → Calls Try.prog 49 #[u, .int .i64 ((nr : Nat) : Int)] V (PutPost V x3)) := fun V u hu => by rw [hx3]; exact sPutV u x2 ((nr : Nat) : Int) V hu (by omega)
  clear hx1 hx2 hx3
  go_enter Try.func18, Try.ntmps18
  go_wp2_with fail
  have P0 := heap_alloc_new w (.cells #[.int .i64 S.index, .slice ra nr rc, .slice ta nt tc, .int .i64 S.lost, .slice sa ns sc, .slice la nl lc] 37 (0, 0))
  have X0 := hE w (.cells #[.int .i64 S.index, .slice ra nr rc, .slice ta nt tc, .int .i64 S.lost, .slice sa ns sc, .slice la nl lc] 37 (0, 0))
  generalize w.alloc (.cells #[.int .i64 S.index, .slice ra nr rc, .slice ta nt tc, .int .i64 S.lost, .slice sa ns sc, .slice la nl lc] 37 (0, 0)) = W at P0 X0 ⊢
  have HP : Hid (W.heap[w.heap.size]? = some (.cells #[.int .i64 S.index, .slice ra nr rc, .slice ta nt tc, .int .i64 S.lost, .slice sa ns sc, .slice la nl lc] 37 (0, 0))) := P0
  have XD : Hid (Ext W W.drew) := ext_drewN _ 1
  obtain ⟨_, c0, c1, c2, c3, c4, c5⟩ := cellsB6 P0 (Below.refl _ W)
  clear P0
  go_region_held3 (fun w' => w'.cell? ⟨w.heap.size, 0, none⟩ = some (.int .i64 S.index) ∧ w'.cell? ⟨w.heap.size, 1, none⟩ = some (.slice ra nr rc) ∧ w'.cell? ⟨w.heap.size, 2, none⟩ = some (.slice ta nt tc) ∧ w'.cell? ⟨w.heap.size, 3, none⟩ = some (.int .i64 S.lost) ∧ w'.cell? ⟨w.heap.size, 4, none⟩ = some (.slice sa ns sc) ∧ w'.cell? ⟨w.heap.size, 5, none⟩ = some (.slice la nl lc)) (first | (simp [*]; done) | go_keep)
    (first
      | (go_at_call 49; refine (HT3.out _ v2 ?_).mono ?_; exact R2.out; rintro e w3 ⟨v3, rfl, r3', o3, b3⟩; have X3 : Hid (Ext W w3) := X2.out.tr (ext_below b3); have R3 : Hid (RV w3 v3 x3) := r3'; clear r3'; obtain ⟨_, c0, c1, c2, c3, c4, c5⟩ := cellsB6 (X3.out.blk HP.out) (Below.refl _ _))
      | (go_at_call 49; refine (HT2.out _ v1 ?_).mono ?_; exact R1.out; rintro e w2 ⟨v2, rfl, r2', o2, b2⟩; have X2 : Hid (Ext W w2) := X1.out.tr (ext_below b2); have R2 : Hid (RV w2 v2 x2) := r2'; clear r2'; obtain ⟨_, c0, c1, c2, c3, c4, c5⟩ := cellsB6 (X2.out.blk HP.out) (Below.refl _ _))
      | (go_at_call 49; refine (HT1.out _ (.slice none 0 0) ?_ ?_).mono ?_; exact Ext.re _; exact rv_nil _; rintro e w1 ⟨v1, rfl, r1', o1, b1⟩; have X1 : Hid (Ext W w1) := XD.out.tr (ext_below b1); have R1 : Hid (RV w1 v1 x1) := r1'; clear r1'; obtain ⟨_, c0, c1, c2, c3, c4, c5⟩ := cellsB6 (X1.out.blk HP.out) (Below.refl _ _)))
  have s2 := X2.out.size
  have sw := X0.size
  have Or : Ow w3 w.heap.size v3 x3 := ow_base o3 (by omega)
  have Br : Below w.heap.size w w3 := below_of_ext (X0.tr X3.out)
  have HBr : Hid (w3.heap[w.heap.size]? = some (.cells #[.int .i64 S.index, .slice ra nr rc, .slice ta nt tc, .int .i64 S.lost, .slice sa ns sc, .slice la nl lc] 37 (0, 0))) := X3.out.blk HP.out
  have rr := R3.out
  clear o1 o2 o3 b1 b2 b3 X1 X2 X3 R1 R2 R3 HT1 HT2 HT3 HP XD X0 s2 sw
  obtain ⟨_, c0, c1, c2, c3, c4, c5⟩ := cellsB6 HBr.out (Below.refl _ _)
  obtain ⟨yr, hyr⟩ : ∃ y, y = x3 := ⟨_, rfl⟩
  rw [← hyr] at HEyr Or rr m3
  clear hyr
  go_wp2
  go_loopw [3, 4] (fun bv i wr => ∃ k : Nat, k ≤ nr ∧ i = .int .i64 k ∧ ∃ zs, Hid (zs = (S.rows.take k).foldl b9row yr) ∧ zs.length ≤ yr.length + 60 * k ∧ RV wr bv zs ∧ Ow wr w.heap.size bv zs ∧ Below w.heap.size w wr ∧ Hid (wr.heap[w.heap.size]? = some (.cells #[.int .i64 S.index, .slice ra nr rc, .slice ta nt tc, .int .i64 S.lost, .slice sa ns sc, .slice la nl lc] 37 (0, 0)))) (fun _ i _ => nr - (intOf i).toNat)
  case atStart => exact ⟨0, Nat.zero_le _, rfl, yr, by show _ = _; simp, by omega, rr, Or, Br, HBr⟩
  case round =>
    obtain ⟨k, hk, rfl, zs, hzs, hzl, rz, oz, bz, hbx⟩ := hrel
    by_cases hlt : k < nr
    · as_aux_lemma =>
        obtain ⟨b, o, rfl, hbl, hc⟩ := H3R.out (by omega)
        obtain ⟨s, hs⟩ : ∃ s, S.rows[k]? = some s := ⟨_, List.getElem?_eq_getElem (by have := HNnr.out; omega)⟩
        obtain ⟨e0, e1, e2, e3⟩ := HCR.out k s hs
        have X := ext_below bz
        have d0 := World.grownBy.cell X (hc k hlt 0 (by omega)) (by simp)
        rw [Nat.add_zero] at d0
        have cr0 := e0.ext X
        obtain ⟨ca0, cp0, cx0, _, _, _⟩ := e0
        rw [cx0] at cr0 d0
        have d1 := World.grownBy.cell X (hc k hlt 1 (by omega)) (by simp)
        have cr1 := e1.ext X
        obtain ⟨ca1, cp1, cx1, _, _, _⟩ := e1
        rw [cx1] at cr1 d1
        have d2 := World.grownBy.cell X (hc k hlt 2 (by omega)) (by simp)
        rw [e2] at d2
        have d3 := World.grownBy.cell X (hc k hlt 3 (by omega)) (by simp)
        rw [e3] at d3
        have hlt' : (k : Int) < (nr : Int) := by omega
        have HNX : Hid ((S.rows.take (k + 1)).foldl b9row yr = b9row zs s) := by show _ = _; rw [fold_next b9row yr S.rows k s hs, ← hzs.out]
        have hle := b9row_le zs s
        clear hc
        obtain ⟨_, c0, c1, c2, c3, c4, c5⟩ := cellsB6 hbx.out (Below.refl _ _)
        go_wp2_with fail
        have P0 := heap_alloc_new wr (.cells #[.slice ca0 s.key.length cp0, .slice ca1 s.val.length cp1, .int .i64 s.turned, .int .i64 s.holder] 57 (0, 0))
        have X0 := hE wr (.cells #[.slice ca0 s.key.length cp0, .slice ca1 s.val.length cp1, .int .i64 s.turned, .int .i64 s.holder] 57 (0, 0))
        have HB0 : Hid ((wr.alloc (.cells #[.slice ca0 s.key.length cp0, .slice ca1 s.val.length cp1, .int .i64 s.turned, .int .i64 s.holder] 57 (0, 0))).heap[w.heap.size]? = some (.cells #[.int .i64 S.index, .slice (some ⟨b, o, none⟩) nr rc, .slice ta nt tc, .int .i64 S.lost, .slice sa ns sc, .slice la nl lc] 37 (0, 0))) := X0.blk hbx.out
        have HBZ : Hid (Below w.heap.size w (wr.alloc (.cells #[.slice ca0 s.key.length cp0, .slice ca1 s.val.length cp1, .int .i64 s.turned, .int .i64 s.holder] 57 (0, 0)))) := bz.alloc bz.size _
        have RZ : Hid (RV (wr.alloc (.cells #[.slice ca0 s.key.length cp0, .slice ca1 s.val.length cp1, .int .i64 s.turned, .int .i64 s.holder] 57 (0, 0))) _ zs) := rz.ext X0
        have CR0 : Hid (RV (wr.alloc (.cells #[.slice ca0 s.key.length cp0, .slice ca1 s.val.length cp1, .int .i64 s.turned, .int .i64 s.holder] 57 (0, 0))) (.slice ca0 s.key.length cp0) s.key) := cr0.ext X0
        have CR1 : Hid (RV (wr.alloc (.cells #[.slice ca0 s.key.length cp0, .slice ca1 s.val.length cp1, .int .i64 s.turned, .int .i64 s.holder] 57 (0, 0))) (.slice ca1 s.val.length cp1) s.val) := cr1.ext X0
        generalize wr.alloc (.cells #[.slice ca0 s.key.length cp0, .slice ca1 s.val.length cp1, .int .i64 s.turned, .int .i64 s.holder] 57 (0, 0)) = W at P0 X0 HB0 HBZ RZ CR0 CR1 ⊢
        have HP : Hid (W.heap[wr.heap.size]? = some (.cells #[.slice ca0 s.key.length cp0, .slice ca1 s.val.length cp1, .int .i64 s.turned, .int .i64 s.holder] 57 (0, 0))) := P0
        obtain ⟨x1, hx1⟩ : ∃ x, x = textL zs s.key := ⟨_, rfl⟩
        have m1 : x1.length ≤ zs.length + 25 := by rw [hx1]; exact textL_le _ _
        obtain ⟨x2, hx2⟩ : ∃ x, x = textL x1 s.val := ⟨_, rfl⟩
        have m2 : x2.length ≤ x1.length + 25 := by rw [hx2]; exact textL_le _ _
        obtain ⟨x3, hx3⟩ : ∃ x, x = x2 ++ numL s.turned := ⟨_, rfl⟩
        have m3 : x3.length ≤ x2.length + 25 := by rw [hx3]; have := putL_le x2 (s.turned); omega
        obtain ⟨x4, hx4⟩ : ∃ x, x = x3 ++ numL s.holder := ⟨_, rfl⟩
        have m4 : x4.length ≤ x3.length + 25 := by rw [hx4]; have := putL_le x3 (s.holder); omega
        have HX : Hid (b9row zs s = x4) := by unfold Hid; rw [hx4, hx3, hx2, hx1]; rfl
        have HT1 : Hid (∀ V u, Ext W V → RV V u zs → Calls Try.prog 50 #[u, .slice ca0 s.key.length cp0] V (PutPost V x1)) := fun V u e hu => by rw [hx1]; exact sPutTV u _ zs s.key V hu (CR0.out.ext e) (by omega) (by have := (HW.out.row k s hs).1; omega)
        have HT2 : Hid (∀ V u, Ext W V → RV V u x1 → Calls Try.prog 50 #[u, .slice ca1 s.val.length cp1] V (PutPost V x2)) := fun V u e hu => by rw [hx2]; exact sPutTV u _ x1 s.val V hu (CR1.out.ext e) (by omega) (by have := (HW.out.row k s hs).2; omega)
        have HT3 : Hid (∀ V u, Ext W V → RV V u x2 → Calls Try.prog 49 #[u, .int .i64 s.turned] V (PutPost V x3)) := fun V u e hu => by rw [hx3]; exact sPutV u x2 s.turned V hu (by omega)
        have HT4 : Hid (∀ V u, Ext W V → RV V u x3 → Calls Try.prog 49 #[u, .int .i64 s.holder] V (PutPost V x4)) := fun V u e hu => by rw [hx4]; exact sPutV u x3 s.holder V hu (by omega)
        have hx5 : Hid (x4.length ≤ zs.length + 60) := by rw [← HX.out]; exact hle
        clear hx1 m1 hx2 m2 hx3 m3 hx4 m4 hle
        have XD : Hid (Ext W W.drew) := ext_drewN _ 1
        obtain ⟨_, u0, u1, u2, u3⟩ := cells4 HP.out (Below.refl _ _)
        go_region_held3 (fun w' => w'.cell? ⟨wr.heap.size, 0, none⟩ = some (.slice ca0 s.key.length cp0) ∧ w'.cell? ⟨wr.heap.size, 1, none⟩ = some (.slice ca1 s.val.length cp1) ∧ w'.cell? ⟨wr.heap.size, 2, none⟩ = some (.int .i64 s.turned) ∧ w'.cell? ⟨wr.heap.size, 3, none⟩ = some (.int .i64 s.holder)) (first | (simp [*]; done) | go_keep)
          (first
            | (go_at_call 49; refine (HT4.out _ va3 ?_ ?_).mono ?_; exact Xa3.out; exact Ra3.out; rintro e wa4 ⟨va4, rfl, ra4', oa4, ba4⟩; have Xa4 : Hid (Ext W wa4) := Xa3.out.tr (ext_below ba4); have Ra4 : Hid (RV wa4 va4 x4) := ra4'; clear ra4'; obtain ⟨_, u0, u1, u2, u3⟩ := cells4 (Xa4.out.blk HP.out) (Below.refl _ _))
            | (go_at_call 49; refine (HT3.out _ va2 ?_ ?_).mono ?_; exact Xa2.out; exact Ra2.out; rintro e wa3 ⟨va3, rfl, ra3', oa3, ba3⟩; have Xa3 : Hid (Ext W wa3) := Xa2.out.tr (ext_below ba3); have Ra3 : Hid (RV wa3 va3 x3) := ra3'; clear ra3'; obtain ⟨_, u0, u1, u2, u3⟩ := cells4 (Xa3.out.blk HP.out) (Below.refl _ _))
            | (go_at_call 50; refine (HT2.out _ va1 ?_ ?_).mono ?_; exact Xa1.out; exact Ra1.out; rintro e wa2 ⟨va2, rfl, ra2', oa2, ba2⟩; have Xa2 : Hid (Ext W wa2) := Xa1.out.tr (ext_below ba2); have Ra2 : Hid (RV wa2 va2 x2) := ra2'; clear ra2'; obtain ⟨_, u0, u1, u2, u3⟩ := cells4 (Xa2.out.blk HP.out) (Below.refl _ _))
            | (go_at_call 50; refine (HT1.out _ _ ?_ ?_).mono ?_; exact XD.out; exact RZ.out.ext XD.out; rintro e wa1 ⟨va1, rfl, ra1', oa1, ba1⟩; have Xa1 : Hid (Ext W wa1) := XD.out.tr (ext_below ba1); have Ra1 : Hid (RV wa1 va1 x1) := ra1'; clear ra1'; obtain ⟨_, u0, u1, u2, u3⟩ := cells4 (Xa1.out.blk HP.out) (Below.refl _ _)))
        have hsz := HBZ.out.size
        have hle2 := hx5.out
        have s3 := Xa3.out.size
        go_wp2
        go_roundw
        case rel => exact ⟨k + 1, by omega, by go_num, x4, by show _ = _; rw [HNX.out, HX.out], by omega, Ra4.out, ow_base oa4 (by have : W.heap.size ≤ wa3.heap.size := s3; omega), HBZ.out.trans (below_of_ext (Xa4.out) |>.mono hsz), Xa4.out.blk HB0.out⟩
        case measure => simp [intOf]; omega
    · have hkn : nr = k := by omega
      subst hkn
      obtain ⟨yt, hyt⟩ : ∃ y, y = zs ++ numL ((nt : Nat) : Int) := ⟨_, rfl⟩
      have lyt : yt.length ≤ zs.length + 5 := by rw [hyt]; exact putL_le _ _
      have HEyt : Hid (yt = S.rows.foldl b9row yr ++ numL ((nt : Nat) : Int)) := by show _ = _; rw [hyt, hzs.out, List.take_of_length_le (by have := HNnr.out; omega)]
      have Gyt : Hid (zs ++ numL ((nt : Nat) : Int) = yt) := hyt.symm
      clear hyt
      obtain ⟨_, c0, c1, c2, c3, c4, c5⟩ := cellsB6 hbx.out (Below.refl _ _)
      go_wp2_with fail
      refine (sPutV _ zs ((nt : Nat) : Int) _ rz (by omega)).mono ?_
      rw [Gyt.out]
      rintro e wt ⟨vt, rfl, rt, ot, bt⟩
      have Bt := bz.trans (bt.mono bz.size)
      have Ot : Ow wt w.heap.size vt yt := ow_base ot bz.size
      have HBt : Hid (wt.heap[w.heap.size]? = some (.cells #[.int .i64 S.index, .slice ra nr rc, .slice ta nt tc, .int .i64 S.lost, .slice sa ns sc, .slice la nl lc] 37 (0, 0))) := below_blk bt (Array.getElem?_eq_some_iff.1 hbx.out).1 hbx.out
      clear bz rz oz hbx bt ot hzs c0 c1 c2 c3 c4 c5
      obtain ⟨_, c0, c1, c2, c3, c4, c5⟩ := cellsB6 HBt.out (Below.refl _ _)
      go_wp2
      as_aux_lemma =>
        go_loopw [3, 6] (fun bv i wr => ∃ k : Nat, k ≤ nt ∧ i = .int .i64 k ∧ ∃ zs, Hid (zs = (S.tombs.take k).foldl b9tomb yt) ∧ zs.length ≤ yt.length + 30 * k ∧ RV wr bv zs ∧ Ow wr w.heap.size bv zs ∧ Below w.heap.size w wr ∧ Hid (wr.heap[w.heap.size]? = some (.cells #[.int .i64 S.index, .slice ra nr rc, .slice ta nt tc, .int .i64 S.lost, .slice sa ns sc, .slice la nl lc] 37 (0, 0)))) (fun _ i _ => nt - (intOf i).toNat)
        case atStart => exact ⟨0, Nat.zero_le _, rfl, yt, by show _ = _; simp, by omega, rt, Ot, Bt, HBt⟩
        case round =>
          obtain ⟨k, hk, rfl, zs, hzs, hzl, rz, oz, bz, hbx⟩ := hrel
          by_cases hlt : k < nt
          · as_aux_lemma =>
              obtain ⟨b, o, rfl, hbl, hc⟩ := H3T.out (by omega)
              obtain ⟨s, hs⟩ : ∃ s, S.tombs[k]? = some s := ⟨_, List.getElem?_eq_getElem (by have := HNnt.out; omega)⟩
              obtain ⟨e0, e1⟩ := HCT.out k s hs
              have X := ext_below bz
              have d0 := World.grownBy.cell X (hc k hlt 0 (by omega)) (by simp)
              rw [Nat.add_zero] at d0
              have cr0 := e0.ext X
              obtain ⟨ca0, cp0, cx0, _, _, _⟩ := e0
              rw [cx0] at cr0 d0
              have d1 := World.grownBy.cell X (hc k hlt 1 (by omega)) (by simp)
              rw [e1] at d1
              have hlt' : (k : Int) < (nt : Int) := by omega
              have HNX : Hid ((S.tombs.take (k + 1)).foldl b9tomb yt = b9tomb zs s) := by show _ = _; rw [fold_next b9tomb yt S.tombs k s hs, ← hzs.out]
              have hle := b9tomb_le zs s
              obtain ⟨_, c0, c1, c2, c3, c4, c5⟩ := cellsB6 hbx.out (Below.refl _ _)
              have HB0 : Hid (wr.heap[w.heap.size]? = some (.cells #[.int .i64 S.index, .slice ra nr rc, .slice (some ⟨b, o, none⟩) nt tc, .int .i64 S.lost, .slice sa ns sc, .slice la nl lc] 37 (0, 0))) := hbx.out
              have HBZ : Hid (Below w.heap.size w wr) := bz
              have RZ : Hid (RV wr _ zs) := rz
              have CR0 : Hid (RV wr (.slice ca0 s.key.length cp0) s.key) := cr0
              have HD0 : Hid _ := d0
              have HD1 : Hid _ := d1
              clear hc
              go_wp2_with fail
              obtain ⟨x1, hx1⟩ : ∃ x, x = textL zs s.key := ⟨_, rfl⟩
              have m1 : x1.length ≤ zs.length + 25 := by rw [hx1]; exact textL_le _ _
              obtain ⟨x2, hx2⟩ : ∃ x, x = x1 ++ numL s.index := ⟨_, rfl⟩
              have m2 : x2.length ≤ x1.length + 25 := by rw [hx2]; have := putL_le x1 (s.index); omega
              have HX : Hid (b9tomb zs s = x2) := by unfold Hid; rw [hx2, hx1]; rfl
              have HT1 : Hid (∀ V u, Ext wr V → RV V u zs → Calls Try.prog 50 #[u, .slice ca0 s.key.length cp0] V (PutPost V x1)) := fun V u e hu => by rw [hx1]; exact sPutTV u _ zs s.key V hu (CR0.out.ext e) (by omega) (by have := (HW.out.tomb k s hs); omega)
              have HT2 : Hid (∀ V u, Ext wr V → RV V u x1 → Calls Try.prog 49 #[u, .int .i64 s.index] V (PutPost V x2)) := fun V u e hu => by rw [hx2]; exact sPutV u x1 s.index V hu (by omega)
              have hx3 : Hid (x2.length ≤ zs.length + 30) := by rw [← HX.out]; exact hle
              clear hx1 m1 hx2 m2 hle
              have XD : Hid (Ext wr wr.drew) := ext_drewN _ 1
              go_region_held3 (fun w' => w'.cell? ⟨w.heap.size, 2, none⟩ = some (.slice (some ⟨b, o, none⟩) nt tc) ∧ w'.cell? ⟨b, o + k * 2, none⟩ = some (.slice ca0 s.key.length cp0) ∧ w'.cell? ⟨b, o + k * 2 + 1, none⟩ = some (.int .i64 s.index)) (first | (simp [*]; done) | go_keep)
                (first
                  | (go_at_call 49; refine (HT2.out _ va1 ?_ ?_).mono ?_; exact Xa1.out; exact Ra1.out; rintro e wa2 ⟨va2, rfl, ra2', oa2, ba2⟩; have Xa2 : Hid (Ext wr wa2) := Xa1.out.tr (ext_below ba2); have Ra2 : Hid (RV wa2 va2 x2) := ra2'; clear ra2'; have c2 := (at_block (Xa2.out.blk HB0.out) 2 _ rfl).1; have d0 := World.grownBy.cell Xa2.out HD0.out (by simp); have d1 := World.grownBy.cell Xa2.out HD1.out (by simp))
                  | (go_at_call 50; refine (HT1.out _ _ ?_ ?_).mono ?_; exact XD.out; exact RZ.out.ext XD.out; rintro e wa1 ⟨va1, rfl, ra1', oa1, ba1⟩; have Xa1 : Hid (Ext wr wa1) := XD.out.tr (ext_below ba1); have Ra1 : Hid (RV wa1 va1 x1) := ra1'; clear ra1'; have c2 := (at_block (Xa1.out.blk HB0.out) 2 _ rfl).1; have d0 := World.grownBy.cell Xa1.out HD0.out (by simp); have d1 := World.grownBy.cell Xa1.out HD1.out (by simp)))
              have hsz := HBZ.out.size
              have hle2 := hx3.out
              have s1 := Xa1.out.size
              go_wp2
              go_roundw
              case rel => exact ⟨k + 1, by omega, by go_num, x2, by show _ = _; rw [HNX.out, HX.out], by omega, Ra2.out, ow_base oa2 (by have : wr.heap.size ≤ wa1.heap.size := s1; omega), HBZ.out.trans (below_of_ext (Xa2.out) |>.mono hsz), Xa2.out.blk HB0.out⟩
              case measure => simp [intOf]; omega
          · have hkn : nt = k := by omega
            subst hkn
            obtain ⟨ys, hys⟩ : ∃ y, y = zs ++ numL ((ns : Nat) : Int) := ⟨_, rfl⟩
            have lys : ys.length ≤ zs.length + 5 := by rw [hys]; exact putL_le _ _
            have HEys : Hid (ys = S.tombs.foldl b9tomb yt ++ numL ((ns : Nat) : Int)) := by show _ = _; rw [hys, hzs.out, List.take_of_length_le (by have := HNnt.out; omega)]
            have Gys : Hid (zs ++ numL ((ns : Nat) : Int) = ys) := hys.symm
            clear hys
            obtain ⟨_, c0, c1, c2, c3, c4, c5⟩ := cellsB6 hbx.out (Below.refl _ _)
            go_wp2_with fail
            refine (sPutV _ zs ((ns : Nat) : Int) _ rz (by omega)).mono ?_
            rw [Gys.out]
            rintro e ws ⟨vs, rfl, rs, os, bs⟩
            have Bs := bz.trans (bs.mono bz.size)
            have Os : Ow ws w.heap.size vs ys := ow_base os bz.size
            have HBs : Hid (ws.heap[w.heap.size]? = some (.cells #[.int .i64 S.index, .slice ra nr rc, .slice ta nt tc, .int .i64 S.lost, .slice sa ns sc, .slice la nl lc] 37 (0, 0))) := below_blk bs (Array.getElem?_eq_some_iff.1 hbx.out).1 hbx.out
            clear bz rz oz hbx bs os hzs c0 c1 c2 c3 c4 c5
            obtain ⟨_, c0, c1, c2, c3, c4, c5⟩ := cellsB6 HBs.out (Below.refl _ _)
            go_wp2
            as_aux_lemma =>
              go_loopw [3, 7] (fun bv i wr => ∃ k : Nat, k ≤ ns ∧ i = .int .i64 k ∧ ∃ zs, Hid (zs = (S.sess.take k).foldl b9sess ys) ∧ zs.length ≤ ys.length + 10 * k ∧ RV wr bv zs ∧ Ow wr w.heap.size bv zs ∧ Below w.heap.size w wr ∧ Hid (wr.heap[w.heap.size]? = some (.cells #[.int .i64 S.index, .slice ra nr rc, .slice ta nt tc, .int .i64 S.lost, .slice sa ns sc, .slice la nl lc] 37 (0, 0)))) (fun _ i _ => ns - (intOf i).toNat)
              case atStart => exact ⟨0, Nat.zero_le _, rfl, ys, by show _ = _; simp, by omega, rs, Os, Bs, HBs⟩
              case round =>
                obtain ⟨k, hk, rfl, zs, hzs, hzl, rz, oz, bz, hbx⟩ := hrel
                by_cases hlt : k < ns
                · as_aux_lemma =>
                    obtain ⟨b, o, rfl, hbl, hc⟩ := H3S.out (by omega)
                    obtain ⟨s, hs⟩ : ∃ s, S.sess[k]? = some s := ⟨_, List.getElem?_eq_getElem (by have := HNns.out; omega)⟩
                    obtain ⟨e0, e1⟩ := HCS.out k s hs
                    have X := ext_below bz
                    have d0 := World.grownBy.cell X (hc k hlt 0 (by omega)) (by simp)
                    rw [Nat.add_zero] at d0
                    rw [e0] at d0
                    have d1 := World.grownBy.cell X (hc k hlt 1 (by omega)) (by simp)
                    rw [e1] at d1
                    have hlt' : (k : Int) < (ns : Int) := by omega
                    have HNX : Hid ((S.sess.take (k + 1)).foldl b9sess ys = b9sess zs s) := by show _ = _; rw [fold_next b9sess ys S.sess k s hs, ← hzs.out]
                    have hle := b9sess_le zs s
                    obtain ⟨_, c0, c1, c2, c3, c4, c5⟩ := cellsB6 hbx.out (Below.refl _ _)
                    have HB0 : Hid (wr.heap[w.heap.size]? = some (.cells #[.int .i64 S.index, .slice ra nr rc, .slice ta nt tc, .int .i64 S.lost, .slice (some ⟨b, o, none⟩) ns sc, .slice la nl lc] 37 (0, 0))) := hbx.out
                    have HBZ : Hid (Below w.heap.size w wr) := bz
                    have RZ : Hid (RV wr _ zs) := rz
                    have HD0 : Hid _ := d0
                    have HD1 : Hid _ := d1
                    clear hc
                    go_wp2_with fail
                    obtain ⟨x1, hx1⟩ : ∃ x, x = zs ++ numL s.id := ⟨_, rfl⟩
                    have m1 : x1.length ≤ zs.length + 25 := by rw [hx1]; have := putL_le zs (s.id); omega
                    obtain ⟨x2, hx2⟩ : ∃ x, x = x1 ++ numL (yesI s.del) := ⟨_, rfl⟩
                    have m2 : x2.length ≤ x1.length + 25 := by rw [hx2]; have := putL_le x1 (yesI s.del); omega
                    have HX : Hid (b9sess zs s = x2) := by unfold Hid; rw [hx2, hx1]; rfl
                    have HT1 : Hid (∀ V u, Ext wr V → RV V u zs → Calls Try.prog 49 #[u, .int .i64 s.id] V (PutPost V x1)) := fun V u e hu => by rw [hx1]; exact sPutV u zs s.id V hu (by omega)
                    have HT2 : Hid (∀ V u, Ext wr V → RV V u x1 → Calls Try.prog 51 #[u, .bool s.del] V (PutPost V x2)) := fun V u e hu => by rw [hx2]; exact sFlagV u x1 s.del V hu (by omega)
                    have hx3 : Hid (x2.length ≤ zs.length + 10) := by rw [← HX.out]; exact hle
                    clear hx1 m1 hx2 m2 hle
                    have XD : Hid (Ext wr wr.drew) := ext_drewN _ 1
                    go_region_held3 (fun w' => w'.cell? ⟨w.heap.size, 4, none⟩ = some (.slice (some ⟨b, o, none⟩) ns sc) ∧ w'.cell? ⟨b, o + k * 2, none⟩ = some (.int .i64 s.id) ∧ w'.cell? ⟨b, o + k * 2 + 1, none⟩ = some (.bool s.del)) (first | (simp [*]; done) | go_keep)
                      (first
                        | (go_at_call 51; refine (HT2.out _ va1 ?_ ?_).mono ?_; exact Xa1.out; exact Ra1.out; rintro e wa2 ⟨va2, rfl, ra2', oa2, ba2⟩; have Xa2 : Hid (Ext wr wa2) := Xa1.out.tr (ext_below ba2); have Ra2 : Hid (RV wa2 va2 x2) := ra2'; clear ra2'; have c4 := (at_block (Xa2.out.blk HB0.out) 4 _ rfl).1; have d0 := World.grownBy.cell Xa2.out HD0.out (by simp); have d1 := World.grownBy.cell Xa2.out HD1.out (by simp))
                        | (go_at_call 49; refine (HT1.out _ _ ?_ ?_).mono ?_; exact XD.out; exact RZ.out.ext XD.out; rintro e wa1 ⟨va1, rfl, ra1', oa1, ba1⟩; have Xa1 : Hid (Ext wr wa1) := XD.out.tr (ext_below ba1); have Ra1 : Hid (RV wa1 va1 x1) := ra1'; clear ra1'; have c4 := (at_block (Xa1.out.blk HB0.out) 4 _ rfl).1; have d0 := World.grownBy.cell Xa1.out HD0.out (by simp); have d1 := World.grownBy.cell Xa1.out HD1.out (by simp)))
                    have hsz := HBZ.out.size
                    have hle2 := hx3.out
                    have s1 := Xa1.out.size
                    go_wp2
                    go_roundw
                    case rel => exact ⟨k + 1, by omega, by go_num, x2, by show _ = _; rw [HNX.out, HX.out], by omega, Ra2.out, ow_base oa2 (by have : wr.heap.size ≤ wa1.heap.size := s1; omega), HBZ.out.trans (below_of_ext (Xa2.out) |>.mono hsz), Xa2.out.blk HB0.out⟩
                    case measure => simp [intOf]; omega
                · have hkn : ns = k := by omega
                  subst hkn
                  obtain ⟨yl, hyl⟩ : ∃ y, y = zs ++ numL ((nl : Nat) : Int) := ⟨_, rfl⟩
                  have lyl : yl.length ≤ zs.length + 5 := by rw [hyl]; exact putL_le _ _
                  have HEyl : Hid (yl = S.sess.foldl b9sess ys ++ numL ((nl : Nat) : Int)) := by show _ = _; rw [hyl, hzs.out, List.take_of_length_le (by have := HNns.out; omega)]
                  have Gyl : Hid (zs ++ numL ((nl : Nat) : Int) = yl) := hyl.symm
                  clear hyl
                  obtain ⟨_, c0, c1, c2, c3, c4, c5⟩ := cellsB6 hbx.out (Below.refl _ _)
                  go_wp2_with fail
                  refine (sPutV _ zs ((nl : Nat) : Int) _ rz (by omega)).mono ?_
                  rw [Gyl.out]
                  rintro e wl ⟨vl, rfl, rl, ol, bl⟩
                  have Bl := bz.trans (bl.mono bz.size)
                  have Ol : Ow wl w.heap.size vl yl := ow_base ol bz.size
                  have HBl : Hid (wl.heap[w.heap.size]? = some (.cells #[.int .i64 S.index, .slice ra nr rc, .slice ta nt tc, .int .i64 S.lost, .slice sa ns sc, .slice la nl lc] 37 (0, 0))) := below_blk bl (Array.getElem?_eq_some_iff.1 hbx.out).1 hbx.out
                  clear bz rz oz hbx bl ol hzs c0 c1 c2 c3 c4 c5
                  obtain ⟨_, c0, c1, c2, c3, c4, c5⟩ := cellsB6 HBl.out (Below.refl _ _)
                  go_wp2
                  as_aux_lemma =>
                    go_loopw [3, 8] (fun bv i wr => ∃ k : Nat, k ≤ nl ∧ i = .int .i64 k ∧ ∃ zs, Hid (zs = (S.lasts.take k).foldl b9last yl) ∧ zs.length ≤ yl.length + 20 * k ∧ RV wr bv zs ∧ Ow wr w.heap.size bv zs ∧ Below w.heap.size w wr ∧ Hid (wr.heap[w.heap.size]? = some (.cells #[.int .i64 S.index, .slice ra nr rc, .slice ta nt tc, .int .i64 S.lost, .slice sa ns sc, .slice la nl lc] 37 (0, 0)))) (fun _ i _ => nl - (intOf i).toNat)
                    case atStart => exact ⟨0, Nat.zero_le _, rfl, yl, by show _ = _; simp, by omega, rl, Ol, Bl, HBl⟩
                    case round =>
                      obtain ⟨k, hk, rfl, zs, hzs, hzl, rz, oz, bz, hbx⟩ := hrel
                      by_cases hlt : k < nl
                      · as_aux_lemma =>
                          obtain ⟨b, o, rfl, hbl, hc⟩ := H3L.out (by omega)
                          obtain ⟨s, hs⟩ : ∃ s, S.lasts[k]? = some s := ⟨_, List.getElem?_eq_getElem (by have := HNnl.out; omega)⟩
                          obtain ⟨e0, e1, e2, e3⟩ := HCL.out k s hs
                          have X := ext_below bz
                          have d0 := World.grownBy.cell X (hc k hlt 0 (by omega)) (by simp)
                          rw [Nat.add_zero] at d0
                          rw [e0] at d0
                          have d1 := World.grownBy.cell X (hc k hlt 1 (by omega)) (by simp)
                          rw [e1] at d1
                          have d2 := World.grownBy.cell X (hc k hlt 2 (by omega)) (by simp)
                          rw [e2] at d2
                          have d3 := World.grownBy.cell X (hc k hlt 3 (by omega)) (by simp)
                          rw [e3] at d3
                          have hlt' : (k : Int) < (nl : Int) := by omega
                          have HNX : Hid ((S.lasts.take (k + 1)).foldl b9last yl = b9last zs s) := by show _ = _; rw [fold_next b9last yl S.lasts k s hs, ← hzs.out]
                          have hle := b9last_le zs s
                          clear hc
                          obtain ⟨_, c0, c1, c2, c3, c4, c5⟩ := cellsB6 hbx.out (Below.refl _ _)
                          go_wp2_with fail
                          have P0 := heap_alloc_new wr (.cells #[.int .i64 s.client, .int .i64 s.req, .int .i64 s.code, .int .i64 s.index] 71 (0, 0))
                          have X0 := hE wr (.cells #[.int .i64 s.client, .int .i64 s.req, .int .i64 s.code, .int .i64 s.index] 71 (0, 0))
                          have HB0 : Hid ((wr.alloc (.cells #[.int .i64 s.client, .int .i64 s.req, .int .i64 s.code, .int .i64 s.index] 71 (0, 0))).heap[w.heap.size]? = some (.cells #[.int .i64 S.index, .slice ra nr rc, .slice ta nt tc, .int .i64 S.lost, .slice sa ns sc, .slice (some ⟨b, o, none⟩) nl lc] 37 (0, 0))) := X0.blk hbx.out
                          have HBZ : Hid (Below w.heap.size w (wr.alloc (.cells #[.int .i64 s.client, .int .i64 s.req, .int .i64 s.code, .int .i64 s.index] 71 (0, 0)))) := bz.alloc bz.size _
                          have RZ : Hid (RV (wr.alloc (.cells #[.int .i64 s.client, .int .i64 s.req, .int .i64 s.code, .int .i64 s.index] 71 (0, 0))) _ zs) := rz.ext X0
                          generalize wr.alloc (.cells #[.int .i64 s.client, .int .i64 s.req, .int .i64 s.code, .int .i64 s.index] 71 (0, 0)) = W at P0 X0 HB0 HBZ RZ  ⊢
                          have HP : Hid (W.heap[wr.heap.size]? = some (.cells #[.int .i64 s.client, .int .i64 s.req, .int .i64 s.code, .int .i64 s.index] 71 (0, 0))) := P0
                          obtain ⟨x1, hx1⟩ : ∃ x, x = zs ++ numL s.client := ⟨_, rfl⟩
                          have m1 : x1.length ≤ zs.length + 25 := by rw [hx1]; have := putL_le zs (s.client); omega
                          obtain ⟨x2, hx2⟩ : ∃ x, x = x1 ++ numL s.req := ⟨_, rfl⟩
                          have m2 : x2.length ≤ x1.length + 25 := by rw [hx2]; have := putL_le x1 (s.req); omega
                          obtain ⟨x3, hx3⟩ : ∃ x, x = x2 ++ numL s.code := ⟨_, rfl⟩
                          have m3 : x3.length ≤ x2.length + 25 := by rw [hx3]; have := putL_le x2 (s.code); omega
                          obtain ⟨x4, hx4⟩ : ∃ x, x = x3 ++ numL s.index := ⟨_, rfl⟩
                          have m4 : x4.length ≤ x3.length + 25 := by rw [hx4]; have := putL_le x3 (s.index); omega
                          have HX : Hid (b9last zs s = x4) := by unfold Hid; rw [hx4, hx3, hx2, hx1]; rfl
                          have HT1 : Hid (∀ V u, Ext W V → RV V u zs → Calls Try.prog 49 #[u, .int .i64 s.client] V (PutPost V x1)) := fun V u e hu => by rw [hx1]; exact sPutV u zs s.client V hu (by omega)
                          have HT2 : Hid (∀ V u, Ext W V → RV V u x1 → Calls Try.prog 49 #[u, .int .i64 s.req] V (PutPost V x2)) := fun V u e hu => by rw [hx2]; exact sPutV u x1 s.req V hu (by omega)
                          have HT3 : Hid (∀ V u, Ext W V → RV V u x2 → Calls Try.prog 49 #[u, .int .i64 s.code] V (PutPost V x3)) := fun V u e hu => by rw [hx3]; exact sPutV u x2 s.code V hu (by omega)
                          have HT4 : Hid (∀ V u, Ext W V → RV V u x3 → Calls Try.prog 49 #[u, .int .i64 s.index] V (PutPost V x4)) := fun V u e hu => by rw [hx4]; exact sPutV u x3 s.index V hu (by omega)
                          have hx5 : Hid (x4.length ≤ zs.length + 20) := by rw [← HX.out]; exact hle
                          clear hx1 m1 hx2 m2 hx3 m3 hx4 m4 hle
                          have XD : Hid (Ext W W.drew) := ext_drewN _ 1
                          obtain ⟨_, u0, u1, u2, u3⟩ := cells4 HP.out (Below.refl _ _)
                          go_region_held3 (fun w' => w'.cell? ⟨wr.heap.size, 0, none⟩ = some (.int .i64 s.client) ∧ w'.cell? ⟨wr.heap.size, 1, none⟩ = some (.int .i64 s.req) ∧ w'.cell? ⟨wr.heap.size, 2, none⟩ = some (.int .i64 s.code) ∧ w'.cell? ⟨wr.heap.size, 3, none⟩ = some (.int .i64 s.index)) (first | (simp [*]; done) | go_keep)
                            (first
                              | (go_at_call 49; refine (HT4.out _ va3 ?_ ?_).mono ?_; exact Xa3.out; exact Ra3.out; rintro e wa4 ⟨va4, rfl, ra4', oa4, ba4⟩; have Xa4 : Hid (Ext W wa4) := Xa3.out.tr (ext_below ba4); have Ra4 : Hid (RV wa4 va4 x4) := ra4'; clear ra4'; obtain ⟨_, u0, u1, u2, u3⟩ := cells4 (Xa4.out.blk HP.out) (Below.refl _ _))
                              | (go_at_call 49; refine (HT3.out _ va2 ?_ ?_).mono ?_; exact Xa2.out; exact Ra2.out; rintro e wa3 ⟨va3, rfl, ra3', oa3, ba3⟩; have Xa3 : Hid (Ext W wa3) := Xa2.out.tr (ext_below ba3); have Ra3 : Hid (RV wa3 va3 x3) := ra3'; clear ra3'; obtain ⟨_, u0, u1, u2, u3⟩ := cells4 (Xa3.out.blk HP.out) (Below.refl _ _))
                              | (go_at_call 49; refine (HT2.out _ va1 ?_ ?_).mono ?_; exact Xa1.out; exact Ra1.out; rintro e wa2 ⟨va2, rfl, ra2', oa2, ba2⟩; have Xa2 : Hid (Ext W wa2) := Xa1.out.tr (ext_below ba2); have Ra2 : Hid (RV wa2 va2 x2) := ra2'; clear ra2'; obtain ⟨_, u0, u1, u2, u3⟩ := cells4 (Xa2.out.blk HP.out) (Below.refl _ _))
                              | (go_at_call 49; refine (HT1.out _ _ ?_ ?_).mono ?_; exact XD.out; exact RZ.out.ext XD.out; rintro e wa1 ⟨va1, rfl, ra1', oa1, ba1⟩; have Xa1 : Hid (Ext W wa1) := XD.out.tr (ext_below ba1); have Ra1 : Hid (RV wa1 va1 x1) := ra1'; clear ra1'; obtain ⟨_, u0, u1, u2, u3⟩ := cells4 (Xa1.out.blk HP.out) (Below.refl _ _)))
                          have hsz := HBZ.out.size
                          have hle2 := hx5.out
                          have s3 := Xa3.out.size
                          go_wp2
                          go_roundw
                          case rel => exact ⟨k + 1, by omega, by go_num, x4, by show _ = _; rw [HNX.out, HX.out], by omega, Ra4.out, ow_base oa4 (by have : W.heap.size ≤ wa3.heap.size := s3; omega), HBZ.out.trans (below_of_ext (Xa4.out) |>.mono hsz), Xa4.out.blk HB0.out⟩
                          case measure => simp [intOf]; omega
                      · have hkn : nl = k := by omega
                        subst hkn
                        have HR : Hid (b9state S = zs) := by
                          show b9state S = zs
                          rw [hzs.out, List.take_of_length_le (by have := HNnl.out; omega), HEyl.out, HEys.out, HEyt.out, HEyr.out]
                          unfold b9state b9list
                          rw [← HNnr.out, ← HNnt.out, ← HNns.out, ← HNnl.out]
                        obtain ⟨_, c0, c1, c2, c3, c4, c5⟩ := cellsB6 hbx.out (Below.refl _ _)
                        go_wp2
                        go_ret
                        refine ⟨_, rfl, ?_, ?_, bz⟩
                        · rw [HR.out]; exact rz
                        · rw [HR.out]; exact oz

set_option maxHeartbeats 2000000 in
theorem sStateBytesP (v : Value) (S : DState) (w : World) (h : VState w v S) : Calls Try.prog 5 #[v] w (SbPost S w) := by
  have hE : ∀ w : World, ∀ o, Ext w (w.alloc o) := fun w o => World.grownBy_alloc _ _ _
  have hB : ∀ w : World, ∀ o, Below w.heap.size w (w.alloc o) := fun w o => (Below.refl _ w).alloc (Nat.le_refl _) _
  have h0 : Hid (VState w v S) := h
  obtain ⟨rv, tv, sv, lv, rfl, _, _, _, _⟩ := h
  go_enter Try.func5, Try.ntmps5
  go_wp2_with fail
  refine (sStateOkV _ S _ (h0.out.ext (hE _ _))).mono ?_
  rintro e w1 ⟨rfl, b1⟩
  have B1 := (hB w _).trans (b1.mono (by simp))
  obtain ⟨P1, c0, c1, c2, c3, c4, c5⟩ := cellsB6 (heap_alloc_new w _) b1
  clear b1 P1
  cases t0 : tB (StP S)
  · have HK : Hid (sbL S = []) := sbL_no (tB_no t0)
    have HT : Hid (tB (StP S) = false) := t0
    clear t0
    go_wp2
    go_ret2
    refine ⟨_, by rw [HT.out]; rfl, ?_, ?_, B1⟩
    · rw [HK.out]; exact rv_nil _
    · rw [HK.out]; exact ow_nil _ _
  · have hp : StP S := tB_iff.1 t0
    have HT : Hid (tB (StP S) = true) := t0
    have HW : Hid (StW S) := stW_of hp
    have HK : Hid (sbL S = b9state S) := sbL_yes hp
    clear hp t0
    go_wp2_with fail
    refine (sBytesV _ S w1 (h0.out.ext (ext_below B1)) HW.out).mono ?_
    rintro e w2 ⟨v2, rfl, r2, o2, b2⟩
    go_wp2
    go_ret2
    refine ⟨_, by rw [HT.out]; rfl, ?_, ?_, B1.trans (b2.mono B1.size)⟩
    · rw [HK.out]; exact r2
    · rw [HK.out]; exact ow_base o2 B1.size

end Go.Proofs.Ytknemgmfbmmngaa
