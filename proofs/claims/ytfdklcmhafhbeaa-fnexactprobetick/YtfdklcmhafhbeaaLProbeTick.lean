/- The exact statement of ProbeTick: the walk of the law itself. -/
import Derived.Test.YtfdklcmhafhbeaaHp2
import Derived.Test.YtfdklcmhafhbeaaMg1
import Derived.Test.YtfdklcmhafhbeaaPr9n
import Derived.Test.YtfdklcmhafhbeaaPr9t
import Derived.Test.YtfdklcmhafhbeaaPx9n
import Derived.Test.YtfdklcmhafhbeaaPx9t
import Derived.Deep.RegionHeld3
namespace Go.Proofs.Ytfdklcmhafhbeaa
open Go.RowKit

set_option maxRecDepth 20000 in
set_option maxHeartbeats 8000000 in
theorem law_ProbeTick (v : Value) (D : DPro) (u : Value) (O : DTab) (w : World) (h : VPro w v D) (k : VTab w u O) :
    Calls Try.prog 5 #[v, u] w fun e w' => e = .returned (.bool true) ∧ Below w.heap.size w w' := by
  have hE : ∀ w : World, ∀ o, Ext w (w.alloc o) := fun w o => World.grownBy_alloc _ _ _
  have hB : ∀ w : World, ∀ o, Below w.heap.size w (w.alloc o) := fun w o => (Below.refl _ w).alloc (Nat.le_refl _) _
  have h0 : Hid (VPro w v D) := h
  have k0 : Hid (VTab w u O) := k
  obtain ⟨⟨R, rwh, rid⟩, hR⟩ : ∃ R, R = ptickPD D O := ⟨_, rfl⟩
  have HR : Hid ((R, rwh, rid) = ptickPD D O) := hR
  have HRL : Hid (D.order.length ≤ 1048576 → O.mems.length ≤ 1048576 → R.order.length ≤ 1048576) := fun h1 h2 => by have := ptickPD_len D O h1 h2; rw [← hR] at this; exact this
  clear hR
  obtain ⟨tv, rfl, ht⟩ := h
  obtain ⟨ta, tc, rfl⟩ := vl_shape ht
  obtain ⟨tu, rfl, hu⟩ := k
  obtain ⟨ua, uc, rfl⟩ := hu.shape
  obtain ⟨n, hn⟩ : ∃ n, n = D.order.length := ⟨_, rfl⟩
  have HN : Hid (n = D.order.length) := hn
  obtain ⟨n2, hn2⟩ : ∃ n2, n2 = O.mems.length := ⟨_, rfl⟩
  have HN2 : Hid (n2 = O.mems.length) := hn2
  obtain ⟨m, hm⟩ : ∃ m, m = R.order.length := ⟨_, rfl⟩
  have HMR : Hid (m = R.order.length) := hm
  rw [← hn] at h0 ⊢
  rw [← hn2] at k0 ⊢
  clear hn ht hm hn2 hu
  go_enter Try.func5, Try.ntmps5
  go_wp2_with fail
  have PA := al2_0 w (.cells #[.slice ta n tc, .int .i64 D.next, .int .i64 D.seed, .int .i64 D.state, .int .i64 D.who, .int .i64 D.wait] 24 (0, 0)) (.cells #[.int .i64 O.self, .slice ua n2 uc] 27 (0, 0))
  have PO := al2_1 w (.cells #[.slice ta n tc, .int .i64 D.next, .int .i64 D.seed, .int .i64 D.state, .int .i64 D.who, .int .i64 D.wait] 24 (0, 0)) (.cells #[.int .i64 O.self, .slice ua n2 uc] 27 (0, 0))
  have BW : Below w.heap.size w ((w.alloc (.cells #[.slice ta n tc, .int .i64 D.next, .int .i64 D.seed, .int .i64 D.state, .int .i64 D.who, .int .i64 D.wait] 24 (0, 0))).alloc (.cells #[.int .i64 O.self, .slice ua n2 uc] 27 (0, 0))) := ((Below.refl _ w).alloc (Nat.le_refl _) _).alloc (by simp) _
  generalize (w.alloc (.cells #[.slice ta n tc, .int .i64 D.next, .int .i64 D.seed, .int .i64 D.state, .int .i64 D.who, .int .i64 D.wait] 24 (0, 0))).alloc (.cells #[.int .i64 O.self, .slice ua n2 uc] 27 (0, 0)) = W at PA PO BW ⊢
  refine (szPro _ D 1048576 _ (h0.out.ext (ext_below BW)) (by omega) (by omega)).mono ?_
  rintro e w0 ⟨r0, rfl, hrr, b0⟩
  rw [← HN.out] at hrr
  have B0 := BW.trans (b0.mono BW.size)
  rcases hrr with ⟨h1, rfl⟩ | ⟨h1, h2⟩
  · go_wp2_with fail
    go_ret
    exact ⟨rfl, B0⟩
  have hl : n ≤ 1048576 := by omega
  have hr0 : 0 ≤ r0 := by omega
  have hr9 : r0 ≤ 1048576 := by omega
  have PA0 := below_blk b0 (Array.getElem?_eq_some_iff.1 PA).1 PA
  have PO0 := below_blk b0 (Array.getElem?_eq_some_iff.1 PO).1 PO
  clear h1 h2 PA PO BW b0
  obtain ⟨p6, p7⟩ := two_cells PO0
  go_wp2_with fail
  refine (szTab _ O r0 w0 (k0.out.ext (ext_below B0)) (by omega) (by omega)).mono ?_
  rintro e w1 ⟨r, rfl, hrr, b1⟩
  rw [← HN2.out] at hrr
  have B1 := B0.trans (b1.mono B0.size)
  rcases hrr with ⟨h1, rfl⟩ | ⟨h1, h2⟩
  · go_wp2_with fail
    go_ret
    exact ⟨rfl, B1⟩
  have hl2 : n2 ≤ 1048576 := by omega
  have hr : 0 ≤ r := by omega
  have HLE : Hid (D.order.length ≤ 1048576 ∧ O.mems.length ≤ 1048576) := ⟨by have := HN.out; omega, by have := HN2.out; omega⟩
  have HML : Hid (m ≤ 1048576) := by show _ ≤ _; rw [HMR.out]; exact HRL.out HLE.out.1 HLE.out.2
  have HPA : Hid (w1.heap[w.heap.size]? = some (.cells #[.slice ta n tc, .int .i64 D.next, .int .i64 D.seed, .int .i64 D.state, .int .i64 D.who, .int .i64 D.wait] 24 (0, 0))) := below_blk b1 (Array.getElem?_eq_some_iff.1 PA0).1 PA0
  have HPO : Hid (w1.heap[w.heap.size + 1]? = some (.cells #[.int .i64 O.self, .slice ua n2 uc] 27 (0, 0))) := below_blk b1 (Array.getElem?_eq_some_iff.1 PO0).1 PO0
  clear h1 h2 b1 PA0 PO0 HRL B0 p6 p7 hr9
  obtain ⟨p0, p1, p2, p3, p4, p5⟩ := cells6 HPA.out
  obtain ⟨p6, p7⟩ := two_cells HPO.out
  have HTA : Hid (∀ V, Ext w1 V → Calls Try.prog 9 #[.agg #[.slice ta n tc, .int .i64 D.next, .int .i64 D.seed, .int .i64 D.state, .int .i64 D.who, .int .i64 D.wait]] V fun e w' => ∃ g, e = .returned (.agg #[.slice (some ⟨g, 0, none⟩) n n, .int .i64 D.next, .int .i64 D.seed, .int .i64 D.state, .int .i64 D.who, .int .i64 D.wait]) ∧ Hid (OwI w' V.heap.size (.slice (some ⟨g, 0, none⟩) n n) D.order) ∧ Below V.heap.size V w') := fun V e => (toPro _ D V ((h0.out.ext (ext_below B1)).ext e) HLE.out.1).mono (fun e w' ⟨g, h1, h2, h3⟩ => by rw [← HN.out] at h1 h2; exact ⟨g, h1, h2, h3⟩)
  have HTO : Hid (∀ V, Ext w1 V → Calls Try.prog 10 #[.agg #[.int .i64 O.self, .slice ua n2 uc]] V fun e w' => ∃ g, e = .returned (.agg #[.int .i64 O.self, .slice (some ⟨g, 0, none⟩) n2 n2]) ∧ Hid (OwMem w' V.heap.size (.slice (some ⟨g, 0, none⟩) n2 n2) O.mems) ∧ Below V.heap.size V w') := fun V e => (toTab _ O V ((k0.out.ext (ext_below B1)).ext e) HLE.out.2).mono (fun e w' ⟨g, h1, h2, h3⟩ => by rw [← HN2.out] at h1 h2; exact ⟨g, h1, h2, h3⟩)
  have HS : Hid (∀ V va vb, VPro V va D → VTab V vb O → Calls Try.prog 22 #[va, vb] V fun e w' => ∃ sa sc, e = .returned (.tuple #[.agg #[.slice sa m sc, .int .i64 R.next, .int .i64 R.seed, .int .i64 R.state, .int .i64 R.who, .int .i64 R.wait], .int .i64 rwh, .int .i64 rid]) ∧ Hid (OwI w' V.heap.size (.slice sa m sc) R.order) ∧ Below V.heap.size V w') := fun V va vb hv hu => (sProbeTickV va vb D O V hv hu HLE.out.1 HLE.out.2).mono (fun e w' ⟨tv, h1, h2, h3⟩ => by
    rw [← HR.out] at h1 h2
    obtain ⟨sa, sc, hsv⟩ := h2.shape
    rw [← HMR.out] at hsv
    subst hsv
    exact ⟨sa, sc, h1, h2, h3⟩)
  have HI : Hid (∀ V va vb, VPro V va D → VTab V vb O → Calls Try.prog 23 #[va, vb] V fun e w' => ∃ sa sc, e = .returned (.tuple #[.agg #[.slice sa m sc, .int .i64 R.next, .int .i64 R.seed, .int .i64 R.state, .int .i64 R.who, .int .i64 R.wait], .int .i64 rwh, .int .i64 rid]) ∧ Hid (OwI w' V.heap.size (.slice sa m sc) R.order) ∧ Below V.heap.size V w') := fun V va vb hv hu => (iProbeTickV va vb D O V hv hu HLE.out.1 HLE.out.2).mono (fun e w' ⟨tv, h1, h2, h3⟩ => by
    rw [← HR.out] at h1 h2
    obtain ⟨sa, sc, hsv⟩ := h2.shape
    rw [← HMR.out] at hsv
    subst hsv
    exact ⟨sa, sc, h1, h2, h3⟩)
  have hsv1 : w.heap.size < w1.heap.size ∧ w.heap.size + 1 < w1.heap.size := ⟨(Array.getElem?_eq_some_iff.1 HPA.out).1, (Array.getElem?_eq_some_iff.1 HPO.out).1⟩
  have XV1 : Hid (Ext w1 w1) := ext_drewN w1 0
  go_upto_region 8 with fail
  -- the specification
  have XD1 : Hid (Ext w1 w1.drew) := ext_drewN _ 1
  have XA1 : Hid (∀ o, Ext w1 (w1.alloc o).drew) := fun o => (hE _ o).tr (ext_drewN _ 1)
  have XB1 : Hid (∀ o, Ext w1 (w1.drew.alloc o)) := fun o => (ext_drewN w1 1).tr (hE _ o)
  have NA1 : Hid (∀ o, (w1.alloc o).drew.heap[w1.heap.size]? = some o) := fun o => heap_alloc_new w1 o
  have NB1 : Hid (∀ o, (w1.drew.alloc o).heap[w1.heap.size]? = some o) := fun o => heap_alloc_new w1.drew o
  go_cut [6, 7, 8] from 30 to 38 (fun s t0 t1 wx => ∃ bs sa sc, s = .pointer (some ⟨bs, 0, none⟩) ∧ t0 = .int .i64 rwh ∧ t1 = .int .i64 rid ∧ Hid (BoxP w1 R m bs sa sc wx))
  case first =>
    have HSV1 : Hid (w.heap.size < w1.heap.size ∧ w.heap.size + 1 < w1.heap.size) := hsv1
    have na10 : w1.heap.size ≠ w.heap.size := by have := hsv1; omega
    have nb10 : w1.heap.size ≠ w.heap.size + 1 := by have := hsv1; omega
    go_region_held3 (fun w' => (w'.cell? ⟨w.heap.size, 0, none⟩ = some (.slice ta n tc) ∧ w'.cell? ⟨w.heap.size, 1, none⟩ = some (.int .i64 D.next) ∧ w'.cell? ⟨w.heap.size, 2, none⟩ = some (.int .i64 D.seed) ∧ w'.cell? ⟨w.heap.size, 3, none⟩ = some (.int .i64 D.state) ∧ w'.cell? ⟨w.heap.size, 4, none⟩ = some (.int .i64 D.who) ∧ w'.cell? ⟨w.heap.size, 5, none⟩ = some (.int .i64 D.wait)) ∧ (w'.cell? ⟨w.heap.size + 1, 0, none⟩ = some (.int .i64 O.self) ∧ w'.cell? ⟨w.heap.size + 1, 1, none⟩ = some (.slice ua n2 uc))) (first | (simp [*]; done) | go_keep)
      (first
        | (have zz := XZ12; clear zz; go_at_call 22; refine (HS.out _ _ _ ?_ ?_).mono ?_; (first | exact OZ11.out.ext XZ112.out | exact (OZ11.out.ext XZ112.out).ext (hE _ _)); (first | exact OY12.out | exact OY12.out.ext (hE _ _)); rintro e z13 ⟨sa1, sc1, rfl, OZ13, bz13⟩; have XZ123 : Hid (Ext z12 z13) := (by first | exact ext_below bz13 | exact (hE _ _).tr (ext_below bz13)); have XZ13 : Hid (Ext w1 z13) := XZ12.out.tr XZ123.out; have OB1 : Hid (OwI z13 w1.heap.size (.slice sa1 m sc1) R.order) := OZ13.out.base (by have := XZ12.out.size; first | exact this | (simp; omega)); obtain ⟨e130, e131, e132, e133, e134, e135⟩ := cells6 (ext_blk XZ13.out HPA.out); obtain ⟨f130, f131⟩ := two_cells (ext_blk XZ13.out HPO.out); have na13 : z13.heap.size ≠ w.heap.size := (by have := XZ13.out.size; have := HSV1.out; omega); have nb13 : z13.heap.size ≠ w.heap.size + 1 := (by have := XZ13.out.size; have := HSV1.out; omega); (try (have BX13 : Hid (z13.heap[w1.heap.size]? = some (.cells #[.slice none 0 0, .int .i64 0, .int .i64 0, .int .i64 0, .int .i64 0, .int .i64 0] 30 (0, 0)) ∧ w1.heap.size ≤ w1.heap.size) := ⟨ext_blk XZ123.out BX12.out.1, BX12.out.2⟩; obtain ⟨y130, t130⟩ := at_block BX13.out.1 0 _ rfl; obtain ⟨y131, t131⟩ := at_block BX13.out.1 1 _ rfl; obtain ⟨y132, t132⟩ := at_block BX13.out.1 2 _ rfl; obtain ⟨y133, t133⟩ := at_block BX13.out.1 3 _ rfl; obtain ⟨y134, t134⟩ := at_block BX13.out.1 4 _ rfl; obtain ⟨y135, t135⟩ := at_block BX13.out.1 5 _ rfl)); (try (have BX13 : Hid (z13.heap[z11.heap.size]? = some (.cells #[.slice none 0 0, .int .i64 0, .int .i64 0, .int .i64 0, .int .i64 0, .int .i64 0] 30 (0, 0)) ∧ w1.heap.size ≤ z11.heap.size) := ⟨ext_blk XZ123.out BX12.out.1, BX12.out.2⟩; obtain ⟨y130, t130⟩ := at_block BX13.out.1 0 _ rfl; obtain ⟨y131, t131⟩ := at_block BX13.out.1 1 _ rfl; obtain ⟨y132, t132⟩ := at_block BX13.out.1 2 _ rfl; obtain ⟨y133, t133⟩ := at_block BX13.out.1 3 _ rfl; obtain ⟨y134, t134⟩ := at_block BX13.out.1 4 _ rfl; obtain ⟨y135, t135⟩ := at_block BX13.out.1 5 _ rfl)); (try (have BX13 : Hid (z13.heap[z12.heap.size]? = some (.cells #[.slice none 0 0, .int .i64 0, .int .i64 0, .int .i64 0, .int .i64 0, .int .i64 0] 30 (0, 0)) ∧ w1.heap.size ≤ z12.heap.size) := ⟨below_blk bz13 (by simp) (heap_alloc_new z12 _), XZ12.out.size⟩; obtain ⟨y130, t130⟩ := at_block BX13.out.1 0 _ rfl; obtain ⟨y131, t131⟩ := at_block BX13.out.1 1 _ rfl; obtain ⟨y132, t132⟩ := at_block BX13.out.1 2 _ rfl; obtain ⟨y133, t133⟩ := at_block BX13.out.1 3 _ rfl; obtain ⟨y134, t134⟩ := at_block BX13.out.1 4 _ rfl; obtain ⟨y135, t135⟩ := at_block BX13.out.1 5 _ rfl)))
        | (have zz := XZ11; clear zz; go_at_call 10; refine (HTO.out _ ?_).mono ?_; (first | exact XV1.out.tr XZ11.out | exact XV1.out.tr (XZ11.out.tr (hE _ _))); rintro e z12 ⟨j1, rfl, oy1, bz12⟩; have XZ112 : Hid (Ext z11 z12) := (by first | exact ext_below bz12 | exact (hE _ _).tr (ext_below bz12)); have XZ12 : Hid (Ext w1 z12) := XZ11.out.tr XZ112.out; have OY12 : Hid (VTab z12 (.agg #[.int .i64 O.self, .slice (some ⟨j1, 0, none⟩) n2 n2]) O) := ⟨_, rfl, oy1.out.v⟩; obtain ⟨e120, e121, e122, e123, e124, e125⟩ := cells6 (ext_blk XZ12.out HPA.out); obtain ⟨f120, f121⟩ := two_cells (ext_blk XZ12.out HPO.out); have na12 : z12.heap.size ≠ w.heap.size := (by have := XZ12.out.size; have := HSV1.out; omega); have nb12 : z12.heap.size ≠ w.heap.size + 1 := (by have := XZ12.out.size; have := HSV1.out; omega); (try (have BX12 : Hid (z12.heap[w1.heap.size]? = some (.cells #[.slice none 0 0, .int .i64 0, .int .i64 0, .int .i64 0, .int .i64 0, .int .i64 0] 30 (0, 0)) ∧ w1.heap.size ≤ w1.heap.size) := ⟨ext_blk XZ112.out BX11.out.1, BX11.out.2⟩; obtain ⟨y120, t120⟩ := at_block BX12.out.1 0 _ rfl; obtain ⟨y121, t121⟩ := at_block BX12.out.1 1 _ rfl; obtain ⟨y122, t122⟩ := at_block BX12.out.1 2 _ rfl; obtain ⟨y123, t123⟩ := at_block BX12.out.1 3 _ rfl; obtain ⟨y124, t124⟩ := at_block BX12.out.1 4 _ rfl; obtain ⟨y125, t125⟩ := at_block BX12.out.1 5 _ rfl)); (try (have BX12 : Hid (z12.heap[z11.heap.size]? = some (.cells #[.slice none 0 0, .int .i64 0, .int .i64 0, .int .i64 0, .int .i64 0, .int .i64 0] 30 (0, 0)) ∧ w1.heap.size ≤ z11.heap.size) := ⟨below_blk bz12 (by simp) (heap_alloc_new z11 _), XZ11.out.size⟩; obtain ⟨y120, t120⟩ := at_block BX12.out.1 0 _ rfl; obtain ⟨y121, t121⟩ := at_block BX12.out.1 1 _ rfl; obtain ⟨y122, t122⟩ := at_block BX12.out.1 2 _ rfl; obtain ⟨y123, t123⟩ := at_block BX12.out.1 3 _ rfl; obtain ⟨y124, t124⟩ := at_block BX12.out.1 4 _ rfl; obtain ⟨y125, t125⟩ := at_block BX12.out.1 5 _ rfl)))
        | (go_at_call 9; refine (HTA.out _ ?_).mono ?_; (first | exact XV1.out.tr XD1.out | exact XV1.out.tr (XA1.out _) | exact XV1.out.tr (XB1.out _)); rintro e z11 ⟨g1, rfl, oz1, bz11⟩; have XZ11 : Hid (Ext w1 z11) := (by first | exact XD1.out.tr (ext_below bz11) | exact (XA1.out _).tr (ext_below bz11) | exact (XB1.out _).tr (ext_below bz11)); have OZ11 : Hid (VPro z11 (.agg #[.slice (some ⟨g1, 0, none⟩) n n, .int .i64 D.next, .int .i64 D.seed, .int .i64 D.state, .int .i64 D.who, .int .i64 D.wait]) D) := ⟨_, rfl, oz1.out.vl⟩; obtain ⟨e110, e111, e112, e113, e114, e115⟩ := cells6 (ext_blk XZ11.out HPA.out); obtain ⟨f110, f111⟩ := two_cells (ext_blk XZ11.out HPO.out); have na11 : z11.heap.size ≠ w.heap.size := (by have := XZ11.out.size; have := HSV1.out; omega); have nb11 : z11.heap.size ≠ w.heap.size + 1 := (by have := XZ11.out.size; have := HSV1.out; omega); (try (have BX11 : Hid (z11.heap[w1.heap.size]? = some (.cells #[.slice none 0 0, .int .i64 0, .int .i64 0, .int .i64 0, .int .i64 0, .int .i64 0] 30 (0, 0)) ∧ w1.heap.size ≤ w1.heap.size) := (by first | exact ⟨below_blk bz11 (by simp) (NA1.out _), Nat.le_refl _⟩ | exact ⟨below_blk bz11 (by simp) (NB1.out _), Nat.le_refl _⟩); obtain ⟨y110, t110⟩ := at_block BX11.out.1 0 _ rfl; obtain ⟨y111, t111⟩ := at_block BX11.out.1 1 _ rfl; obtain ⟨y112, t112⟩ := at_block BX11.out.1 2 _ rfl; obtain ⟨y113, t113⟩ := at_block BX11.out.1 3 _ rfl; obtain ⟨y114, t114⟩ := at_block BX11.out.1 4 _ rfl; obtain ⟨y115, t115⟩ := at_block BX11.out.1 5 _ rfl)))
      )
    all_goals
      go_wp2_with fail
      go_meet
      first
        | (have zz := BX13; clear zz; refine ⟨_, sa1, sc1, rfl, rfl, rfl, ?_⟩; with_reducible refine hideR (boxp_set XZ13.out OB1.out ?_ BX13.out.1 BX13.out.2); exact Nat.le_refl _)
        | (refine ⟨_, sa1, sc1, rfl, rfl, rfl, ?_⟩; with_reducible refine hideR (boxp_new XZ13.out OB1.out ?_); exact Nat.le_refl _)
  obtain ⟨bs, sa, sc, rfl, rfl, rfl, HBS⟩ := hcut
  obtain ⟨w3, hw3⟩ : ∃ w3, w3 = wc := ⟨_, rfl⟩
  subst hw3
  have X13 : Ext w1 w3 := HBS.out.2.1
  have HV3 : Hid (VL fI w3 (.slice sa m sc) R.order) := HBS.out.2.2.1.vl
  have PS3 := HBS.out.1
  have B3 : Below w.heap.size w w3 := B1.trans ((ext_bel X13).mono B1.size)
  have P3 := ext_blk X13 HPA.out
  have M3 := ext_blk X13 HPO.out
  clear XD1 XA1 XB1 NA1 NB1 XV1 p0 p1 p2 p3 p4 p5 p6 p7 hsv1 HBS
  obtain ⟨q0, q1, q2, q3, q4, q5⟩ := cells6 P3
  -- the program's arguments
  go_wp2_with fail
  refine (HTA.out w3 X13).mono ?_
  rintro e w4 ⟨g4, rfl, o4, b4⟩
  have X34 : Ext w3 w4 := ext_below b4
  have HM4 : Hid (∀ W, W = w4.alloc (.cells #[.slice (some ⟨g4, 0, none⟩) n n, .int .i64 D.next, .int .i64 D.seed, .int .i64 D.state, .int .i64 D.who, .int .i64 D.wait] 30 (0, 0)) → Ext w3 W ∧ W.heap[w4.heap.size]? = some (.cells #[.slice (some ⟨g4, 0, none⟩) n n, .int .i64 D.next, .int .i64 D.seed, .int .i64 D.state, .int .i64 D.who, .int .i64 D.wait] 30 (0, 0)) ∧ OwI W w3.heap.size (.slice (some ⟨g4, 0, none⟩) n n) D.order) := fun W hW => by
    subst hW
    exact ⟨X34.tr (hE _ _), heap_alloc_new _ _, o4.out.ext (hE _ _)⟩
  clear q0 q1 q2 q3 q4 q5 b4
  go_upto_region 10 with fail
  generalize hU : w4.alloc _ = U4
  obtain ⟨X3U, XU, OX⟩ := HM4.out U4 hU.symm
  clear hU HM4 X34 o4
  generalize w4.heap.size = bx at *
  have HG4 : Hid (g4 < U4.heap.size) := (OX.lt g4 rfl).2
  have HPX : Hid (U4.heap[bx]? = some (.cells #[.slice (some ⟨g4, 0, none⟩) n n, .int .i64 D.next, .int .i64 D.seed, .int .i64 D.state, .int .i64 D.who, .int .i64 D.wait] 30 (0, 0))) := XU
  have HX3U : Hid (Ext w3 U4) := X3U
  have HOX : Hid (OwI U4 w3.heap.size (.slice (some ⟨g4, 0, none⟩) n n) D.order) := OX
  obtain ⟨q0, q1⟩ := two_cells (ext_blk X3U M3)
  clear X3U XU OX
  go_wp2_with fail
  refine (HTO.out U4 (X13.tr HX3U.out)).mono ?_
  rintro e w5 ⟨g5, rfl, o5, b5⟩
  have X45 : Ext U4 w5 := ext_below b5
  have HM5 : Hid (∀ W, W = w5.alloc (.cells #[.int .i64 O.self, .slice (some ⟨g5, 0, none⟩) n2 n2] 36 (0, 0)) → Ext U4 W ∧ W.heap[w5.heap.size]? = some (.cells #[.int .i64 O.self, .slice (some ⟨g5, 0, none⟩) n2 n2] 36 (0, 0)) ∧ OwMem W U4.heap.size (.slice (some ⟨g5, 0, none⟩) n2 n2) O.mems) := fun W hW => by
    subst hW
    exact ⟨X45.tr (hE _ _), heap_alloc_new _ _, o5.out.ext (hE _ _)⟩
  clear q0 q1 b5
  go_upto_region 11 with fail
  generalize hU : w5.alloc _ = U5
  obtain ⟨X4U, YU, OY⟩ := HM5.out U5 hU.symm
  clear hU HM5 X45 o5
  generalize w5.heap.size = bY at *
  have HG5 : Hid (g4 < U5.heap.size) := Nat.lt_of_lt_of_le HG4.out X4U.size
  have HPY : Hid (U5.heap[bY]? = some (.cells #[.int .i64 O.self, .slice (some ⟨g5, 0, none⟩) n2 n2] 36 (0, 0))) := YU
  have HX4U : Hid (Ext U4 U5) := X4U
  have HOY : Hid (OwMem U5 U4.heap.size (.slice (some ⟨g5, 0, none⟩) n2 n2) O.mems) := OY
  obtain ⟨q0, q1, q2, q3, q4, q5⟩ := cells6 (ext_blk X4U HPX.out)
  obtain ⟨q6, q7⟩ := two_cells HPY.out
  clear X4U YU OY
  -- the program
  go_wp2_with fail
  refine (HI.out U5 _ _ ⟨_, rfl, HOX.out.vl.ext HX4U.out⟩ ⟨_, rfl, HOY.out.v⟩).mono ?_
  rintro e w6 ⟨ga, gc, rfl, O6, b6⟩
  have HLL : Hid (∀ W, W = w6.alloc (.cells #[.slice ga m gc, .int .i64 R.next, .int .i64 R.seed, .int .i64 R.state, .int .i64 R.who, .int .i64 R.wait] 30 (0, 0)) → LP w w3 W D R (.slice ta n tc) (.slice sa m sc) (.slice (some ⟨g4, 0, none⟩) n n) (.slice ga m gc) bs bx w6.heap.size U5.heap.size R.order ∧ LU w W O (.slice ua n2 uc) (.slice (some ⟨g5, 0, none⟩) n2 n2) bY ∧ OwI W w3.heap.size (.slice (some ⟨g4, 0, none⟩) n n) D.order ∧ OwMem W U4.heap.size (.slice (some ⟨g5, 0, none⟩) n2 n2) O.mems) := fun W hW => by
    subst hW
    have X5W : Ext U5 (w6.alloc (.cells #[.slice ga m gc, .int .i64 R.next, .int .i64 R.seed, .int .i64 R.state, .int .i64 R.who, .int .i64 R.wait] 30 (0, 0))) := (ext_below b6).tr (hE _ _)
    have X4W := HX4U.out.tr X5W
    have X3W := HX3U.out.tr X4W
    exact ⟨⟨B3.trans ((ext_bel X3W).mono B3.size), ext_bel X3W, HV3.out, ext_blk X3W P3, ext_blk X3W PS3, ext_blk X4W HPX.out, heap_alloc_new _ _, O6.out.ext (hE _ _), Nat.le_trans HX3U.out.size HX4U.out.size, B3.size⟩, ⟨ext_blk X3W M3, ext_blk X5W HPY.out⟩, HOX.out.ext X4W, HOY.out.ext X5W⟩
  have HW34 : Hid (w3.heap.size ≤ U4.heap.size) := HX3U.out.size
  clear q0 q1 q2 q3 q4 q5 q6 q7
  go_upto_region 12 with fail
  generalize hU : w6.alloc _ = W0
  obtain ⟨L0, K0, X0, Y0⟩ := HLL.out W0 hU.symm
  clear hU HLL O6 b6 HPX HX3U HOX HPY HX4U HOY HV3 PS3 B3 P3 M3
  generalize w6.heap.size = bg at *
  have HL0 : Hid (LP w w3 W0 D R (.slice ta n tc) (.slice sa m sc) (.slice (some ⟨g4, 0, none⟩) n n) (.slice ga m gc) bs bx bg U5.heap.size R.order) := L0
  have HK0 := hideR K0
  have HX0 : Hid (OwI W0 w3.heap.size (.slice (some ⟨g4, 0, none⟩) n n) D.order) := X0
  have HY0 : Hid (OwMem W0 U4.heap.size (.slice (some ⟨g5, 0, none⟩) n2 n2) O.mems) := Y0
  have HXV : Hid (Ext w1 w3) := X13
  clear K0 X0 Y0 X13
  obtain ⟨s0, s1, s2, s3, s4, s5⟩ := cells6 L0.s
  obtain ⟨y0, y1, y2, y3, y4, y5⟩ := cells6 L0.g
  clear L0
  -- its answer held against the specification's
  go_wp2_with fail
  refine (eqPro _ _ R _ ⟨_, rfl, HL0.out.gO.vl⟩ HL0.out.sW (by rw [← HMR.out]; exact HML.out)).mono ?_
  rintro e W1 ⟨rfl, b1⟩
  have HL1 := hideR (HL0.out.grow b1)
  have HK1 := hideR (HK0.out.grow b1)
  have HX1 : Hid (OwI W1 w3.heap.size (.slice (some ⟨g4, 0, none⟩) n n) D.order) := HX0.out.ext (ext_below b1)
  have HY1 : Hid (OwMem W1 U4.heap.size (.slice (some ⟨g5, 0, none⟩) n2 n2) O.mems) := HY0.out.ext (ext_below b1)
  clear s0 s1 s2 s3 s4 s5 y0 y1 y2 y3 y4 y5 b1 HL0 HX0 HY0 HK0
  obtain ⟨x0, x1, x2, x3, x4, x5⟩ := cells6 HL1.out.x
  obtain ⟨a0, a1, a2, a3, a4, a5⟩ := cells6 HL1.out.a
  have HS1 : Hid ((W1.cell? ⟨bx, 0, none⟩ = some (.slice (some ⟨g4, 0, none⟩) n n) ∧ W1.cell? ⟨bx, 1, none⟩ = some (.int .i64 D.next) ∧ W1.cell? ⟨bx, 2, none⟩ = some (.int .i64 D.seed) ∧ W1.cell? ⟨bx, 3, none⟩ = some (.int .i64 D.state) ∧ W1.cell? ⟨bx, 4, none⟩ = some (.int .i64 D.who) ∧ W1.cell? ⟨bx, 5, none⟩ = some (.int .i64 D.wait)) ∧ (W1.cell? ⟨w.heap.size, 0, none⟩ = some (.slice ta n tc) ∧ W1.cell? ⟨w.heap.size, 1, none⟩ = some (.int .i64 D.next) ∧ W1.cell? ⟨w.heap.size, 2, none⟩ = some (.int .i64 D.seed) ∧ W1.cell? ⟨w.heap.size, 3, none⟩ = some (.int .i64 D.state) ∧ W1.cell? ⟨w.heap.size, 4, none⟩ = some (.int .i64 D.who) ∧ W1.cell? ⟨w.heap.size, 5, none⟩ = some (.int .i64 D.wait))) := ⟨⟨x0, x1, x2, x3, x4, x5⟩, ⟨a0, a1, a2, a3, a4, a5⟩⟩
  -- its arguments are as they were
  go_upto_region 14 with fail
  go_region_held3 (fun w' => (w'.cell? ⟨bx, 0, none⟩ = some (.slice (some ⟨g4, 0, none⟩) n n) ∧ w'.cell? ⟨bx, 1, none⟩ = some (.int .i64 D.next) ∧ w'.cell? ⟨bx, 2, none⟩ = some (.int .i64 D.seed) ∧ w'.cell? ⟨bx, 3, none⟩ = some (.int .i64 D.state) ∧ w'.cell? ⟨bx, 4, none⟩ = some (.int .i64 D.who) ∧ w'.cell? ⟨bx, 5, none⟩ = some (.int .i64 D.wait)) ∧ (w'.cell? ⟨w.heap.size, 0, none⟩ = some (.slice ta n tc) ∧ w'.cell? ⟨w.heap.size, 1, none⟩ = some (.int .i64 D.next) ∧ w'.cell? ⟨w.heap.size, 2, none⟩ = some (.int .i64 D.seed) ∧ w'.cell? ⟨w.heap.size, 3, none⟩ = some (.int .i64 D.state) ∧ w'.cell? ⟨w.heap.size, 4, none⟩ = some (.int .i64 D.who) ∧ w'.cell? ⟨w.heap.size, 5, none⟩ = some (.int .i64 D.wait))) (first | (simp [*]; done) | go_keep)
    (first
      | (go_at_call 12; refine (eqPro _ _ D _ ?_ ?_ HLE.out.1).mono ?_; exact (⟨_, rfl, (HX1.out.vl.ext (ext_drewN W1 1)).ext (ext_below b6)⟩ : VPro _ _ D); exact V6; rintro e v7 ⟨rfl, b7⟩; obtain ⟨c0, c1, c2, c3, c4, c5⟩ := cells6_kept HS1.out.1 (((ext_drewN W1 1).tr (ext_below b6)).tr (ext_below b7)); obtain ⟨d0, d1, d2, d3, d4, d5⟩ := cells6_kept HS1.out.2 (((ext_drewN W1 1).tr (ext_below b6)).tr (ext_below b7)))
      | (go_at_call 9; refine (toPro _ D _ ?_ HLE.out.1).mono ?_; exact (h0.out.ext (ext_below HL1.out.low)).ext (ext_drewN W1 1); rintro e v6 ⟨g6, rfl, o6, b6⟩; rw [← HN.out]; have V6 : VPro v6 (.agg #[.slice (some ⟨g6, 0, none⟩) n n, .int .i64 D.next, .int .i64 D.seed, .int .i64 D.state, .int .i64 D.who, .int .i64 D.wait]) D := (⟨_, rfl, by rw [HN.out]; exact o6.vl⟩); obtain ⟨c0, c1, c2, c3, c4, c5⟩ := cells6_kept HS1.out.1 ((ext_drewN W1 1).tr (ext_below b6)); obtain ⟨d0, d1, d2, d3, d4, d5⟩ := cells6_kept HS1.out.2 ((ext_drewN W1 1).tr (ext_below b6))))
  have bA : Below W1.heap.size W1 v7 := ((below_drewN (Below.refl _ W1) 1).trans (b6.mono (Nat.le_refl _))).trans (b7.mono b6.size)
  have HL2 := hideR (HL1.out.grow bA)
  have HK2 := hideR (HK1.out.grow bA)
  have HX2 : Hid (OwI v7 w3.heap.size (.slice (some ⟨g4, 0, none⟩) n n) D.order) := HX1.out.ext (ext_below bA)
  have HY2 : Hid (OwMem v7 U4.heap.size (.slice (some ⟨g5, 0, none⟩) n2 n2) O.mems) := HY1.out.ext (ext_below bA)
  clear c0 c1 c2 c3 c4 c5 d0 d1 d2 d3 d4 d5 x0 x1 x2 x3 x4 x5 a0 a1 a2 a3 a4 a5 b6 b7 bA V6 o6 HL1 HX1 HY1 HK1 HS1
  obtain ⟨a0, a1⟩ := two_cells HK2.out.b
  obtain ⟨x0, x1⟩ := two_cells HK2.out.y
  have HS1 : Hid ((v7.cell? ⟨bY, 0, none⟩ = some (.int .i64 O.self) ∧ v7.cell? ⟨bY, 1, none⟩ = some (.slice (some ⟨g5, 0, none⟩) n2 n2)) ∧ (v7.cell? ⟨w.heap.size + 1, 0, none⟩ = some (.int .i64 O.self) ∧ v7.cell? ⟨w.heap.size + 1, 1, none⟩ = some (.slice ua n2 uc))) := ⟨⟨x0, x1⟩, ⟨a0, a1⟩⟩
  go_upto_region 16 with fail
  go_region_held3 (fun w' => w'.cell? ⟨bY, 0, none⟩ = some (.int .i64 O.self) ∧ w'.cell? ⟨bY, 1, none⟩ = some (.slice (some ⟨g5, 0, none⟩) n2 n2) ∧ w'.cell? ⟨w.heap.size + 1, 0, none⟩ = some (.int .i64 O.self) ∧ w'.cell? ⟨w.heap.size + 1, 1, none⟩ = some (.slice ua n2 uc)) (simp [*])
    (first | (go_at_call 10; refine (toTab _ O _ ?_ HLE.out.2).mono ?_; exact (k0.out.ext (ext_below HL2.out.low)).ext (ext_drewN v7 1); rintro e v8 ⟨g6, rfl, o6, b6⟩; rw [← HN2.out]; have V6 : VTab v8 (.agg #[.int .i64 O.self, .slice (some ⟨g6, 0, none⟩) n2 n2]) O := (⟨_, rfl, by rw [HN2.out]; exact o6.v⟩); obtain ⟨⟨c0, c1⟩, ⟨d0, d1⟩⟩ := keptT (w := v7.drew) HS1.out b6) | (go_at_call 13; refine (eqTab _ _ O _ ?_ ?_ HLE.out.2).mono ?_; exact (⟨_, rfl, (HY2.out.v.ext (ext_drewN v7 1)).ext (ext_below b6)⟩ : VTab _ _ O); exact V6; rintro e v9 ⟨rfl, b7⟩; obtain ⟨⟨c0', c1'⟩, ⟨d0', d1'⟩⟩ := keptT ⟨⟨c0, c1⟩, ⟨d0, d1⟩⟩ b7))
  have bA : Below v7.heap.size v7 v9 := ((below_drewN (Below.refl _ v7) 1).trans (b6.mono (Nat.le_refl _))).trans (b7.mono b6.size)
  have HL3 := hideR (HL2.out.grow bA)
  have HK3 := hideR (HK2.out.grow bA)
  have HX3 : Hid (OwI v9 w3.heap.size (.slice (some ⟨g4, 0, none⟩) n n) D.order) := HX2.out.ext (ext_below bA)
  have HY3 : Hid (OwMem v9 U4.heap.size (.slice (some ⟨g5, 0, none⟩) n2 n2) O.mems) := HY2.out.ext (ext_below bA)
  clear c0 c1 d0 d1 c0' c1' d0' d1' b6 b7 bA V6 o6 x0 x1 a0 a1 HL2 HX2 HY2 HK2 HS1
  obtain ⟨x0, x1, x2, x3, x4, x5⟩ := cells6 HL3.out.x
  -- marks in its arguments
  go_wp2_with fail
  refine (markPro w3.heap.size D _ D.order 1 _ HX3.out HLE.out.1 (by omega) (by omega)).mono ?_
  rintro e W3 ⟨rfl, o3, g3⟩
  rw [← HN.out]
  have HGO : Hid (OwI W3 U5.heap.size (.slice ga m gc) R.order) := keep_ltN HL3.out.gO g3 HG5.out
  have HY4 : Hid (OwMem W3 U4.heap.size (.slice (some ⟨g5, 0, none⟩) n2 n2) O.mems) := mem_keepI HY3.out HX3.out g3
  have HL4 := hideR (HL3.out.turn HX3.out (Nat.le_refl _) g3 HGO.out)
  have HK4 := hideR (HK3.out.turnI HX3.out g3)
  clear o3 g3 x0 x1 x2 x3 x4 x5 HL3 HX3 HK3 HY3 HGO
  obtain ⟨x0, x1⟩ := two_cells HK4.out.y
  go_wp2_with fail
  refine (markTab2 U4.heap.size O.self _ O.mems (1 + (n : Int)) _ HY4.out HLE.out.2 (by omega) (by omega)).mono ?_
  rintro e W5 ⟨rfl, o3, g3⟩
  rw [← HN2.out]
  have HL5 := hideR (HL4.out.turnM HY4.out HW34.out g3)
  have HK5 := hideR (HK4.out.turnM HY4.out g3)
  clear o3 g3 x0 x1 HL4 HK4 HY4
  obtain ⟨s0, s1, s2, s3, s4, s5⟩ := cells6 HL5.out.s
  obtain ⟨y0, y1, y2, y3, y4, y5⟩ := cells6 HL5.out.g
  have hk0 : ¬ ((1 : Int) + (n : Int) + 3 * (n2 : Int) < 0) := by omega
  have hk1 : decide ((1 : Int) + (n : Int) + 3 * (n2 : Int) < 0) = false := by simp; omega
  go_wp2_with fail
  refine (eqPro _ _ R _ ⟨_, rfl, HL5.out.gO.vl⟩ HL5.out.sW (by rw [← HMR.out]; exact HML.out)).mono ?_
  rintro e W6 ⟨rfl, b4⟩
  have HL6 := hideR (HL5.out.grow b4)
  have HK6 := hideR (HK5.out.grow b4)
  clear s0 s1 s2 s3 s4 s5 y0 y1 y2 y3 y4 y5 b4 HL5 HK5
  obtain ⟨y0, y1, y2, y3, y4, y5⟩ := cells6 HL6.out.g
  -- marks in its answer
  go_wp2_with fail
  refine (markPro U5.heap.size R _ R.order 1 _ HL6.out.gO (by rw [← HMR.out]; exact HML.out) (by omega) (by omega)).mono ?_
  rintro e W7 ⟨rfl, o5, g7⟩
  rw [← HMR.out] at o5 ⊢
  have HL7 := hideR (HL6.out.turn HL6.out.gO HL6.out.bs g7 o5)
  have HK7 := hideR (HK6.out.turnI HL6.out.gO g7)
  clear o5 g7 y0 y1 y2 y3 y4 y5 HL6 HK6
  obtain ⟨y0, y1, y2, y3, y4, y5⟩ := cells6 HL7.out.g
  go_wp2_with fail
  refine (heldPro U5.heap.size R _ m 1 _ HL7.out.gO HML.out (by omega) (by omega)).mono ?_
  rintro e W8 ⟨rfl, b6⟩
  have HL8 := hideR (HL7.out.grow b6)
  have HK8 := hideR (HK7.out.grow b6)
  have HA8 : Hid (W8.heap[w.heap.size]? = some (.cells #[.slice ta n tc, .int .i64 D.next, .int .i64 D.seed, .int .i64 D.state, .int .i64 D.who, .int .i64 D.wait] 24 (0, 0))) := HL8.out.a
  have HQ8 : Hid (W8.heap[w.heap.size + 1]? = some (.cells #[.int .i64 O.self, .slice ua n2 uc] 27 (0, 0))) := HK8.out.b
  have XV9 : Hid (Ext w1 W8) := HXV.out.tr (ext_below HL8.out.sB)
  clear y0 y1 y2 y3 y4 y5 b6 HL7 HK7 HK8
  obtain ⟨p0, p1, p2, p3, p4, p5⟩ := cells6 HA8.out
  obtain ⟨p6, p7⟩ := two_cells HQ8.out
  have hsv9 : w.heap.size < W8.heap.size ∧ w.heap.size + 1 < W8.heap.size := ⟨(Array.getElem?_eq_some_iff.1 HA8.out).1, (Array.getElem?_eq_some_iff.1 HQ8.out).1⟩
  have hm0 : ¬ ((1 : Int) + (m : Int) < 0) := by omega
  -- another call
  go_upto_region 31 with fail
  have XD9 : Hid (Ext W8 W8.drew) := ext_drewN _ 1
  have XA9 : Hid (∀ o, Ext W8 (W8.alloc o).drew) := fun o => (hE _ o).tr (ext_drewN _ 1)
  have XB9 : Hid (∀ o, Ext W8 (W8.drew.alloc o)) := fun o => (ext_drewN W8 1).tr (hE _ o)
  have NA9 : Hid (∀ o, (W8.alloc o).drew.heap[W8.heap.size]? = some o) := fun o => heap_alloc_new W8 o
  have NB9 : Hid (∀ o, (W8.drew.alloc o).heap[W8.heap.size]? = some o) := fun o => heap_alloc_new W8.drew o
  go_cut [17, 18, 19] from 109 to 117 (fun s t0 t1 wx => ∃ bs sa sc, s = .pointer (some ⟨bs, 0, none⟩) ∧ t0 = .int .i64 rwh ∧ t1 = .int .i64 rid ∧ Hid (BoxP W8 R m bs sa sc wx))
  case first =>
    have HSV9 : Hid (w.heap.size < W8.heap.size ∧ w.heap.size + 1 < W8.heap.size) := hsv9
    have na90 : W8.heap.size ≠ w.heap.size := by have := hsv9; omega
    have nb90 : W8.heap.size ≠ w.heap.size + 1 := by have := hsv9; omega
    go_region_held3 (fun w' => (w'.cell? ⟨w.heap.size, 0, none⟩ = some (.slice ta n tc) ∧ w'.cell? ⟨w.heap.size, 1, none⟩ = some (.int .i64 D.next) ∧ w'.cell? ⟨w.heap.size, 2, none⟩ = some (.int .i64 D.seed) ∧ w'.cell? ⟨w.heap.size, 3, none⟩ = some (.int .i64 D.state) ∧ w'.cell? ⟨w.heap.size, 4, none⟩ = some (.int .i64 D.who) ∧ w'.cell? ⟨w.heap.size, 5, none⟩ = some (.int .i64 D.wait)) ∧ (w'.cell? ⟨w.heap.size + 1, 0, none⟩ = some (.int .i64 O.self) ∧ w'.cell? ⟨w.heap.size + 1, 1, none⟩ = some (.slice ua n2 uc))) (first | (simp [*]; done) | go_keep)
      (first
        | (have zz := XZ92; clear zz; go_at_call 23; refine (HI.out _ _ _ ?_ ?_).mono ?_; (first | exact OZ91.out.ext XZ912.out | exact (OZ91.out.ext XZ912.out).ext (hE _ _)); (first | exact OY92.out | exact OY92.out.ext (hE _ _)); rintro e z93 ⟨sa9, sc9, rfl, OZ93, bz93⟩; have XZ923 : Hid (Ext z92 z93) := (by first | exact ext_below bz93 | exact (hE _ _).tr (ext_below bz93)); have XZ93 : Hid (Ext W8 z93) := XZ92.out.tr XZ923.out; have OB9 : Hid (OwI z93 W8.heap.size (.slice sa9 m sc9) R.order) := OZ93.out.base (by have := XZ92.out.size; first | exact this | (simp; omega)); obtain ⟨e930, e931, e932, e933, e934, e935⟩ := cells6 (ext_blk XZ93.out HA8.out); obtain ⟨f930, f931⟩ := two_cells (ext_blk XZ93.out HQ8.out); have na93 : z93.heap.size ≠ w.heap.size := (by have := XZ93.out.size; have := HSV9.out; omega); have nb93 : z93.heap.size ≠ w.heap.size + 1 := (by have := XZ93.out.size; have := HSV9.out; omega); (try (have BX93 : Hid (z93.heap[W8.heap.size]? = some (.cells #[.slice none 0 0, .int .i64 0, .int .i64 0, .int .i64 0, .int .i64 0, .int .i64 0] 30 (0, 0)) ∧ W8.heap.size ≤ W8.heap.size) := ⟨ext_blk XZ923.out BX92.out.1, BX92.out.2⟩; obtain ⟨y930, t930⟩ := at_block BX93.out.1 0 _ rfl; obtain ⟨y931, t931⟩ := at_block BX93.out.1 1 _ rfl; obtain ⟨y932, t932⟩ := at_block BX93.out.1 2 _ rfl; obtain ⟨y933, t933⟩ := at_block BX93.out.1 3 _ rfl; obtain ⟨y934, t934⟩ := at_block BX93.out.1 4 _ rfl; obtain ⟨y935, t935⟩ := at_block BX93.out.1 5 _ rfl)); (try (have BX93 : Hid (z93.heap[z91.heap.size]? = some (.cells #[.slice none 0 0, .int .i64 0, .int .i64 0, .int .i64 0, .int .i64 0, .int .i64 0] 30 (0, 0)) ∧ W8.heap.size ≤ z91.heap.size) := ⟨ext_blk XZ923.out BX92.out.1, BX92.out.2⟩; obtain ⟨y930, t930⟩ := at_block BX93.out.1 0 _ rfl; obtain ⟨y931, t931⟩ := at_block BX93.out.1 1 _ rfl; obtain ⟨y932, t932⟩ := at_block BX93.out.1 2 _ rfl; obtain ⟨y933, t933⟩ := at_block BX93.out.1 3 _ rfl; obtain ⟨y934, t934⟩ := at_block BX93.out.1 4 _ rfl; obtain ⟨y935, t935⟩ := at_block BX93.out.1 5 _ rfl)); (try (have BX93 : Hid (z93.heap[z92.heap.size]? = some (.cells #[.slice none 0 0, .int .i64 0, .int .i64 0, .int .i64 0, .int .i64 0, .int .i64 0] 30 (0, 0)) ∧ W8.heap.size ≤ z92.heap.size) := ⟨below_blk bz93 (by simp) (heap_alloc_new z92 _), XZ92.out.size⟩; obtain ⟨y930, t930⟩ := at_block BX93.out.1 0 _ rfl; obtain ⟨y931, t931⟩ := at_block BX93.out.1 1 _ rfl; obtain ⟨y932, t932⟩ := at_block BX93.out.1 2 _ rfl; obtain ⟨y933, t933⟩ := at_block BX93.out.1 3 _ rfl; obtain ⟨y934, t934⟩ := at_block BX93.out.1 4 _ rfl; obtain ⟨y935, t935⟩ := at_block BX93.out.1 5 _ rfl)))
        | (have zz := XZ91; clear zz; go_at_call 10; refine (HTO.out _ ?_).mono ?_; (first | exact XV9.out.tr XZ91.out | exact XV9.out.tr (XZ91.out.tr (hE _ _))); rintro e z92 ⟨j9, rfl, oy9, bz92⟩; have XZ912 : Hid (Ext z91 z92) := (by first | exact ext_below bz92 | exact (hE _ _).tr (ext_below bz92)); have XZ92 : Hid (Ext W8 z92) := XZ91.out.tr XZ912.out; have OY92 : Hid (VTab z92 (.agg #[.int .i64 O.self, .slice (some ⟨j9, 0, none⟩) n2 n2]) O) := ⟨_, rfl, oy9.out.v⟩; obtain ⟨e920, e921, e922, e923, e924, e925⟩ := cells6 (ext_blk XZ92.out HA8.out); obtain ⟨f920, f921⟩ := two_cells (ext_blk XZ92.out HQ8.out); have na92 : z92.heap.size ≠ w.heap.size := (by have := XZ92.out.size; have := HSV9.out; omega); have nb92 : z92.heap.size ≠ w.heap.size + 1 := (by have := XZ92.out.size; have := HSV9.out; omega); (try (have BX92 : Hid (z92.heap[W8.heap.size]? = some (.cells #[.slice none 0 0, .int .i64 0, .int .i64 0, .int .i64 0, .int .i64 0, .int .i64 0] 30 (0, 0)) ∧ W8.heap.size ≤ W8.heap.size) := ⟨ext_blk XZ912.out BX91.out.1, BX91.out.2⟩; obtain ⟨y920, t920⟩ := at_block BX92.out.1 0 _ rfl; obtain ⟨y921, t921⟩ := at_block BX92.out.1 1 _ rfl; obtain ⟨y922, t922⟩ := at_block BX92.out.1 2 _ rfl; obtain ⟨y923, t923⟩ := at_block BX92.out.1 3 _ rfl; obtain ⟨y924, t924⟩ := at_block BX92.out.1 4 _ rfl; obtain ⟨y925, t925⟩ := at_block BX92.out.1 5 _ rfl)); (try (have BX92 : Hid (z92.heap[z91.heap.size]? = some (.cells #[.slice none 0 0, .int .i64 0, .int .i64 0, .int .i64 0, .int .i64 0, .int .i64 0] 30 (0, 0)) ∧ W8.heap.size ≤ z91.heap.size) := ⟨below_blk bz92 (by simp) (heap_alloc_new z91 _), XZ91.out.size⟩; obtain ⟨y920, t920⟩ := at_block BX92.out.1 0 _ rfl; obtain ⟨y921, t921⟩ := at_block BX92.out.1 1 _ rfl; obtain ⟨y922, t922⟩ := at_block BX92.out.1 2 _ rfl; obtain ⟨y923, t923⟩ := at_block BX92.out.1 3 _ rfl; obtain ⟨y924, t924⟩ := at_block BX92.out.1 4 _ rfl; obtain ⟨y925, t925⟩ := at_block BX92.out.1 5 _ rfl)))
        | (go_at_call 9; refine (HTA.out _ ?_).mono ?_; (first | exact XV9.out.tr XD9.out | exact XV9.out.tr (XA9.out _) | exact XV9.out.tr (XB9.out _)); rintro e z91 ⟨g9, rfl, oz9, bz91⟩; have XZ91 : Hid (Ext W8 z91) := (by first | exact XD9.out.tr (ext_below bz91) | exact (XA9.out _).tr (ext_below bz91) | exact (XB9.out _).tr (ext_below bz91)); have OZ91 : Hid (VPro z91 (.agg #[.slice (some ⟨g9, 0, none⟩) n n, .int .i64 D.next, .int .i64 D.seed, .int .i64 D.state, .int .i64 D.who, .int .i64 D.wait]) D) := ⟨_, rfl, oz9.out.vl⟩; obtain ⟨e910, e911, e912, e913, e914, e915⟩ := cells6 (ext_blk XZ91.out HA8.out); obtain ⟨f910, f911⟩ := two_cells (ext_blk XZ91.out HQ8.out); have na91 : z91.heap.size ≠ w.heap.size := (by have := XZ91.out.size; have := HSV9.out; omega); have nb91 : z91.heap.size ≠ w.heap.size + 1 := (by have := XZ91.out.size; have := HSV9.out; omega); (try (have BX91 : Hid (z91.heap[W8.heap.size]? = some (.cells #[.slice none 0 0, .int .i64 0, .int .i64 0, .int .i64 0, .int .i64 0, .int .i64 0] 30 (0, 0)) ∧ W8.heap.size ≤ W8.heap.size) := (by first | exact ⟨below_blk bz91 (by simp) (NA9.out _), Nat.le_refl _⟩ | exact ⟨below_blk bz91 (by simp) (NB9.out _), Nat.le_refl _⟩); obtain ⟨y910, t910⟩ := at_block BX91.out.1 0 _ rfl; obtain ⟨y911, t911⟩ := at_block BX91.out.1 1 _ rfl; obtain ⟨y912, t912⟩ := at_block BX91.out.1 2 _ rfl; obtain ⟨y913, t913⟩ := at_block BX91.out.1 3 _ rfl; obtain ⟨y914, t914⟩ := at_block BX91.out.1 4 _ rfl; obtain ⟨y915, t915⟩ := at_block BX91.out.1 5 _ rfl)))
      )
    all_goals
      go_wp2_with fail
      go_meet
      first
        | (have zz := BX93; clear zz; refine ⟨_, sa9, sc9, rfl, rfl, rfl, ?_⟩; with_reducible refine hideR (boxp_set XZ93.out OB9.out ?_ BX93.out.1 BX93.out.2); exact Nat.le_refl _)
        | (refine ⟨_, sa9, sc9, rfl, rfl, rfl, ?_⟩; with_reducible refine hideR (boxp_new XZ93.out OB9.out ?_); exact Nat.le_refl _)
  obtain ⟨bh, ha, hc, rfl, rfl, rfl, HBH⟩ := hcut
  obtain ⟨W9, hw9⟩ : ∃ w9, w9 = wc := ⟨_, rfl⟩
  subst hw9
  have HL9 := hideR (HL8.out.grow (ext_bel HBH.out.2.1))
  have Q9 := HBH.out.1
  have HT9 : Hid (VL fI W9 (.slice ha m hc) R.order) := HBH.out.2.2.1.vl
  clear HBH HL8 HQ8 HA8 XV9 XD9 XA9 XB9 NA9 NB9 p0 p1 p2 p3 p4 p5 p6 p7 hsv9
  obtain ⟨t0, t1, t2, t3, t4, t5⟩ := cells6 Q9
  obtain ⟨s0, s1, s2, s3, s4, s5⟩ := cells6 HL9.out.s
  go_wp2_with fail
  refine (eqPro _ _ R _ ⟨_, rfl, HT9.out⟩ HL9.out.sW (by rw [← HMR.out]; exact HML.out)).mono ?_
  rintro e W10 ⟨rfl, b10⟩
  have HL10 := hideR (HL9.out.grow b10)
  clear b10 t0 t1 t2 t3 t4 t5 s0 s1 s2 s3 s4 s5 Q9 HT9 HL9
  obtain ⟨y0, y1, y2, y3, y4, y5⟩ := cells6 HL10.out.g
  go_wp2_with fail
  refine (heldPro U5.heap.size R _ m 1 _ HL10.out.gO HML.out (by omega) (by omega)).mono ?_
  rintro e W11 ⟨rfl, b11⟩
  go_wp2_with fail
  go_ret
  exact ⟨rfl, (HL10.out.grow b11).low⟩

end Go.Proofs.Ytfdklcmhafhbeaa
