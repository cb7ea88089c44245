/- The exact statement of Merge: the walk of the law itself. -/
import Derived.Test.YtbphmgcfbjiadaaHd2
import Derived.Test.YtbphmgcfbjiadaaTb3
import Derived.Test.YtbphmgcfbjiadaaMg1
import Derived.Test.YtbphmgcfbjiadaaOpenT
import Derived.Test.YtbphmgcfbjiadaaMgI
import Derived.Test.YtbphmgcfbjiadaaMgS
import Derived.Deep.RegionHeld3
namespace Go.Proofs.Ytbphmgcfbjiadaa
open Go.RowKit

/-- What is carried beside the first table: the other's box, the program's other argument. -/
structure LO (w W : World) (O : DTab) (uv yv : Value) (y : Nat) : Prop where
  b : W.heap[w.heap.size + 1]? = some (.cells #[.int .i64 O.self, uv] 24 (0, 0))
  y : W.heap[y]? = some (.cells #[.int .i64 O.self, yv] 30 (0, 0))
theorem LO.grow {w W W' : World} {O : DTab} {uv yv : Value} {y : Nat} (h : LO w W O uv yv y) (b : Below W.heap.size W W') : LO w W' O uv yv y := ⟨below_blk b (Array.getElem?_eq_some_iff.1 h.b).1 h.b, below_blk b (Array.getElem?_eq_some_iff.1 h.y).1 h.y⟩
theorem LO.turn {w W W' : World} {O : DTab} {uv yv row : Value} {y rb : Nat} {T : List DMem} (h : LO w W O uv yv y) (o : OwMem W rb row T) (hg : W.grownBy W' row.ownBlock) : LO w W' O uv yv y := ⟨(hg.block _ (Array.getElem?_eq_some_iff.1 h.b).1 (ne_rowM o h.b (by decide))).trans h.b, (hg.block _ (Array.getElem?_eq_some_iff.1 h.y).1 (ne_rowM o h.y (by decide))).trans h.y⟩
theorem keep_lt {W W' : World} {base g : Nat} {v : Value} {ts : List DMem} {n c : Nat} (o : OwMem W base v ts) (h : W.grownBy W' (Value.slice (some ⟨g, 0, none⟩) n c).ownBlock) (hg : g < base) : OwMem W' base v ts := o.keep h (by
  cases hv : v.ownBlock with
  | none => exact .inl rfl
  | some k =>
    right
    have := (o.lt k hv).1
    simp only [Value.ownBlock, ne_eq, Option.some.injEq]
    omega)

set_option maxRecDepth 20000 in
set_option maxHeartbeats 8000000 in
theorem law_Merge (v : Value) (D : DTab) (u : Value) (O : DTab) (w : World) (h : VTab w v D) (k : VTab w u O) :
    Calls Try.prog 4 #[v, u] w fun e w' => e = .returned (.bool true) ∧ Below w.heap.size w w' := by
  have hE : ∀ w : World, ∀ o, Ext w (w.alloc o) := fun w o => World.grownBy_alloc _ _ _
  have hB : ∀ w : World, ∀ o, Below w.heap.size w (w.alloc o) := fun w o => (Below.refl _ w).alloc (Nat.le_refl _) _
  have h0 : Hid (VTab w v D) := h
  have k0 : Hid (VTab w u O) := k
  obtain ⟨⟨R, rb⟩, hR⟩ : ∃ R, R = mergeD D O := ⟨_, rfl⟩
  have HR : Hid ((R, rb) = mergeD D O) := hR
  have HRL : Hid (R.mems.length ≤ 1048576) := by have := mergeD_len D O; rw [← hR] at this; exact this
  clear hR
  obtain ⟨tv, rfl, ht⟩ := h
  obtain ⟨ta, tc, rfl⟩ := ht.shape
  obtain ⟨tu, rfl, hu⟩ := k
  obtain ⟨ua, uc, rfl⟩ := hu.shape
  obtain ⟨n, hn⟩ : ∃ n, n = D.mems.length := ⟨_, rfl⟩
  have HN : Hid (n = D.mems.length) := hn
  obtain ⟨n2, hn2⟩ : ∃ n2, n2 = O.mems.length := ⟨_, rfl⟩
  have HN2 : Hid (n2 = O.mems.length) := hn2
  obtain ⟨m, hm⟩ : ∃ m, m = R.mems.length := ⟨_, rfl⟩
  have HMR : Hid (m = R.mems.length) := hm
  rw [← hn] at h0 ⊢
  rw [← hn2] at k0 ⊢
  clear hn ht hm hn2 hu
  go_enter Try.func4, Try.ntmps4
  go_wp2_with fail
  have PA := al2_0 w (.cells #[.int .i64 D.self, .slice ta n tc] 24 (0, 0)) (.cells #[.int .i64 O.self, .slice ua n2 uc] 24 (0, 0))
  have PO := al2_1 w (.cells #[.int .i64 D.self, .slice ta n tc] 24 (0, 0)) (.cells #[.int .i64 O.self, .slice ua n2 uc] 24 (0, 0))
  have BW : Below w.heap.size w ((w.alloc (.cells #[.int .i64 D.self, .slice ta n tc] 24 (0, 0))).alloc (.cells #[.int .i64 O.self, .slice ua n2 uc] 24 (0, 0))) := ((Below.refl _ w).alloc (Nat.le_refl _) _).alloc (by simp) _
  generalize (w.alloc (.cells #[.int .i64 D.self, .slice ta n tc] 24 (0, 0))).alloc (.cells #[.int .i64 O.self, .slice ua n2 uc] 24 (0, 0)) = W at PA PO BW ⊢
  refine (szTab _ D 1048576 _ (h0.out.ext (ext_below BW)) (by omega) (by omega)).mono ?_
  rintro e w0 ⟨r0, rfl, hrr, b0⟩
  rw [← HN.out] at hrr
  have B0 := BW.trans (b0.mono BW.size)
  rcases hrr with ⟨h1, rfl⟩ | ⟨h1, h2⟩
  · go_wp2_with fail
    go_ret
    exact ⟨rfl, B0⟩
  have hl : n ≤ 1048576 := by omega
  have hr0 : 0 ≤ r0 := by omega
  have hr9 : r0 ≤ 1048576 := by omega
  have PA0 := below_blk b0 (Array.getElem?_eq_some_iff.1 PA).1 PA
  have PO0 := below_blk b0 (Array.getElem?_eq_some_iff.1 PO).1 PO
  clear h1 h2 PA PO BW b0
  obtain ⟨p2, p3⟩ := cells2 PO0
  go_wp2_with fail
  refine (szTab _ O r0 w0 (k0.out.ext (ext_below B0)) (by omega) (by omega)).mono ?_
  rintro e w1 ⟨r, rfl, hrr, b1⟩
  rw [← HN2.out] at hrr
  have B1 := B0.trans (b1.mono B0.size)
  rcases hrr with ⟨h1, rfl⟩ | ⟨h1, h2⟩
  · go_wp2_with fail
    go_ret
    exact ⟨rfl, B1⟩
  have hl2 : n2 ≤ 1048576 := by omega
  have hr : 0 ≤ r := by omega
  have HLE : Hid (D.mems.length ≤ 1048576 ∧ O.mems.length ≤ 1048576) := ⟨by have := HN.out; omega, by have := HN2.out; omega⟩
  have HML : Hid (m ≤ 1048576) := by show _ ≤ _; rw [HMR.out]; exact HRL.out
  have HPA : Hid (w1.heap[w.heap.size]? = some (.cells #[.int .i64 D.self, .slice ta n tc] 24 (0, 0))) := below_blk b1 (Array.getElem?_eq_some_iff.1 PA0).1 PA0
  have HPO : Hid (w1.heap[w.heap.size + 1]? = some (.cells #[.int .i64 O.self, .slice ua n2 uc] 24 (0, 0))) := below_blk b1 (Array.getElem?_eq_some_iff.1 PO0).1 PO0
  clear h1 h2 b1 PA0 PO0 HRL B0 p2 p3 hr9
  obtain ⟨p0, p1⟩ := cells2 HPA.out
  obtain ⟨p2, p3⟩ := cells2 HPO.out
  have HTA : Hid (∀ V, Ext w1 V → Calls Try.prog 7 #[.agg #[.int .i64 D.self, .slice ta n tc]] V fun e w' => ∃ g, e = .returned (.agg #[.int .i64 D.self, .slice (some ⟨g, 0, none⟩) n n]) ∧ Hid (OwMem w' V.heap.size (.slice (some ⟨g, 0, none⟩) n n) D.mems) ∧ Below V.heap.size V w') := fun V e => (toTab _ D V ((h0.out.ext (ext_below B1)).ext e) HLE.out.1).mono (fun e w' ⟨g, h1, h2, h3⟩ => by rw [← HN.out] at h1 h2; exact ⟨g, h1, h2, h3⟩)
  have HTO : Hid (∀ V, Ext w1 V → Calls Try.prog 7 #[.agg #[.int .i64 O.self, .slice ua n2 uc]] V fun e w' => ∃ g, e = .returned (.agg #[.int .i64 O.self, .slice (some ⟨g, 0, none⟩) n2 n2]) ∧ Hid (OwMem w' V.heap.size (.slice (some ⟨g, 0, none⟩) n2 n2) O.mems) ∧ Below V.heap.size V w') := fun V e => (toTab _ O V ((k0.out.ext (ext_below B1)).ext e) HLE.out.2).mono (fun e w' ⟨g, h1, h2, h3⟩ => by rw [← HN2.out] at h1 h2; exact ⟨g, h1, h2, h3⟩)
  have HS : Hid (∀ V va vb, VTab V va D → VTab V vb O → Calls Try.prog 13 #[va, vb] V fun e w' => ∃ sa sc, e = .returned (.tuple #[.agg #[.int .i64 R.self, .slice sa m sc], .bool rb]) ∧ Hid (OwMem w' V.heap.size (.slice sa m sc) R.mems) ∧ Below V.heap.size V w') := fun V va vb hv hu => (sMergeV va vb D O V hv hu HLE.out.1 HLE.out.2).mono (fun e w' ⟨tv, h1, h2, h3⟩ => by
    rw [← HR.out] at h1 h2
    obtain ⟨sa, sc, hsv⟩ := h2.v.shape
    rw [← HMR.out] at hsv
    subst hsv
    exact ⟨sa, sc, h1, h2, h3⟩)
  have HI : Hid (∀ V va vb, VTab V va D → VTab V vb O → Calls Try.prog 14 #[va, vb] V fun e w' => ∃ sa sc, e = .returned (.tuple #[.agg #[.int .i64 R.self, .slice sa m sc], .bool rb]) ∧ Hid (OwMem w' V.heap.size (.slice sa m sc) R.mems) ∧ Below V.heap.size V w') := fun V va vb hv hu => (iMergeV va vb D O V hv hu HLE.out.1 HLE.out.2).mono (fun e w' ⟨tv, h1, h2, h3⟩ => by
    rw [← HR.out] at h1 h2
    obtain ⟨sa, sc, hsv⟩ := h2.v.shape
    rw [← HMR.out] at hsv
    subst hsv
    exact ⟨sa, sc, h1, h2, h3⟩)
  have hsv1 : w.heap.size < w1.heap.size ∧ w.heap.size + 1 < w1.heap.size := ⟨(Array.getElem?_eq_some_iff.1 HPA.out).1, (Array.getElem?_eq_some_iff.1 HPO.out).1⟩
  have XV1 : Hid (Ext w1 w1) := ext_drewN w1 0
  go_upto_region 8 with fail
  -- the specification
  have XD1 : Hid (Ext w1 w1.drew) := ext_drewN _ 1
  have XA1 : Hid (∀ o, Ext w1 (w1.alloc o).drew) := fun o => (hE _ o).tr (ext_drewN _ 1)
  have XB1 : Hid (∀ o, Ext w1 (w1.drew.alloc o)) := fun o => (ext_drewN w1 1).tr (hE _ o)
  have NA1 : Hid (∀ o, (w1.alloc o).drew.heap[w1.heap.size]? = some o) := fun o => heap_alloc_new w1 o
  have NB1 : Hid (∀ o, (w1.drew.alloc o).heap[w1.heap.size]? = some o) := fun o => heap_alloc_new w1.drew o
  go_cut [6, 7] from 27 to 34 (fun s t wx => ∃ bs sa sc, s = .pointer (some ⟨bs, 0, none⟩) ∧ t = .bool rb ∧ Hid (BoxT w1 R m bs sa sc wx))
  case first =>
    have HSV1 : Hid (w.heap.size < w1.heap.size ∧ w.heap.size + 1 < w1.heap.size) := hsv1
    have na10 : w1.heap.size ≠ w.heap.size := by have := hsv1; omega
    have nb10 : w1.heap.size ≠ w.heap.size + 1 := by have := hsv1; omega
    go_region_held3 (fun w' => w'.cell? ⟨w.heap.size, 0, none⟩ = some (.int .i64 D.self) ∧ w'.cell? ⟨w.heap.size, 1, none⟩ = some (.slice ta n tc) ∧ w'.cell? ⟨w.heap.size + 1, 0, none⟩ = some (.int .i64 O.self) ∧ w'.cell? ⟨w.heap.size + 1, 1, none⟩ = some (.slice ua n2 uc)) (first | (simp [*]; done) | go_keep)
      (first
        | (have zz := XZ12; clear zz; go_at_call 13; refine (HS.out _ _ _ ?_ ?_).mono ?_; (first | exact OZ11.out.ext XZ112.out | exact (OZ11.out.ext XZ112.out).ext (hE _ _)); (first | exact OY12.out | exact OY12.out.ext (hE _ _)); rintro e z13 ⟨sa1, sc1, rfl, OZ13, bz13⟩; have XZ123 : Hid (Ext z12 z13) := (by first | exact ext_below bz13 | exact (hE _ _).tr (ext_below bz13)); have XZ13 : Hid (Ext w1 z13) := XZ12.out.tr XZ123.out; have OB1 : Hid (OwMem z13 w1.heap.size (.slice sa1 m sc1) R.mems) := OZ13.out.base (by have := XZ12.out.size; first | exact this | (simp; omega)); obtain ⟨e130, e131⟩ := cells2 (ext_blk XZ13.out HPA.out); obtain ⟨f130, f131⟩ := cells2 (ext_blk XZ13.out HPO.out); have na13 : z13.heap.size ≠ w.heap.size := (by have := XZ13.out.size; have := HSV1.out; omega); have nb13 : z13.heap.size ≠ w.heap.size + 1 := (by have := XZ13.out.size; have := HSV1.out; omega); (try (have BX13 : Hid (z13.heap[w1.heap.size]? = some (.cells #[.int .i64 0, .slice none 0 0] 30 (0, 0)) ∧ w1.heap.size ≤ w1.heap.size) := ⟨ext_blk XZ123.out BX12.out.1, BX12.out.2⟩; obtain ⟨y130, t130⟩ := at_block BX13.out.1 0 _ rfl; obtain ⟨y131, t131⟩ := at_block BX13.out.1 1 _ rfl)); (try (have BX13 : Hid (z13.heap[z11.heap.size]? = some (.cells #[.int .i64 0, .slice none 0 0] 30 (0, 0)) ∧ w1.heap.size ≤ z11.heap.size) := ⟨ext_blk XZ123.out BX12.out.1, BX12.out.2⟩; obtain ⟨y130, t130⟩ := at_block BX13.out.1 0 _ rfl; obtain ⟨y131, t131⟩ := at_block BX13.out.1 1 _ rfl)); (try (have BX13 : Hid (z13.heap[z12.heap.size]? = some (.cells #[.int .i64 0, .slice none 0 0] 30 (0, 0)) ∧ w1.heap.size ≤ z12.heap.size) := ⟨below_blk bz13 (by simp) (heap_alloc_new z12 _), XZ12.out.size⟩; obtain ⟨y130, t130⟩ := at_block BX13.out.1 0 _ rfl; obtain ⟨y131, t131⟩ := at_block BX13.out.1 1 _ rfl)))
        | (have zz := XZ11; clear zz; go_at_call 7; refine (HTO.out _ ?_).mono ?_; (first | exact XV1.out.tr XZ11.out | exact XV1.out.tr (XZ11.out.tr (hE _ _))); rintro e z12 ⟨j1, rfl, oy1, bz12⟩; have XZ112 : Hid (Ext z11 z12) := (by first | exact ext_below bz12 | exact (hE _ _).tr (ext_below bz12)); have XZ12 : Hid (Ext w1 z12) := XZ11.out.tr XZ112.out; have OY12 : Hid (VTab z12 (.agg #[.int .i64 O.self, .slice (some ⟨j1, 0, none⟩) n2 n2]) O) := ⟨_, rfl, oy1.out.v⟩; obtain ⟨e120, e121⟩ := cells2 (ext_blk XZ12.out HPA.out); obtain ⟨f120, f121⟩ := cells2 (ext_blk XZ12.out HPO.out); have na12 : z12.heap.size ≠ w.heap.size := (by have := XZ12.out.size; have := HSV1.out; omega); have nb12 : z12.heap.size ≠ w.heap.size + 1 := (by have := XZ12.out.size; have := HSV1.out; omega); (try (have BX12 : Hid (z12.heap[w1.heap.size]? = some (.cells #[.int .i64 0, .slice none 0 0] 30 (0, 0)) ∧ w1.heap.size ≤ w1.heap.size) := ⟨ext_blk XZ112.out BX11.out.1, BX11.out.2⟩; obtain ⟨y120, t120⟩ := at_block BX12.out.1 0 _ rfl; obtain ⟨y121, t121⟩ := at_block BX12.out.1 1 _ rfl)); (try (have BX12 : Hid (z12.heap[z11.heap.size]? = some (.cells #[.int .i64 0, .slice none 0 0] 30 (0, 0)) ∧ w1.heap.size ≤ z11.heap.size) := ⟨below_blk bz12 (by simp) (heap_alloc_new z11 _), XZ11.out.size⟩; obtain ⟨y120, t120⟩ := at_block BX12.out.1 0 _ rfl; obtain ⟨y121, t121⟩ := at_block BX12.out.1 1 _ rfl)))
        | (go_at_call 7; refine (HTA.out _ ?_).mono ?_; (first | exact XV1.out.tr XD1.out | exact XV1.out.tr (XA1.out _) | exact XV1.out.tr (XB1.out _)); rintro e z11 ⟨g1, rfl, oz1, bz11⟩; have XZ11 : Hid (Ext w1 z11) := (by first | exact XD1.out.tr (ext_below bz11) | exact (XA1.out _).tr (ext_below bz11) | exact (XB1.out _).tr (ext_below bz11)); have OZ11 : Hid (VTab z11 (.agg #[.int .i64 D.self, .slice (some ⟨g1, 0, none⟩) n n]) D) := ⟨_, rfl, oz1.out.v⟩; obtain ⟨e110, e111⟩ := cells2 (ext_blk XZ11.out HPA.out); obtain ⟨f110, f111⟩ := cells2 (ext_blk XZ11.out HPO.out); have na11 : z11.heap.size ≠ w.heap.size := (by have := XZ11.out.size; have := HSV1.out; omega); have nb11 : z11.heap.size ≠ w.heap.size + 1 := (by have := XZ11.out.size; have := HSV1.out; omega); (try (have BX11 : Hid (z11.heap[w1.heap.size]? = some (.cells #[.int .i64 0, .slice none 0 0] 30 (0, 0)) ∧ w1.heap.size ≤ w1.heap.size) := (by first | exact ⟨below_blk bz11 (by simp) (NA1.out _), Nat.le_refl _⟩ | exact ⟨below_blk bz11 (by simp) (NB1.out _), Nat.le_refl _⟩); obtain ⟨y110, t110⟩ := at_block BX11.out.1 0 _ rfl; obtain ⟨y111, t111⟩ := at_block BX11.out.1 1 _ rfl)))
      )
    all_goals
      go_wp2_with fail
      go_meet
      exact ⟨_, _, _, rfl, rfl, by first | exact box_new XZ13.out OB1.out (Nat.le_refl _) | exact box_set XZ13.out OB1.out (Nat.le_refl _) BX13.out.1 BX13.out.2⟩
  obtain ⟨bs, sa, sc, rfl, rfl, HBS⟩ := hcut
  obtain ⟨w3, hw3⟩ : ∃ w3, w3 = wc := ⟨_, rfl⟩
  subst hw3
  have X13 : Ext w1 w3 := HBS.out.2.1
  have HV3 : Hid (VMem w3 (.slice sa m sc) R.mems) := HBS.out.2.2.1.v
  have PS3 := HBS.out.1
  have B3 : Below w.heap.size w w3 := B1.trans ((ext_bel X13).mono B1.size)
  have P3 := ext_blk X13 HPA.out
  have M3 := ext_blk X13 HPO.out
  clear XD1 XA1 XB1 NA1 NB1 XV1 p0 p1 p2 p3 hsv1 HBS
  obtain ⟨q0, q1⟩ := cells2 P3
  -- the program's arguments
  go_wp2_with fail
  refine (HTA.out w3 X13).mono ?_
  rintro e w4 ⟨g4, rfl, o4, b4⟩
  have X34 : Ext w3 w4 := ext_below b4
  have HM4 : Hid (∀ W, W = w4.alloc (.cells #[.int .i64 D.self, .slice (some ⟨g4, 0, none⟩) n n] 30 (0, 0)) → Ext w3 W ∧ W.heap[w4.heap.size]? = some (.cells #[.int .i64 D.self, .slice (some ⟨g4, 0, none⟩) n n] 30 (0, 0)) ∧ OwMem W w3.heap.size (.slice (some ⟨g4, 0, none⟩) n n) D.mems ∧ w4.heap.size < W.heap.size) := fun W hW => by
    subst hW
    exact ⟨X34.tr (hE _ _), heap_alloc_new _ _, o4.out.ext (hE _ _), by simp⟩
  clear q0 q1 b4
  go_upto_region 10 with fail
  generalize hU : w4.alloc _ = U4
  obtain ⟨X3U, XU, OX, hbx⟩ := HM4.out U4 hU.symm
  clear hU HM4 X34 o4
  generalize w4.heap.size = bx at *
  have HG4 : Hid (g4 < U4.heap.size) := (OX.lt g4 rfl).2
  have HPX : Hid (U4.heap[bx]? = some (.cells #[.int .i64 D.self, .slice (some ⟨g4, 0, none⟩) n n] 30 (0, 0))) := XU
  have HX3U : Hid (Ext w3 U4) := X3U
  have HOX : Hid (OwMem U4 w3.heap.size (.slice (some ⟨g4, 0, none⟩) n n) D.mems) := OX
  obtain ⟨q0, q1⟩ := cells2 (ext_blk X3U M3)
  clear X3U XU OX hbx
  go_wp2_with fail
  refine (HTO.out U4 (X13.tr HX3U.out)).mono ?_
  rintro e w5 ⟨g5, rfl, o5, b5⟩
  have X45 : Ext U4 w5 := ext_below b5
  have HM5 : Hid (∀ W, W = w5.alloc (.cells #[.int .i64 O.self, .slice (some ⟨g5, 0, none⟩) n2 n2] 30 (0, 0)) → Ext U4 W ∧ W.heap[w5.heap.size]? = some (.cells #[.int .i64 O.self, .slice (some ⟨g5, 0, none⟩) n2 n2] 30 (0, 0)) ∧ OwMem W U4.heap.size (.slice (some ⟨g5, 0, none⟩) n2 n2) O.mems ∧ w5.heap.size < W.heap.size) := fun W hW => by
    subst hW
    exact ⟨X45.tr (hE _ _), heap_alloc_new _ _, o5.out.ext (hE _ _), by simp⟩
  clear q0 q1 b5
  go_upto_region 11 with fail
  generalize hU : w5.alloc _ = U5
  obtain ⟨X4U, YU, OY, hby⟩ := HM5.out U5 hU.symm
  clear hU HM5 X45 o5
  generalize w5.heap.size = bY at *
  have HG5 : Hid (g5 < U5.heap.size ∧ g4 < U5.heap.size) := ⟨(OY.lt g5 rfl).2, Nat.lt_of_lt_of_le HG4.out X4U.size⟩
  have HPY : Hid (U5.heap[bY]? = some (.cells #[.int .i64 O.self, .slice (some ⟨g5, 0, none⟩) n2 n2] 30 (0, 0))) := YU
  have HX4U : Hid (Ext U4 U5) := X4U
  have HOY : Hid (OwMem U5 U4.heap.size (.slice (some ⟨g5, 0, none⟩) n2 n2) O.mems) := OY
  obtain ⟨q0, q1⟩ := cells2 (ext_blk X4U HPX.out)
  obtain ⟨q2, q3⟩ := cells2 HPY.out
  clear X4U YU OY hby
  -- the program
  go_wp2_with fail
  refine (HI.out U5 _ _ ⟨_, rfl, HOX.out.v.ext HX4U.out⟩ ⟨_, rfl, HOY.out.v⟩).mono ?_
  rintro e w6 ⟨ga, gc, rfl, O6, b6⟩
  have HLL : Hid (∀ W, W = w6.alloc (.cells #[.int .i64 R.self, .slice ga m gc] 30 (0, 0)) → LT w w3 W D R (.slice ta n tc) (.slice sa m sc) (.slice (some ⟨g4, 0, none⟩) n n) (.slice ga m gc) bs bx w6.heap.size U5.heap.size R.mems ∧ LO w W O (.slice ua n2 uc) (.slice (some ⟨g5, 0, none⟩) n2 n2) bY ∧ OwMem W w3.heap.size (.slice (some ⟨g4, 0, none⟩) n n) D.mems ∧ OwMem W U4.heap.size (.slice (some ⟨g5, 0, none⟩) n2 n2) O.mems) := fun W hW => by
    subst hW
    have X5W : Ext U5 (w6.alloc (.cells #[.int .i64 R.self, .slice ga m gc] 30 (0, 0))) := (ext_below b6).tr (hE _ _)
    have X4W := HX4U.out.tr X5W
    have X3W := HX3U.out.tr X4W
    exact ⟨⟨B3.trans ((ext_bel X3W).mono B3.size), ext_bel X3W, HV3.out, ext_blk X3W P3, ext_blk X3W PS3, ext_blk X4W HPX.out, heap_alloc_new _ _, O6.out.ext (hE _ _), Nat.le_trans HX3U.out.size HX4U.out.size, B3.size⟩, ⟨ext_blk X3W M3, ext_blk X5W HPY.out⟩, HOX.out.ext X4W, HOY.out.ext X5W⟩
  have HW34 : Hid (w3.heap.size ≤ U4.heap.size) := HX3U.out.size
  clear q0 q1 q2 q3
  go_upto_region 12 with fail
  generalize hU : w6.alloc _ = W0
  obtain ⟨L0, K0, X0, Y0⟩ := HLL.out W0 hU.symm
  clear hU HLL O6 b6 HPX HX3U HOX HPY HX4U HOY HV3 PS3 B3 P3 M3
  generalize w6.heap.size = bg at *
  have HL0 : Hid (LT w w3 W0 D R (.slice ta n tc) (.slice sa m sc) (.slice (some ⟨g4, 0, none⟩) n n) (.slice ga m gc) bs bx bg U5.heap.size R.mems) := L0
  have HK0 := hideQ K0
  have HX0 : Hid (OwMem W0 w3.heap.size (.slice (some ⟨g4, 0, none⟩) n n) D.mems) := X0
  have HY0 : Hid (OwMem W0 U4.heap.size (.slice (some ⟨g5, 0, none⟩) n2 n2) O.mems) := Y0
  have HXV : Hid (Ext w1 w3) := X13
  clear K0 X0 Y0 X13
  obtain ⟨s0, s1⟩ := cells2 L0.s
  obtain ⟨y0, y1⟩ := cells2 L0.g
  clear L0
  -- its answer held against the specification's
  go_wp2_with fail
  refine (eqTab _ _ R _ ⟨_, rfl, HL0.out.gO.v⟩ HL0.out.sW (by rw [← HMR.out]; exact HML.out)).mono ?_
  rintro e W1 ⟨rfl, b1⟩
  have HL1 := hideQ (HL0.out.grow b1)
  have HK1 := hideQ (HK0.out.grow b1)
  have HX1 : Hid (OwMem W1 w3.heap.size (.slice (some ⟨g4, 0, none⟩) n n) D.mems) := HX0.out.ext (ext_below b1)
  have HY1 : Hid (OwMem W1 U4.heap.size (.slice (some ⟨g5, 0, none⟩) n2 n2) O.mems) := HY0.out.ext (ext_below b1)
  clear s0 s1 y0 y1 b1 HL0 HX0 HY0 HK0
  obtain ⟨a0, a1⟩ := cells2 HL1.out.a
  obtain ⟨x0, x1⟩ := cells2 HL1.out.x
  have HS1 : Hid ((W1.cell? ⟨bx, 0, none⟩ = some (.int .i64 D.self) ∧ W1.cell? ⟨bx, 1, none⟩ = some (.slice (some ⟨g4, 0, none⟩) n n)) ∧ (W1.cell? ⟨w.heap.size, 0, none⟩ = some (.int .i64 D.self) ∧ W1.cell? ⟨w.heap.size, 1, none⟩ = some (.slice ta n tc))) := ⟨⟨x0, x1⟩, ⟨a0, a1⟩⟩
  -- its arguments are as they were
  go_upto_region 14 with fail
  go_region_held3 (fun w' => w'.cell? ⟨bx, 0, none⟩ = some (.int .i64 D.self) ∧ w'.cell? ⟨bx, 1, none⟩ = some (.slice (some ⟨g4, 0, none⟩) n n) ∧ w'.cell? ⟨w.heap.size, 0, none⟩ = some (.int .i64 D.self) ∧ w'.cell? ⟨w.heap.size, 1, none⟩ = some (.slice ta n tc)) (simp [*])
    (first | (go_at_call 7; refine (toTab _ D _ ?_ HLE.out.1).mono ?_; exact (h0.out.ext (ext_below HL1.out.low)).ext (ext_drewN W1 1); rintro e v6 ⟨g6, rfl, o6, b6⟩; rw [← HN.out]; have V6 : VTab v6 (.agg #[.int .i64 D.self, .slice (some ⟨g6, 0, none⟩) n n]) D := (⟨_, rfl, by rw [HN.out]; exact o6.v⟩); obtain ⟨⟨c0, c1⟩, ⟨d0, d1⟩⟩ := keptT (w := W1.drew) HS1.out b6) | (go_at_call 10; refine (eqTab _ _ D _ ?_ ?_ HLE.out.1).mono ?_; exact (⟨_, rfl, (HX1.out.v.ext (ext_drewN W1 1)).ext (ext_below b6)⟩ : VTab _ _ D); exact V6; rintro e v7 ⟨rfl, b7⟩; obtain ⟨⟨c0', c1'⟩, ⟨d0', d1'⟩⟩ := keptT ⟨⟨c0, c1⟩, ⟨d0, d1⟩⟩ b7))
  have bA : Below W1.heap.size W1 v7 := ((below_drewN (Below.refl _ W1) 1).trans (b6.mono (Nat.le_refl _))).trans (b7.mono b6.size)
  have HL2 := hideQ (HL1.out.grow bA)
  have HK2 := hideQ (HK1.out.grow bA)
  have HX2 : Hid (OwMem v7 w3.heap.size (.slice (some ⟨g4, 0, none⟩) n n) D.mems) := HX1.out.ext (ext_below bA)
  have HY2 : Hid (OwMem v7 U4.heap.size (.slice (some ⟨g5, 0, none⟩) n2 n2) O.mems) := HY1.out.ext (ext_below bA)
  clear c0 c1 d0 d1 c0' c1' d0' d1' b6 b7 bA V6 o6 x0 x1 a0 a1 HL1 HX1 HY1 HK1 HS1
  obtain ⟨a0, a1⟩ := cells2 HK2.out.b
  obtain ⟨x0, x1⟩ := cells2 HK2.out.y
  have HS1 : Hid ((v7.cell? ⟨bY, 0, none⟩ = some (.int .i64 O.self) ∧ v7.cell? ⟨bY, 1, none⟩ = some (.slice (some ⟨g5, 0, none⟩) n2 n2)) ∧ (v7.cell? ⟨w.heap.size + 1, 0, none⟩ = some (.int .i64 O.self) ∧ v7.cell? ⟨w.heap.size + 1, 1, none⟩ = some (.slice ua n2 uc))) := ⟨⟨x0, x1⟩, ⟨a0, a1⟩⟩
  go_upto_region 16 with fail
  go_region_held3 (fun w' => w'.cell? ⟨bY, 0, none⟩ = some (.int .i64 O.self) ∧ w'.cell? ⟨bY, 1, none⟩ = some (.slice (some ⟨g5, 0, none⟩) n2 n2) ∧ w'.cell? ⟨w.heap.size + 1, 0, none⟩ = some (.int .i64 O.self) ∧ w'.cell? ⟨w.heap.size + 1, 1, none⟩ = some (.slice ua n2 uc)) (simp [*])
    (first | (go_at_call 7; refine (toTab _ O _ ?_ HLE.out.2).mono ?_; exact (k0.out.ext (ext_below HL2.out.low)).ext (ext_drewN v7 1); rintro e v8 ⟨g6, rfl, o6, b6⟩; rw [← HN2.out]; have V6 : VTab v8 (.agg #[.int .i64 O.self, .slice (some ⟨g6, 0, none⟩) n2 n2]) O := (⟨_, rfl, by rw [HN2.out]; exact o6.v⟩); obtain ⟨⟨c0, c1⟩, ⟨d0, d1⟩⟩ := keptT (w := v7.drew) HS1.out b6) | (go_at_call 10; refine (eqTab _ _ O _ ?_ ?_ HLE.out.2).mono ?_; exact (⟨_, rfl, (HY2.out.v.ext (ext_drewN v7 1)).ext (ext_below b6)⟩ : VTab _ _ O); exact V6; rintro e v9 ⟨rfl, b7⟩; obtain ⟨⟨c0', c1'⟩, ⟨d0', d1'⟩⟩ := keptT ⟨⟨c0, c1⟩, ⟨d0, d1⟩⟩ b7))
  have bA : Below v7.heap.size v7 v9 := ((below_drewN (Below.refl _ v7) 1).trans (b6.mono (Nat.le_refl _))).trans (b7.mono b6.size)
  have HL3 := hideQ (HL2.out.grow bA)
  have HK3 := hideQ (HK2.out.grow bA)
  have HX3 : Hid (OwMem v9 w3.heap.size (.slice (some ⟨g4, 0, none⟩) n n) D.mems) := HX2.out.ext (ext_below bA)
  have HY3 : Hid (OwMem v9 U4.heap.size (.slice (some ⟨g5, 0, none⟩) n2 n2) O.mems) := HY2.out.ext (ext_below bA)
  clear c0 c1 d0 d1 c0' c1' d0' d1' b6 b7 bA V6 o6 x0 x1 a0 a1 HL2 HX2 HY2 HK2 HS1
  obtain ⟨x0, x1⟩ := cells2 HL3.out.x
  -- marks in its arguments
  go_wp2_with fail
  refine (markTab w3.heap.size D.self _ D.mems 1 _ HX3.out HLE.out.1 (by omega) (by omega)).mono ?_
  rintro e W3 ⟨rfl, o3, g3⟩
  rw [← HN.out]
  have HGO : Hid (OwMem W3 U5.heap.size (.slice ga m gc) R.mems) := keep_lt HL3.out.gO g3 HG5.out.2
  have HY4 : Hid (OwMem W3 U4.heap.size (.slice (some ⟨g5, 0, none⟩) n2 n2) O.mems) := keep_lt HY3.out g3 HG4.out
  have HL4 := hideQ (HL3.out.turn HX3.out (Nat.le_refl _) g3 HGO.out)
  have HK4 := hideQ (HK3.out.turn HX3.out g3)
  clear o3 g3 x0 x1 HL3 HX3 HK3 HY3 HGO
  obtain ⟨x0, x1⟩ := cells2 HK4.out.y
  go_wp2_with fail
  refine (markTab2 U4.heap.size O.self _ O.mems (1 + 3 * (n : Int)) _ HY4.out HLE.out.2 (by omega) (by omega)).mono ?_
  rintro e W5 ⟨rfl, o3, g3⟩
  rw [← HN2.out]
  have HGO : Hid (OwMem W5 U5.heap.size (.slice ga m gc) R.mems) := keep_lt HL4.out.gO g3 HG5.out.1
  have HL5 := hideQ (HL4.out.turn HY4.out HW34.out g3 HGO.out)
  have HK5 := hideQ (HK4.out.turn HY4.out g3)
  clear o3 g3 x0 x1 HL4 HK4 HY4
  obtain ⟨s0, s1⟩ := cells2 HL5.out.s
  obtain ⟨y0, y1⟩ := cells2 HL5.out.g
  have hk0 : ¬ ((1 : Int) + 3 * (n : Int) + 3 * (n2 : Int) < 0) := by omega
  have hk1 : decide ((1 : Int) + 3 * (n : Int) + 3 * (n2 : Int) < 0) = false := by simp; omega
  go_wp2_with fail
  refine (eqTab _ _ R _ ⟨_, rfl, HL5.out.gO.v⟩ HL5.out.sW (by rw [← HMR.out]; exact HML.out)).mono ?_
  rintro e W6 ⟨rfl, b4⟩
  have HL6 := hideQ (HL5.out.grow b4)
  have HK6 := hideQ (HK5.out.grow b4)
  clear s0 s1 y0 y1 b4 HL5 HGO HK5
  obtain ⟨y0, y1⟩ := cells2 HL6.out.g
  -- marks in its answer
  go_wp2_with fail
  refine (markTab U5.heap.size R.self _ R.mems 1 _ HL6.out.gO (by rw [← HMR.out]; exact HML.out) (by omega) (by omega)).mono ?_
  rintro e W7 ⟨rfl, o5, g7⟩
  rw [← HMR.out] at o5 ⊢
  have HL7 := hideQ (HL6.out.turn HL6.out.gO HL6.out.bs g7 o5)
  have HK7 := hideQ (HK6.out.turn HL6.out.gO g7)
  clear o5 g7 y0 y1 HL6 HK6
  obtain ⟨y0, y1⟩ := cells2 HL7.out.g
  go_wp2_with fail
  refine (heldTab U5.heap.size R.self _ m 1 _ HL7.out.gO (by have := HML.out; omega) (by omega) (by omega)).mono ?_
  rintro e W8 ⟨rfl, b6⟩
  have HL8 := hideQ (HL7.out.grow b6)
  have HK8 := hideQ (HK7.out.grow b6)
  have HA8 : Hid (W8.heap[w.heap.size]? = some (.cells #[.int .i64 D.self, .slice ta n tc] 24 (0, 0))) := HL8.out.a
  have HQ8 : Hid (W8.heap[w.heap.size + 1]? = some (.cells #[.int .i64 O.self, .slice ua n2 uc] 24 (0, 0))) := HK8.out.b
  have XV9 : Hid (Ext w1 W8) := HXV.out.tr (ext_below HL8.out.sB)
  clear y0 y1 b6 HL7 HK7 HK8
  obtain ⟨p0, p1⟩ := cells2 HA8.out
  obtain ⟨p2, p3⟩ := cells2 HQ8.out
  have hsv9 : w.heap.size < W8.heap.size ∧ w.heap.size + 1 < W8.heap.size := ⟨(Array.getElem?_eq_some_iff.1 HA8.out).1, (Array.getElem?_eq_some_iff.1 HQ8.out).1⟩
  have hm0 : ¬ ((1 : Int) + 3 * (m : Int) < 0) := by omega
  -- another call
  go_upto_region 31 with fail
  have XD9 : Hid (Ext W8 W8.drew) := ext_drewN _ 1
  have XA9 : Hid (∀ o, Ext W8 (W8.alloc o).drew) := fun o => (hE _ o).tr (ext_drewN _ 1)
  have XB9 : Hid (∀ o, Ext W8 (W8.drew.alloc o)) := fun o => (ext_drewN W8 1).tr (hE _ o)
  have NA9 : Hid (∀ o, (W8.alloc o).drew.heap[W8.heap.size]? = some o) := fun o => heap_alloc_new W8 o
  have NB9 : Hid (∀ o, (W8.drew.alloc o).heap[W8.heap.size]? = some o) := fun o => heap_alloc_new W8.drew o
  go_cut [15, 16] from 94 to 101 (fun s t wx => ∃ bs sa sc, s = .pointer (some ⟨bs, 0, none⟩) ∧ t = .bool rb ∧ Hid (BoxT W8 R m bs sa sc wx))
  case first =>
    have HSV9 : Hid (w.heap.size < W8.heap.size ∧ w.heap.size + 1 < W8.heap.size) := hsv9
    have na90 : W8.heap.size ≠ w.heap.size := by have := hsv9; omega
    have nb90 : W8.heap.size ≠ w.heap.size + 1 := by have := hsv9; omega
    go_region_held3 (fun w' => w'.cell? ⟨w.heap.size, 0, none⟩ = some (.int .i64 D.self) ∧ w'.cell? ⟨w.heap.size, 1, none⟩ = some (.slice ta n tc) ∧ w'.cell? ⟨w.heap.size + 1, 0, none⟩ = some (.int .i64 O.self) ∧ w'.cell? ⟨w.heap.size + 1, 1, none⟩ = some (.slice ua n2 uc)) (first | (simp [*]; done) | go_keep)
      (first
        | (have zz := XZ92; clear zz; go_at_call 14; refine (HI.out _ _ _ ?_ ?_).mono ?_; (first | exact OZ91.out.ext XZ912.out | exact (OZ91.out.ext XZ912.out).ext (hE _ _)); (first | exact OY92.out | exact OY92.out.ext (hE _ _)); rintro e z93 ⟨sa9, sc9, rfl, OZ93, bz93⟩; have XZ923 : Hid (Ext z92 z93) := (by first | exact ext_below bz93 | exact (hE _ _).tr (ext_below bz93)); have XZ93 : Hid (Ext W8 z93) := XZ92.out.tr XZ923.out; have OB9 : Hid (OwMem z93 W8.heap.size (.slice sa9 m sc9) R.mems) := OZ93.out.base (by have := XZ92.out.size; first | exact this | (simp; omega)); obtain ⟨e930, e931⟩ := cells2 (ext_blk XZ93.out HA8.out); obtain ⟨f930, f931⟩ := cells2 (ext_blk XZ93.out HQ8.out); have na93 : z93.heap.size ≠ w.heap.size := (by have := XZ93.out.size; have := HSV9.out; omega); have nb93 : z93.heap.size ≠ w.heap.size + 1 := (by have := XZ93.out.size; have := HSV9.out; omega); (try (have BX93 : Hid (z93.heap[W8.heap.size]? = some (.cells #[.int .i64 0, .slice none 0 0] 30 (0, 0)) ∧ W8.heap.size ≤ W8.heap.size) := ⟨ext_blk XZ923.out BX92.out.1, BX92.out.2⟩; obtain ⟨y930, t930⟩ := at_block BX93.out.1 0 _ rfl; obtain ⟨y931, t931⟩ := at_block BX93.out.1 1 _ rfl)); (try (have BX93 : Hid (z93.heap[z91.heap.size]? = some (.cells #[.int .i64 0, .slice none 0 0] 30 (0, 0)) ∧ W8.heap.size ≤ z91.heap.size) := ⟨ext_blk XZ923.out BX92.out.1, BX92.out.2⟩; obtain ⟨y930, t930⟩ := at_block BX93.out.1 0 _ rfl; obtain ⟨y931, t931⟩ := at_block BX93.out.1 1 _ rfl)); (try (have BX93 : Hid (z93.heap[z92.heap.size]? = some (.cells #[.int .i64 0, .slice none 0 0] 30 (0, 0)) ∧ W8.heap.size ≤ z92.heap.size) := ⟨below_blk bz93 (by simp) (heap_alloc_new z92 _), XZ92.out.size⟩; obtain ⟨y930, t930⟩ := at_block BX93.out.1 0 _ rfl; obtain ⟨y931, t931⟩ := at_block BX93.out.1 1 _ rfl)))
        | (have zz := XZ91; clear zz; go_at_call 7; refine (HTO.out _ ?_).mono ?_; (first | exact XV9.out.tr XZ91.out | exact XV9.out.tr (XZ91.out.tr (hE _ _))); rintro e z92 ⟨j9, rfl, oy9, bz92⟩; have XZ912 : Hid (Ext z91 z92) := (by first | exact ext_below bz92 | exact (hE _ _).tr (ext_below bz92)); have XZ92 : Hid (Ext W8 z92) := XZ91.out.tr XZ912.out; have OY92 : Hid (VTab z92 (.agg #[.int .i64 O.self, .slice (some ⟨j9, 0, none⟩) n2 n2]) O) := ⟨_, rfl, oy9.out.v⟩; obtain ⟨e920, e921⟩ := cells2 (ext_blk XZ92.out HA8.out); obtain ⟨f920, f921⟩ := cells2 (ext_blk XZ92.out HQ8.out); have na92 : z92.heap.size ≠ w.heap.size := (by have := XZ92.out.size; have := HSV9.out; omega); have nb92 : z92.heap.size ≠ w.heap.size + 1 := (by have := XZ92.out.size; have := HSV9.out; omega); (try (have BX92 : Hid (z92.heap[W8.heap.size]? = some (.cells #[.int .i64 0, .slice none 0 0] 30 (0, 0)) ∧ W8.heap.size ≤ W8.heap.size) := ⟨ext_blk XZ912.out BX91.out.1, BX91.out.2⟩; obtain ⟨y920, t920⟩ := at_block BX92.out.1 0 _ rfl; obtain ⟨y921, t921⟩ := at_block BX92.out.1 1 _ rfl)); (try (have BX92 : Hid (z92.heap[z91.heap.size]? = some (.cells #[.int .i64 0, .slice none 0 0] 30 (0, 0)) ∧ W8.heap.size ≤ z91.heap.size) := ⟨below_blk bz92 (by simp) (heap_alloc_new z91 _), XZ91.out.size⟩; obtain ⟨y920, t920⟩ := at_block BX92.out.1 0 _ rfl; obtain ⟨y921, t921⟩ := at_block BX92.out.1 1 _ rfl)))
        | (go_at_call 7; refine (HTA.out _ ?_).mono ?_; (first | exact XV9.out.tr XD9.out | exact XV9.out.tr (XA9.out _) | exact XV9.out.tr (XB9.out _)); rintro e z91 ⟨g9, rfl, oz9, bz91⟩; have XZ91 : Hid (Ext W8 z91) := (by first | exact XD9.out.tr (ext_below bz91) | exact (XA9.out _).tr (ext_below bz91) | exact (XB9.out _).tr (ext_below bz91)); have OZ91 : Hid (VTab z91 (.agg #[.int .i64 D.self, .slice (some ⟨g9, 0, none⟩) n n]) D) := ⟨_, rfl, oz9.out.v⟩; obtain ⟨e910, e911⟩ := cells2 (ext_blk XZ91.out HA8.out); obtain ⟨f910, f911⟩ := cells2 (ext_blk XZ91.out HQ8.out); have na91 : z91.heap.size ≠ w.heap.size := (by have := XZ91.out.size; have := HSV9.out; omega); have nb91 : z91.heap.size ≠ w.heap.size + 1 := (by have := XZ91.out.size; have := HSV9.out; omega); (try (have BX91 : Hid (z91.heap[W8.heap.size]? = some (.cells #[.int .i64 0, .slice none 0 0] 30 (0, 0)) ∧ W8.heap.size ≤ W8.heap.size) := (by first | exact ⟨below_blk bz91 (by simp) (NA9.out _), Nat.le_refl _⟩ | exact ⟨below_blk bz91 (by simp) (NB9.out _), Nat.le_refl _⟩); obtain ⟨y910, t910⟩ := at_block BX91.out.1 0 _ rfl; obtain ⟨y911, t911⟩ := at_block BX91.out.1 1 _ rfl)))
      )
    all_goals
      go_wp2_with fail
      go_meet
      exact ⟨_, _, _, rfl, rfl, by first | exact box_new XZ93.out OB9.out (Nat.le_refl _) | exact box_set XZ93.out OB9.out (Nat.le_refl _) BX93.out.1 BX93.out.2⟩
  obtain ⟨bh, ha, hc, rfl, rfl, HBH⟩ := hcut
  obtain ⟨W9, hw9⟩ : ∃ w9, w9 = wc := ⟨_, rfl⟩
  subst hw9
  have HL9 := hideQ (HL8.out.grow (ext_bel HBH.out.2.1))
  have Q9 := HBH.out.1
  have HT9 : Hid (VMem W9 (.slice ha m hc) R.mems) := HBH.out.2.2.1.v
  clear HBH HL8 HQ8 HA8 XV9 XD9 XA9 XB9 NA9 NB9 p0 p1 p2 p3 hsv9
  obtain ⟨t0, t1⟩ := cells2 Q9
  obtain ⟨s0, s1⟩ := cells2 HL9.out.s
  go_wp2_with fail
  refine (eqTab _ _ R _ ⟨_, rfl, HT9.out⟩ HL9.out.sW (by rw [← HMR.out]; exact HML.out)).mono ?_
  rintro e W10 ⟨rfl, b10⟩
  have HL10 := hideQ (HL9.out.grow b10)
  clear b10 t0 t1 s0 s1 Q9 HT9 HL9
  obtain ⟨y0, y1⟩ := cells2 HL10.out.g
  go_wp2_with fail
  refine (heldTab U5.heap.size R.self _ m 1 _ HL10.out.gO (by have := HML.out; omega) (by omega) (by omega)).mono ?_
  rintro e W11 ⟨rfl, b11⟩
  go_wp2_with fail
  go_ret
  exact ⟨rfl, (HL10.out.grow b11).low⟩

end Go.Proofs.Ytbphmgcfbjiadaa
