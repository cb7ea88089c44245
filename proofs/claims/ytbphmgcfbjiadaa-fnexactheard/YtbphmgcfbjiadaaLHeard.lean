/- The exact statement of Heard: the walk of the law itself. -/
import Derived.Test.YtbphmgcfbjiadaaHd2
import Derived.Test.YtbphmgcfbjiadaaTb3
import Derived.Test.YtbphmgcfbjiadaaOpenT
import Derived.Test.YtbphmgcfbjiadaaHdI
import Derived.Test.YtbphmgcfbjiadaaHdS
import Derived.Deep.RegionHeld3
namespace Go.Proofs.Ytbphmgcfbjiadaa
open Go.RowKit

set_option maxRecDepth 20000 in
set_option maxHeartbeats 8000000 in
theorem law_Heard (v : Value) (D : DTab) (u : Value) (M : DMem) (w : World) (h : VTab w v D) (k : VMb w u M) (_k1 : True) (_k2 : intMb M) :
    Calls Try.prog 3 #[v, u] w fun e w' => e = .returned (.bool true) ∧ Below w.heap.size w w' := by
  have hE : ∀ w : World, ∀ o, Ext w (w.alloc o) := fun w o => World.grownBy_alloc _ _ _
  have hB : ∀ w : World, ∀ o, Below w.heap.size w (w.alloc o) := fun w o => (Below.refl _ w).alloc (Nat.le_refl _) _
  obtain rfl : u = .agg #[.int .i64 M.id, .int .i64 M.st, .int .i64 M.life] := k
  have h0 : Hid (VTab w v D) := h
  obtain ⟨⟨R, rb⟩, hR⟩ : ∃ R, R = heardD D M := ⟨_, rfl⟩
  have HR : Hid ((R, rb) = heardD D M) := hR
  have HRL : Hid (D.mems.length ≤ 1048576 → R.mems.length ≤ 1048576) := fun hl => by have := heardD_len D M hl; rw [← hR] at this; exact this
  clear hR _k1 _k2
  obtain ⟨tv, rfl, ht⟩ := h
  obtain ⟨ta, tc, rfl⟩ := ht.shape
  obtain ⟨n, hn⟩ : ∃ n, n = D.mems.length := ⟨_, rfl⟩
  have HN : Hid (n = D.mems.length) := hn
  obtain ⟨m, hm⟩ : ∃ m, m = R.mems.length := ⟨_, rfl⟩
  have HMR : Hid (m = R.mems.length) := hm
  rw [← hn] at h0 ⊢
  clear hn ht hm
  go_enter Try.func3, Try.ntmps3
  go_wp2_with fail
  have PA := al2_0 w (.cells #[.int .i64 D.self, .slice ta n tc] 24 (0, 0)) (.cells #[.int .i64 M.id, .int .i64 M.st, .int .i64 M.life] 26 (0, 0))
  have PM := al2_1 w (.cells #[.int .i64 D.self, .slice ta n tc] 24 (0, 0)) (.cells #[.int .i64 M.id, .int .i64 M.st, .int .i64 M.life] 26 (0, 0))
  have BW : Below w.heap.size w ((w.alloc (.cells #[.int .i64 D.self, .slice ta n tc] 24 (0, 0))).alloc (.cells #[.int .i64 M.id, .int .i64 M.st, .int .i64 M.life] 26 (0, 0))) := ((Below.refl _ w).alloc (Nat.le_refl _) _).alloc (by simp) _
  generalize (w.alloc (.cells #[.int .i64 D.self, .slice ta n tc] 24 (0, 0))).alloc (.cells #[.int .i64 M.id, .int .i64 M.st, .int .i64 M.life] 26 (0, 0)) = W at PA PM BW ⊢
  refine (szTab _ D 1048576 _ (h0.out.ext (ext_below BW)) (by omega) (by omega)).mono ?_
  rintro e w1 ⟨r, rfl, hrr, b1⟩
  rw [← HN.out] at hrr
  have B1 := BW.trans (b1.mono BW.size)
  rcases hrr with ⟨h1, rfl⟩ | ⟨h1, h2⟩
  · go_wp2_with fail
    go_ret
    exact ⟨rfl, B1⟩
  have HLE : Hid (D.mems.length ≤ 1048576) := by have := HN.out; show _ ≤ _; omega
  have HML : Hid (m ≤ 1048576) := by show _ ≤ _; rw [HMR.out]; exact HRL.out HLE.out
  have hl : n ≤ 1048576 := by omega
  have hr0 : 0 ≤ r := by omega
  have HPA : Hid (w1.heap[w.heap.size]? = some (.cells #[.int .i64 D.self, .slice ta n tc] 24 (0, 0))) := below_blk b1 (Array.getElem?_eq_some_iff.1 PA).1 PA
  have HPM : Hid (w1.heap[w.heap.size + 1]? = some (.cells #[.int .i64 M.id, .int .i64 M.st, .int .i64 M.life] 26 (0, 0))) := below_blk b1 (Array.getElem?_eq_some_iff.1 PM).1 PM
  clear h1 h2 b1 PA PM BW HRL
  obtain ⟨p0, p1⟩ := cells2 HPA.out
  obtain ⟨p2, p3, p4⟩ := cells3 HPM.out
  have HTV : Hid (∀ V, Ext w1 V → VTab V (.agg #[.int .i64 D.self, .slice ta n tc]) D) := fun V e => (h0.out.ext (ext_below B1)).ext e
  have HTA : Hid (∀ V, Ext w1 V → Calls Try.prog 7 #[.agg #[.int .i64 D.self, .slice ta n tc]] V fun e w' => ∃ g, e = .returned (.agg #[.int .i64 D.self, .slice (some ⟨g, 0, none⟩) n n]) ∧ Hid (OwMem w' V.heap.size (.slice (some ⟨g, 0, none⟩) n n) D.mems) ∧ Below V.heap.size V w') := fun V e => (toTab _ D V (HTV.out V e) HLE.out).mono (fun e w' ⟨g, h1, h2, h3⟩ => by rw [← HN.out] at h1 h2; exact ⟨g, h1, h2, h3⟩)
  have HS : Hid (∀ V va, VTab V va D → Calls Try.prog 6 #[va, .agg #[.int .i64 M.id, .int .i64 M.st, .int .i64 M.life]] V fun e w' => ∃ sa sc, e = .returned (.tuple #[.agg #[.int .i64 R.self, .slice sa m sc], .bool rb]) ∧ Hid (OwMem w' V.heap.size (.slice sa m sc) R.mems) ∧ Below V.heap.size V w') := fun V va hv => (sHeardV va D M V hv HLE.out).mono (fun e w' ⟨tv, h1, h2, h3⟩ => by
    rw [← HR.out] at h1 h2
    obtain ⟨sa, sc, hsv⟩ := h2.v.shape
    rw [← HMR.out] at hsv
    subst hsv
    exact ⟨sa, sc, h1, h2, h3⟩)
  have HI : Hid (∀ V va, VTab V va D → Calls Try.prog 9 #[va, .agg #[.int .i64 M.id, .int .i64 M.st, .int .i64 M.life]] V fun e w' => ∃ sa sc, e = .returned (.tuple #[.agg #[.int .i64 R.self, .slice sa m sc], .bool rb]) ∧ Hid (OwMem w' V.heap.size (.slice sa m sc) R.mems) ∧ Below V.heap.size V w') := fun V va hv => (iHeardV va D M V hv HLE.out).mono (fun e w' ⟨tv, h1, h2, h3⟩ => by
    rw [← HR.out] at h1 h2
    obtain ⟨sa, sc, hsv⟩ := h2.v.shape
    rw [← HMR.out] at hsv
    subst hsv
    exact ⟨sa, sc, h1, h2, h3⟩)
  have hsv1 : w.heap.size < w1.heap.size ∧ w.heap.size + 1 < w1.heap.size := ⟨(Array.getElem?_eq_some_iff.1 HPA.out).1, (Array.getElem?_eq_some_iff.1 HPM.out).1⟩
  have XV1 : Hid (Ext w1 w1) := ext_drewN w1 0
  go_upto_region 5 with fail
  -- the specification
  have XD1 : Hid (Ext w1 w1.drew) := ext_drewN _ 1
  have XA1 : Hid (∀ o, Ext w1 (w1.alloc o).drew) := fun o => (hE _ o).tr (ext_drewN _ 1)
  have XB1 : Hid (∀ o, Ext w1 (w1.drew.alloc o)) := fun o => (ext_drewN w1 1).tr (hE _ o)
  have NA1 : Hid (∀ o, (w1.alloc o).drew.heap[w1.heap.size]? = some o) := fun o => heap_alloc_new w1 o
  have NB1 : Hid (∀ o, (w1.drew.alloc o).heap[w1.heap.size]? = some o) := fun o => heap_alloc_new w1.drew o
  go_cut [6, 7] from 21 to 28 (fun s t wx => ∃ bs sa sc, s = .pointer (some ⟨bs, 0, none⟩) ∧ t = .bool rb ∧ Hid (BoxT w1 R m bs sa sc wx))
  case first =>
    have HSV1 : Hid (w.heap.size < w1.heap.size ∧ w.heap.size + 1 < w1.heap.size) := hsv1
    have na10 : w1.heap.size ≠ w.heap.size := by have := hsv1; omega
    have nb10 : w1.heap.size ≠ w.heap.size + 1 := by have := hsv1; omega
    go_region_held3 (fun w' => w'.cell? ⟨w.heap.size, 0, none⟩ = some (.int .i64 D.self) ∧ w'.cell? ⟨w.heap.size, 1, none⟩ = some (.slice ta n tc) ∧ w'.cell? ⟨w.heap.size + 1, 0, none⟩ = some (.int .i64 M.id) ∧ w'.cell? ⟨w.heap.size + 1, 1, none⟩ = some (.int .i64 M.st) ∧ w'.cell? ⟨w.heap.size + 1, 2, none⟩ = some (.int .i64 M.life)) (first | (simp [*]; done) | go_keep)
      (first
        | (have zz := XZ12; clear zz; go_at_call 6; refine (HS.out _ _ ?_).mono ?_; (first | exact OZ11.out.ext XZ112.out | exact (OZ11.out.ext XZ112.out).ext (hE _ _)); rintro e z13 ⟨sa1, sc1, rfl, OZ13, bz13⟩; have XZ123 : Hid (Ext z12 z13) := (by first | exact ext_below bz13 | exact (hE _ _).tr (ext_below bz13)); have XZ13 : Hid (Ext w1 z13) := XZ12.out.tr XZ123.out; have OB1 : Hid (OwMem z13 w1.heap.size (.slice sa1 m sc1) R.mems) := OZ13.out.base (by have := XZ12.out.size; first | exact this | (simp; omega)); obtain ⟨e130, e131⟩ := cells2 (ext_blk XZ13.out HPA.out); obtain ⟨f130, f131, f132⟩ := cells3 (ext_blk XZ13.out HPM.out); have na13 : z13.heap.size ≠ w.heap.size := (by have := XZ13.out.size; have := HSV1.out; omega); have nb13 : z13.heap.size ≠ w.heap.size + 1 := (by have := XZ13.out.size; have := HSV1.out; omega); (try (have BX13 : Hid (z13.heap[w1.heap.size]? = some (.cells #[.int .i64 0, .slice none 0 0] 30 (0, 0)) ∧ w1.heap.size ≤ w1.heap.size) := ⟨ext_blk XZ123.out BX12.out.1, BX12.out.2⟩; obtain ⟨y130, t130⟩ := at_block BX13.out.1 0 _ rfl; obtain ⟨y131, t131⟩ := at_block BX13.out.1 1 _ rfl)); (try (have BX13 : Hid (z13.heap[z11.heap.size]? = some (.cells #[.int .i64 0, .slice none 0 0] 30 (0, 0)) ∧ w1.heap.size ≤ z11.heap.size) := ⟨ext_blk XZ123.out BX12.out.1, BX12.out.2⟩; obtain ⟨y130, t130⟩ := at_block BX13.out.1 0 _ rfl; obtain ⟨y131, t131⟩ := at_block BX13.out.1 1 _ rfl)); (try (have BX13 : Hid (z13.heap[z12.heap.size]? = some (.cells #[.int .i64 0, .slice none 0 0] 30 (0, 0)) ∧ w1.heap.size ≤ z12.heap.size) := ⟨below_blk bz13 (by simp) (heap_alloc_new z12 _), XZ12.out.size⟩; obtain ⟨y130, t130⟩ := at_block BX13.out.1 0 _ rfl; obtain ⟨y131, t131⟩ := at_block BX13.out.1 1 _ rfl)))
        | (have zz := XZ11; clear zz; go_at_call 8; refine (toEl_Mem M _).mono ?_; rintro e z12 ⟨rfl, bz12⟩; have XZ112 : Hid (Ext z11 z12) := (by first | exact ext_below bz12 | exact (hE _ _).tr (ext_below bz12)); have XZ12 : Hid (Ext w1 z12) := XZ11.out.tr XZ112.out; obtain ⟨e120, e121⟩ := cells2 (ext_blk XZ12.out HPA.out); obtain ⟨f120, f121, f122⟩ := cells3 (ext_blk XZ12.out HPM.out); have na12 : z12.heap.size ≠ w.heap.size := (by have := XZ12.out.size; have := HSV1.out; omega); have nb12 : z12.heap.size ≠ w.heap.size + 1 := (by have := XZ12.out.size; have := HSV1.out; omega); (try (have BX12 : Hid (z12.heap[w1.heap.size]? = some (.cells #[.int .i64 0, .slice none 0 0] 30 (0, 0)) ∧ w1.heap.size ≤ w1.heap.size) := ⟨ext_blk XZ112.out BX11.out.1, BX11.out.2⟩; obtain ⟨y120, t120⟩ := at_block BX12.out.1 0 _ rfl; obtain ⟨y121, t121⟩ := at_block BX12.out.1 1 _ rfl)); (try (have BX12 : Hid (z12.heap[z11.heap.size]? = some (.cells #[.int .i64 0, .slice none 0 0] 30 (0, 0)) ∧ w1.heap.size ≤ z11.heap.size) := ⟨below_blk bz12 (by simp) (heap_alloc_new z11 _), XZ11.out.size⟩; obtain ⟨y120, t120⟩ := at_block BX12.out.1 0 _ rfl; obtain ⟨y121, t121⟩ := at_block BX12.out.1 1 _ rfl)))
        | (go_at_call 7; refine (HTA.out _ ?_).mono ?_; (first | exact XV1.out.tr XD1.out | exact XV1.out.tr (XA1.out _) | exact XV1.out.tr (XB1.out _)); rintro e z11 ⟨g1, rfl, oz1, bz11⟩; have XZ11 : Hid (Ext w1 z11) := (by first | exact XD1.out.tr (ext_below bz11) | exact (XA1.out _).tr (ext_below bz11) | exact (XB1.out _).tr (ext_below bz11)); have OZ11 : Hid (VTab z11 (.agg #[.int .i64 D.self, .slice (some ⟨g1, 0, none⟩) n n]) D) := ⟨_, rfl, oz1.out.v⟩; obtain ⟨e110, e111⟩ := cells2 (ext_blk XZ11.out HPA.out); obtain ⟨f110, f111, f112⟩ := cells3 (ext_blk XZ11.out HPM.out); have na11 : z11.heap.size ≠ w.heap.size := (by have := XZ11.out.size; have := HSV1.out; omega); have nb11 : z11.heap.size ≠ w.heap.size + 1 := (by have := XZ11.out.size; have := HSV1.out; omega); (try (have BX11 : Hid (z11.heap[w1.heap.size]? = some (.cells #[.int .i64 0, .slice none 0 0] 30 (0, 0)) ∧ w1.heap.size ≤ w1.heap.size) := (by first | exact ⟨below_blk bz11 (by simp) (NA1.out _), Nat.le_refl _⟩ | exact ⟨below_blk bz11 (by simp) (NB1.out _), Nat.le_refl _⟩); obtain ⟨y110, t110⟩ := at_block BX11.out.1 0 _ rfl; obtain ⟨y111, t111⟩ := at_block BX11.out.1 1 _ rfl)))
      )
    all_goals
      go_wp2_with fail
      go_meet
      exact ⟨_, _, _, rfl, rfl, by first | exact box_new XZ13.out OB1.out (Nat.le_refl _) | exact box_set XZ13.out OB1.out (Nat.le_refl _) BX13.out.1 BX13.out.2⟩
  obtain ⟨bs, sa, sc, rfl, rfl, HBS⟩ := hcut
  obtain ⟨w3, hw3⟩ : ∃ w3, w3 = wc := ⟨_, rfl⟩
  subst hw3
  have X13 : Ext w1 w3 := HBS.out.2.1
  have HV3 : Hid (VMem w3 (.slice sa m sc) R.mems) := HBS.out.2.2.1.v
  have PS3 := HBS.out.1
  have B3 : Below w.heap.size w w3 := B1.trans ((ext_bel X13).mono B1.size)
  have P3 := ext_blk X13 HPA.out
  have M3 := ext_blk X13 HPM.out
  clear XD1 XA1 XB1 NA1 NB1 XV1 p0 p1 p2 p3 p4 hsv1 HBS
  obtain ⟨q0, q1⟩ := cells2 P3
  -- the program's argument
  go_wp2_with fail
  refine (HTA.out w3 X13).mono ?_
  rintro e w4 ⟨g4, rfl, o4, b4⟩
  have X34 : Ext w3 w4 := ext_below b4
  have HM4 : Hid (∀ W, W = w4.alloc (.cells #[.int .i64 D.self, .slice (some ⟨g4, 0, none⟩) n n] 30 (0, 0)) → Ext w3 W ∧ W.heap[w4.heap.size]? = some (.cells #[.int .i64 D.self, .slice (some ⟨g4, 0, none⟩) n n] 30 (0, 0)) ∧ OwMem W w3.heap.size (.slice (some ⟨g4, 0, none⟩) n n) D.mems ∧ w4.heap.size < W.heap.size) := fun W hW => by
    subst hW
    exact ⟨X34.tr (hE _ _), heap_alloc_new _ _, o4.out.ext (hE _ _), by simp⟩
  clear q0 q1 b4
  go_upto_region 7 with fail
  generalize hU : w4.alloc _ = U4
  obtain ⟨X3U, XU, OX, hbx⟩ := HM4.out U4 hU.symm
  clear hU HM4 X34 o4
  generalize w4.heap.size = bx at *
  have HGX : Hid (g4 < U4.heap.size) := (OX.lt g4 rfl).2
  have HPX : Hid (U4.heap[bx]? = some (.cells #[.int .i64 D.self, .slice (some ⟨g4, 0, none⟩) n n] 30 (0, 0))) := XU
  have HM7 : Hid (U4.heap[w.heap.size + 1]? = some (.cells #[.int .i64 M.id, .int .i64 M.st, .int .i64 M.life] 26 (0, 0))) := ext_blk X3U M3
  have VX : Hid (VTab U4 (.agg #[.int .i64 D.self, .slice (some ⟨g4, 0, none⟩) n n]) D) := ⟨_, rfl, OX.v⟩
  have HX3U : Hid (Ext w3 U4) := X3U
  have HOX : Hid (OwMem U4 w3.heap.size (.slice (some ⟨g4, 0, none⟩) n n) D.mems) := OX
  have hsv7 : bx < U4.heap.size ∧ w.heap.size + 1 < U4.heap.size := ⟨hbx, (Array.getElem?_eq_some_iff.1 HM7.out).1⟩
  obtain ⟨p0, p1⟩ := cells2 HPX.out
  obtain ⟨p2, p3, p4⟩ := cells3 HM7.out
  clear X3U XU OX hbx M3
  -- the program
  have XD7 : Hid (Ext U4 U4.drew) := ext_drewN _ 1
  have XA7 : Hid (∀ o, Ext U4 (U4.alloc o).drew) := fun o => (hE _ o).tr (ext_drewN _ 1)
  have XB7 : Hid (∀ o, Ext U4 (U4.drew.alloc o)) := fun o => (ext_drewN U4 1).tr (hE _ o)
  have NA7 : Hid (∀ o, (U4.alloc o).drew.heap[U4.heap.size]? = some o) := fun o => heap_alloc_new U4 o
  have NB7 : Hid (∀ o, (U4.drew.alloc o).heap[U4.heap.size]? = some o) := fun o => heap_alloc_new U4.drew o
  go_cut [9, 10] from 31 to 37 (fun s t wx => ∃ bs sa sc, s = .pointer (some ⟨bs, 0, none⟩) ∧ t = .bool rb ∧ Hid (BoxT U4 R m bs sa sc wx))
  case first =>
    have HSV7 : Hid (bx < U4.heap.size ∧ w.heap.size + 1 < U4.heap.size) := hsv7
    have na70 : U4.heap.size ≠ bx := by have := hsv7; omega
    have nb70 : U4.heap.size ≠ w.heap.size + 1 := by have := hsv7; omega
    go_region_held3 (fun w' => w'.cell? ⟨bx, 0, none⟩ = some (.int .i64 D.self) ∧ w'.cell? ⟨bx, 1, none⟩ = some (.slice (some ⟨g4, 0, none⟩) n n) ∧ w'.cell? ⟨w.heap.size + 1, 0, none⟩ = some (.int .i64 M.id) ∧ w'.cell? ⟨w.heap.size + 1, 1, none⟩ = some (.int .i64 M.st) ∧ w'.cell? ⟨w.heap.size + 1, 2, none⟩ = some (.int .i64 M.life)) (first | (simp [*]; done) | go_keep)
      (first
        | (have zz := XZ72; clear zz; go_at_call 9; refine (HI.out _ _ ?_).mono ?_; (first | exact VX.out.ext XZ72.out | exact (VX.out.ext XZ72.out).ext (hE _ _)); rintro e z73 ⟨sa7, sc7, rfl, OZ73, bz73⟩; have XZ723 : Hid (Ext z72 z73) := (by first | exact ext_below bz73 | exact (hE _ _).tr (ext_below bz73)); have XZ73 : Hid (Ext U4 z73) := XZ72.out.tr XZ723.out; have OB7 : Hid (OwMem z73 U4.heap.size (.slice sa7 m sc7) R.mems) := OZ73.out.base (by have := XZ72.out.size; first | exact this | (simp; omega)); obtain ⟨e730, e731⟩ := cells2 (ext_blk XZ73.out HPX.out); obtain ⟨f730, f731, f732⟩ := cells3 (ext_blk XZ73.out HM7.out); have na73 : z73.heap.size ≠ bx := (by have := XZ73.out.size; have := HSV7.out; omega); have nb73 : z73.heap.size ≠ w.heap.size + 1 := (by have := XZ73.out.size; have := HSV7.out; omega); (try (have BX73 : Hid (z73.heap[U4.heap.size]? = some (.cells #[.int .i64 0, .slice none 0 0] 30 (0, 0)) ∧ U4.heap.size ≤ U4.heap.size) := ⟨ext_blk XZ723.out BX72.out.1, BX72.out.2⟩; obtain ⟨y730, t730⟩ := at_block BX73.out.1 0 _ rfl; obtain ⟨y731, t731⟩ := at_block BX73.out.1 1 _ rfl)); (try (have BX73 : Hid (z73.heap[z71.heap.size]? = some (.cells #[.int .i64 0, .slice none 0 0] 30 (0, 0)) ∧ U4.heap.size ≤ z71.heap.size) := ⟨ext_blk XZ723.out BX72.out.1, BX72.out.2⟩; obtain ⟨y730, t730⟩ := at_block BX73.out.1 0 _ rfl; obtain ⟨y731, t731⟩ := at_block BX73.out.1 1 _ rfl)); (try (have BX73 : Hid (z73.heap[z72.heap.size]? = some (.cells #[.int .i64 0, .slice none 0 0] 30 (0, 0)) ∧ U4.heap.size ≤ z72.heap.size) := ⟨below_blk bz73 (by simp) (heap_alloc_new z72 _), XZ72.out.size⟩; obtain ⟨y730, t730⟩ := at_block BX73.out.1 0 _ rfl; obtain ⟨y731, t731⟩ := at_block BX73.out.1 1 _ rfl)))
        | (go_at_call 8; refine (toEl_Mem M _).mono ?_; rintro e z72 ⟨rfl, bz72⟩; have XZ72 : Hid (Ext U4 z72) := (by first | exact XD7.out.tr (ext_below bz72) | exact (XA7.out _).tr (ext_below bz72) | exact (XB7.out _).tr (ext_below bz72)); obtain ⟨e720, e721⟩ := cells2 (ext_blk XZ72.out HPX.out); obtain ⟨f720, f721, f722⟩ := cells3 (ext_blk XZ72.out HM7.out); have na72 : z72.heap.size ≠ bx := (by have := XZ72.out.size; have := HSV7.out; omega); have nb72 : z72.heap.size ≠ w.heap.size + 1 := (by have := XZ72.out.size; have := HSV7.out; omega); (try (have BX72 : Hid (z72.heap[U4.heap.size]? = some (.cells #[.int .i64 0, .slice none 0 0] 30 (0, 0)) ∧ U4.heap.size ≤ U4.heap.size) := (by first | exact ⟨below_blk bz72 (by simp) (NA7.out _), Nat.le_refl _⟩ | exact ⟨below_blk bz72 (by simp) (NB7.out _), Nat.le_refl _⟩); obtain ⟨y720, t720⟩ := at_block BX72.out.1 0 _ rfl; obtain ⟨y721, t721⟩ := at_block BX72.out.1 1 _ rfl)))
      )
    all_goals
      go_wp2_with fail
      go_meet
      exact ⟨_, _, _, rfl, rfl, by first | exact box_new XZ73.out OB7.out (Nat.le_refl _) | exact box_set XZ73.out OB7.out (Nat.le_refl _) BX73.out.1 BX73.out.2⟩
  obtain ⟨bg, ga, gc, rfl, rfl, HBG⟩ := hcut
  obtain ⟨W0, hw0⟩ : ∃ w0, w0 = wc := ⟨_, rfl⟩
  subst hw0
  have X4g : Ext U4 W0 := HBG.out.2.1
  have X3W : Ext w3 W0 := HX3U.out.tr X4g
  have L0 : LT w w3 W0 D R (.slice ta n tc) (.slice sa m sc) (.slice (some ⟨g4, 0, none⟩) n n) (.slice ga m gc) bs bx bg U4.heap.size R.mems := ⟨B3.trans ((ext_bel X3W).mono B3.size), ext_bel X3W, HV3.out, ext_blk X3W P3, ext_blk X3W PS3, ext_blk X4g HPX.out, HBG.out.1, HBG.out.2.2.1, HX3U.out.size, B3.size⟩
  have HL0 : Hid (LT w w3 W0 D R (.slice ta n tc) (.slice sa m sc) (.slice (some ⟨g4, 0, none⟩) n n) (.slice ga m gc) bs bx bg U4.heap.size R.mems) := L0
  have HX0 : Hid (OwMem W0 w3.heap.size (.slice (some ⟨g4, 0, none⟩) n n) D.mems) := HOX.out.ext X4g
  have HQ0 : Hid (W0.heap[w.heap.size + 1]? = some (.cells #[.int .i64 M.id, .int .i64 M.st, .int .i64 M.life] 26 (0, 0))) := ext_blk X4g HM7.out
  have HXV : Hid (Ext w1 w3) := X13
  clear XD7 XA7 XB7 NA7 NB7 p0 p1 p2 p3 p4 hsv7 HBG X4g X3W HPX HM7 VX HX3U HOX PS3 P3 HV3 B3 X13
  obtain ⟨s0, _⟩ := at_block L0.s 0 _ rfl
  obtain ⟨s1, _⟩ := at_block L0.s 1 _ rfl
  obtain ⟨y0, _⟩ := at_block L0.g 0 _ rfl
  obtain ⟨y1, _⟩ := at_block L0.g 1 _ rfl
  clear L0
  -- its answer held against the specification's
  go_wp2_with fail
  refine (eqTab _ _ R _ ⟨_, rfl, HL0.out.gO.v⟩ HL0.out.sW (by rw [← HMR.out]; exact HML.out)).mono ?_
  rintro e W1 ⟨rfl, b1⟩
  have HL1 := hideQ (HL0.out.grow b1)
  have HX1 : Hid (OwMem W1 w3.heap.size (.slice (some ⟨g4, 0, none⟩) n n) D.mems) := HX0.out.ext (ext_below b1)
  have HQ1 : Hid (W1.heap[w.heap.size + 1]? = some (.cells #[.int .i64 M.id, .int .i64 M.st, .int .i64 M.life] 26 (0, 0))) := ext_blk (ext_below b1) HQ0.out
  have a0 := (at_block HL1.out.a 0 _ rfl).1
  have a1 := (at_block HL1.out.a 1 _ rfl).1
  have x0 := (at_block HL1.out.x 0 _ rfl).1
  have x1 := (at_block HL1.out.x 1 _ rfl).1
  have HS1 : Hid ((W1.cell? ⟨bx, 0, none⟩ = some (.int .i64 D.self) ∧ W1.cell? ⟨bx, 1, none⟩ = some (.slice (some ⟨g4, 0, none⟩) n n)) ∧ (W1.cell? ⟨w.heap.size, 0, none⟩ = some (.int .i64 D.self) ∧ W1.cell? ⟨w.heap.size, 1, none⟩ = some (.slice ta n tc))) := ⟨⟨x0, x1⟩, ⟨a0, a1⟩⟩
  clear s0 s1 y0 y1 b1 HL0 HX0 HQ0
  -- its argument is as it was
  go_upto_region 10 with fail
  go_region_held3 (fun w' => w'.cell? ⟨bx, 0, none⟩ = some (.int .i64 D.self) ∧ w'.cell? ⟨bx, 1, none⟩ = some (.slice (some ⟨g4, 0, none⟩) n n) ∧ w'.cell? ⟨w.heap.size, 0, none⟩ = some (.int .i64 D.self) ∧ w'.cell? ⟨w.heap.size, 1, none⟩ = some (.slice ta n tc)) (simp [*])
    (first | (go_at_call 7; refine (toTab _ D _ ?_ HLE.out).mono ?_; exact (h0.out.ext (ext_below HL1.out.low)).ext (ext_drewN W1 1); rintro e w6 ⟨g6, rfl, o6, b6⟩; rw [← HN.out]; have V6 : VTab w6 (.agg #[.int .i64 D.self, .slice (some ⟨g6, 0, none⟩) n n]) D := (⟨_, rfl, by rw [HN.out]; exact o6.v⟩); obtain ⟨⟨c0, c1⟩, ⟨d0, d1⟩⟩ := keptT (w := W1.drew) HS1.out b6) | (go_at_call 10; refine (eqTab _ _ D _ ?_ ?_ HLE.out).mono ?_; exact (⟨_, rfl, (HX1.out.v.ext (ext_drewN W1 1)).ext (ext_below b6)⟩ : VTab _ _ D); exact V6; rintro e w7 ⟨rfl, b7⟩; obtain ⟨⟨c0', c1'⟩, ⟨d0', d1'⟩⟩ := keptT ⟨⟨c0, c1⟩, ⟨d0, d1⟩⟩ b7))
  have bA : Below W1.heap.size W1 w7 := ((below_drewN (Below.refl _ W1) 1).trans (b6.mono (Nat.le_refl _))).trans (b7.mono b6.size)
  have HL2 := hideQ (HL1.out.grow bA)
  have HX2 : Hid (OwMem w7 w3.heap.size (.slice (some ⟨g4, 0, none⟩) n n) D.mems) := HX1.out.ext (ext_below bA)
  have HQ2 : Hid (w7.heap[w.heap.size + 1]? = some (.cells #[.int .i64 M.id, .int .i64 M.st, .int .i64 M.life] 26 (0, 0))) := ext_blk (ext_below bA) HQ1.out
  clear c0 c1 d0 d1 c0' c1' d0' d1' b6 b7 bA V6 o6 x0 x1 a0 a1 HL1 HX1 HS1 HQ1
  have x0 := (at_block HL2.out.x 0 _ rfl).1
  have x1 := (at_block HL2.out.x 1 _ rfl).1
  -- marks in its argument
  go_wp2_with fail
  refine (markTab w3.heap.size D.self _ D.mems 1 _ HX2.out HLE.out (by omega) (by omega)).mono ?_
  rintro e W3 ⟨rfl, o3, g3⟩
  rw [← HN.out]
  have HGO : Hid (OwMem W3 U4.heap.size (.slice ga m gc) R.mems) := HL2.out.gO.keep g3 (by
    cases hv : (Value.slice ga m gc).ownBlock with
    | none => exact .inl rfl
    | some k =>
      right
      have := (HL2.out.gO.lt k hv).1
      have := HGX.out
      simp only [Value.ownBlock, ne_eq, Option.some.injEq]
      omega)
  have HL3 := hideQ (HL2.out.turn HX2.out (Nat.le_refl _) g3 HGO.out)
  have HQ3 : Hid (W3.heap[w.heap.size + 1]? = some (.cells #[.int .i64 M.id, .int .i64 M.st, .int .i64 M.life] 26 (0, 0))) := (g3.block _ (Array.getElem?_eq_some_iff.1 HQ2.out).1 (ne_rowM HX2.out HQ2.out (by decide))).trans HQ2.out
  clear o3 g3 x0 x1 HL2 HX2 HQ2
  have s0 := (at_block HL3.out.s 0 _ rfl).1
  have s1 := (at_block HL3.out.s 1 _ rfl).1
  have y0 := (at_block HL3.out.g 0 _ rfl).1
  have y1 := (at_block HL3.out.g 1 _ rfl).1
  have hk0 : ¬ ((1 : Int) + 3 * (n : Int) < 0) := by omega
  have hk1 : decide ((1 : Int) + 3 * (n : Int) < 0) = false := by simp; omega
  go_wp2_with fail
  refine (eqTab _ _ R _ ⟨_, rfl, HL3.out.gO.v⟩ HL3.out.sW (by rw [← HMR.out]; exact HML.out)).mono ?_
  rintro e W4 ⟨rfl, b4⟩
  have HL4 := hideQ (HL3.out.grow b4)
  have HQ4 : Hid (W4.heap[w.heap.size + 1]? = some (.cells #[.int .i64 M.id, .int .i64 M.st, .int .i64 M.life] 26 (0, 0))) := ext_blk (ext_below b4) HQ3.out
  clear s0 s1 y0 y1 b4 HL3 HGO HQ3
  have y0 := (at_block HL4.out.g 0 _ rfl).1
  have y1 := (at_block HL4.out.g 1 _ rfl).1
  -- marks in its answer
  go_wp2_with fail
  refine (markTab U4.heap.size R.self _ R.mems 1 _ HL4.out.gO (by rw [← HMR.out]; exact HML.out) (by omega) (by omega)).mono ?_
  rintro e W5 ⟨rfl, o5, g5⟩
  rw [← HMR.out] at o5 ⊢
  have HL5 := hideQ (HL4.out.turn HL4.out.gO HL4.out.bs g5 o5)
  have HQ5 : Hid (W5.heap[w.heap.size + 1]? = some (.cells #[.int .i64 M.id, .int .i64 M.st, .int .i64 M.life] 26 (0, 0))) := (g5.block _ (Array.getElem?_eq_some_iff.1 HQ4.out).1 (ne_rowM HL4.out.gO HQ4.out (by decide))).trans HQ4.out
  clear o5 g5 y0 y1 HL4 HQ4
  have y0 := (at_block HL5.out.g 0 _ rfl).1
  have y1 := (at_block HL5.out.g 1 _ rfl).1
  go_wp2_with fail
  refine (heldTab U4.heap.size R.self _ m 1 _ HL5.out.gO (by have := HML.out; omega) (by omega) (by omega)).mono ?_
  rintro e W6 ⟨rfl, b6⟩
  have HL6 := hideQ (HL5.out.grow b6)
  have HQ6 : Hid (W6.heap[w.heap.size + 1]? = some (.cells #[.int .i64 M.id, .int .i64 M.st, .int .i64 M.life] 26 (0, 0))) := ext_blk (ext_below b6) HQ5.out
  have HA6 : Hid (W6.heap[w.heap.size]? = some (.cells #[.int .i64 D.self, .slice ta n tc] 24 (0, 0))) := HL6.out.a
  have XV9 : Hid (Ext w1 W6) := HXV.out.tr (ext_below HL6.out.sB)
  clear y0 y1 b6 HL5 HQ5
  obtain ⟨p0, p1⟩ := cells2 HA6.out
  obtain ⟨p2, p3, p4⟩ := cells3 HQ6.out
  have hsv9 : w.heap.size < W6.heap.size ∧ w.heap.size + 1 < W6.heap.size := ⟨(Array.getElem?_eq_some_iff.1 HA6.out).1, (Array.getElem?_eq_some_iff.1 HQ6.out).1⟩
  have hm0 : ¬ ((1 : Int) + 3 * (m : Int) < 0) := by omega
  -- another call
  go_upto_region 24 with fail
  have XD9 : Hid (Ext W6 W6.drew) := ext_drewN _ 1
  have XA9 : Hid (∀ o, Ext W6 (W6.alloc o).drew) := fun o => (hE _ o).tr (ext_drewN _ 1)
  have XB9 : Hid (∀ o, Ext W6 (W6.drew.alloc o)) := fun o => (ext_drewN W6 1).tr (hE _ o)
  have NA9 : Hid (∀ o, (W6.alloc o).drew.heap[W6.heap.size]? = some o) := fun o => heap_alloc_new W6 o
  have NB9 : Hid (∀ o, (W6.drew.alloc o).heap[W6.heap.size]? = some o) := fun o => heap_alloc_new W6.drew o
  go_cut [14, 15] from 79 to 86 (fun s t wx => ∃ bs sa sc, s = .pointer (some ⟨bs, 0, none⟩) ∧ t = .bool rb ∧ Hid (BoxT W6 R m bs sa sc wx))
  case first =>
    have HSV9 : Hid (w.heap.size < W6.heap.size ∧ w.heap.size + 1 < W6.heap.size) := hsv9
    have na90 : W6.heap.size ≠ w.heap.size := by have := hsv9; omega
    have nb90 : W6.heap.size ≠ w.heap.size + 1 := by have := hsv9; omega
    go_region_held3 (fun w' => w'.cell? ⟨w.heap.size, 0, none⟩ = some (.int .i64 D.self) ∧ w'.cell? ⟨w.heap.size, 1, none⟩ = some (.slice ta n tc) ∧ w'.cell? ⟨w.heap.size + 1, 0, none⟩ = some (.int .i64 M.id) ∧ w'.cell? ⟨w.heap.size + 1, 1, none⟩ = some (.int .i64 M.st) ∧ w'.cell? ⟨w.heap.size + 1, 2, none⟩ = some (.int .i64 M.life)) (first | (simp [*]; done) | go_keep)
      (first
        | (have zz := XZ92; clear zz; go_at_call 9; refine (HI.out _ _ ?_).mono ?_; (first | exact OZ91.out.ext XZ912.out | exact (OZ91.out.ext XZ912.out).ext (hE _ _)); rintro e z93 ⟨sa9, sc9, rfl, OZ93, bz93⟩; have XZ923 : Hid (Ext z92 z93) := (by first | exact ext_below bz93 | exact (hE _ _).tr (ext_below bz93)); have XZ93 : Hid (Ext W6 z93) := XZ92.out.tr XZ923.out; have OB9 : Hid (OwMem z93 W6.heap.size (.slice sa9 m sc9) R.mems) := OZ93.out.base (by have := XZ92.out.size; first | exact this | (simp; omega)); obtain ⟨e930, e931⟩ := cells2 (ext_blk XZ93.out HA6.out); obtain ⟨f930, f931, f932⟩ := cells3 (ext_blk XZ93.out HQ6.out); have na93 : z93.heap.size ≠ w.heap.size := (by have := XZ93.out.size; have := HSV9.out; omega); have nb93 : z93.heap.size ≠ w.heap.size + 1 := (by have := XZ93.out.size; have := HSV9.out; omega); (try (have BX93 : Hid (z93.heap[W6.heap.size]? = some (.cells #[.int .i64 0, .slice none 0 0] 30 (0, 0)) ∧ W6.heap.size ≤ W6.heap.size) := ⟨ext_blk XZ923.out BX92.out.1, BX92.out.2⟩; obtain ⟨y930, t930⟩ := at_block BX93.out.1 0 _ rfl; obtain ⟨y931, t931⟩ := at_block BX93.out.1 1 _ rfl)); (try (have BX93 : Hid (z93.heap[z91.heap.size]? = some (.cells #[.int .i64 0, .slice none 0 0] 30 (0, 0)) ∧ W6.heap.size ≤ z91.heap.size) := ⟨ext_blk XZ923.out BX92.out.1, BX92.out.2⟩; obtain ⟨y930, t930⟩ := at_block BX93.out.1 0 _ rfl; obtain ⟨y931, t931⟩ := at_block BX93.out.1 1 _ rfl)); (try (have BX93 : Hid (z93.heap[z92.heap.size]? = some (.cells #[.int .i64 0, .slice none 0 0] 30 (0, 0)) ∧ W6.heap.size ≤ z92.heap.size) := ⟨below_blk bz93 (by simp) (heap_alloc_new z92 _), XZ92.out.size⟩; obtain ⟨y930, t930⟩ := at_block BX93.out.1 0 _ rfl; obtain ⟨y931, t931⟩ := at_block BX93.out.1 1 _ rfl)))
        | (have zz := XZ91; clear zz; go_at_call 8; refine (toEl_Mem M _).mono ?_; rintro e z92 ⟨rfl, bz92⟩; have XZ912 : Hid (Ext z91 z92) := (by first | exact ext_below bz92 | exact (hE _ _).tr (ext_below bz92)); have XZ92 : Hid (Ext W6 z92) := XZ91.out.tr XZ912.out; obtain ⟨e920, e921⟩ := cells2 (ext_blk XZ92.out HA6.out); obtain ⟨f920, f921, f922⟩ := cells3 (ext_blk XZ92.out HQ6.out); have na92 : z92.heap.size ≠ w.heap.size := (by have := XZ92.out.size; have := HSV9.out; omega); have nb92 : z92.heap.size ≠ w.heap.size + 1 := (by have := XZ92.out.size; have := HSV9.out; omega); (try (have BX92 : Hid (z92.heap[W6.heap.size]? = some (.cells #[.int .i64 0, .slice none 0 0] 30 (0, 0)) ∧ W6.heap.size ≤ W6.heap.size) := ⟨ext_blk XZ912.out BX91.out.1, BX91.out.2⟩; obtain ⟨y920, t920⟩ := at_block BX92.out.1 0 _ rfl; obtain ⟨y921, t921⟩ := at_block BX92.out.1 1 _ rfl)); (try (have BX92 : Hid (z92.heap[z91.heap.size]? = some (.cells #[.int .i64 0, .slice none 0 0] 30 (0, 0)) ∧ W6.heap.size ≤ z91.heap.size) := ⟨below_blk bz92 (by simp) (heap_alloc_new z91 _), XZ91.out.size⟩; obtain ⟨y920, t920⟩ := at_block BX92.out.1 0 _ rfl; obtain ⟨y921, t921⟩ := at_block BX92.out.1 1 _ rfl)))
        | (go_at_call 7; refine (HTA.out _ ?_).mono ?_; (first | exact XV9.out.tr XD9.out | exact XV9.out.tr (XA9.out _) | exact XV9.out.tr (XB9.out _)); rintro e z91 ⟨g9, rfl, oz9, bz91⟩; have XZ91 : Hid (Ext W6 z91) := (by first | exact XD9.out.tr (ext_below bz91) | exact (XA9.out _).tr (ext_below bz91) | exact (XB9.out _).tr (ext_below bz91)); have OZ91 : Hid (VTab z91 (.agg #[.int .i64 D.self, .slice (some ⟨g9, 0, none⟩) n n]) D) := ⟨_, rfl, oz9.out.v⟩; obtain ⟨e910, e911⟩ := cells2 (ext_blk XZ91.out HA6.out); obtain ⟨f910, f911, f912⟩ := cells3 (ext_blk XZ91.out HQ6.out); have na91 : z91.heap.size ≠ w.heap.size := (by have := XZ91.out.size; have := HSV9.out; omega); have nb91 : z91.heap.size ≠ w.heap.size + 1 := (by have := XZ91.out.size; have := HSV9.out; omega); (try (have BX91 : Hid (z91.heap[W6.heap.size]? = some (.cells #[.int .i64 0, .slice none 0 0] 30 (0, 0)) ∧ W6.heap.size ≤ W6.heap.size) := (by first | exact ⟨below_blk bz91 (by simp) (NA9.out _), Nat.le_refl _⟩ | exact ⟨below_blk bz91 (by simp) (NB9.out _), Nat.le_refl _⟩); obtain ⟨y910, t910⟩ := at_block BX91.out.1 0 _ rfl; obtain ⟨y911, t911⟩ := at_block BX91.out.1 1 _ rfl)))
      )
    all_goals
      go_wp2_with fail
      go_meet
      exact ⟨_, _, _, rfl, rfl, by first | exact box_new XZ93.out OB9.out (Nat.le_refl _) | exact box_set XZ93.out OB9.out (Nat.le_refl _) BX93.out.1 BX93.out.2⟩
  obtain ⟨bh, ha, hc, rfl, rfl, HBH⟩ := hcut
  obtain ⟨W9, hw9⟩ : ∃ w9, w9 = wc := ⟨_, rfl⟩
  subst hw9
  have HL9 := hideQ (HL6.out.grow (ext_bel HBH.out.2.1))
  have Q9 := HBH.out.1
  have HT9 : Hid (VMem W9 (.slice ha m hc) R.mems) := HBH.out.2.2.1.v
  clear HBH HL6 HQ6 HA6 XV9 XD9 XA9 XB9 NA9 NB9 p0 p1 p2 p3 p4 hsv9
  obtain ⟨t0, _⟩ := at_block Q9 0 _ rfl
  obtain ⟨t1, _⟩ := at_block Q9 1 _ rfl
  have s0 := (at_block HL9.out.s 0 _ rfl).1
  have s1 := (at_block HL9.out.s 1 _ rfl).1
  go_wp2_with fail
  refine (eqTab _ _ R _ ⟨_, rfl, HT9.out⟩ HL9.out.sW (by rw [← HMR.out]; exact HML.out)).mono ?_
  rintro e W10 ⟨rfl, b10⟩
  have HL10 := hideQ (HL9.out.grow b10)
  clear b10 t0 t1 s0 s1 Q9 HT9 HL9
  have y0 := (at_block HL10.out.g 0 _ rfl).1
  have y1 := (at_block HL10.out.g 1 _ rfl).1
  go_wp2_with fail
  refine (heldTab U4.heap.size R.self _ m 1 _ HL10.out.gO (by have := HML.out; omega) (by omega) (by omega)).mono ?_
  rintro e W11 ⟨rfl, b11⟩
  go_wp2_with fail
  go_ret
  exact ⟨rfl, (HL10.out.grow b11).low⟩

end Go.Proofs.Ytbphmgcfbjiadaa
