/- The exact statement of Agree: the walk of the law itself. -/
import Derived.Test.YtpgbpfaaidcnpaaTbL
import Derived.Test.YtpgbpfaaidcnpaaMs7
import Derived.Test.YtpgbpfaaidcnpaaMiAgree
import Derived.Deep.RegionHeld3
namespace Go.Proofs.Ytpgbpfaaidcnpaa
open Go.RowKit

/-- What is carried: the two arguments' boxes, the two copies' boxes and what they read as. -/
structure LA (w W : World) (A B : DTab) (av bv xv yv : Value) (x y : Nat) : Prop where
  low : Below w.heap.size w W
  a : W.heap[w.heap.size]? = some (.cells #[.int .i64 A.self, av] 24 (0, 0))
  b : W.heap[w.heap.size + 1]? = some (.cells #[.int .i64 B.self, bv] 24 (0, 0))
  x : W.heap[x]? = some (.cells #[.int .i64 A.self, xv] 32 (0, 0))
  y : W.heap[y]? = some (.cells #[.int .i64 B.self, yv] 32 (0, 0))
  xV : VMem W xv A.mems
  yV : VMem W yv B.mems
theorem LA.grow {w W W' : World} {A B : DTab} {av bv xv yv : Value} {x y : Nat} (h : LA w W A B av bv xv yv x y) (k : Below W.heap.size W W') : LA w W' A B av bv xv yv x y :=
  ⟨h.low.trans (k.mono h.low.size), below_blk k (Array.getElem?_eq_some_iff.1 h.a).1 h.a, below_blk k (Array.getElem?_eq_some_iff.1 h.b).1 h.b, below_blk k (Array.getElem?_eq_some_iff.1 h.x).1 h.x, below_blk k (Array.getElem?_eq_some_iff.1 h.y).1 h.y, h.xV.ext (ext_below k), h.yV.ext (ext_below k)⟩

set_option maxRecDepth 20000 in
set_option maxHeartbeats 4000000 in
theorem law_Agree (v : Value) (A : DTab) (u : Value) (B : DTab) (w : World) (h : VTab w v A) (k : VTab w u B) :
    Calls Try.prog 5 #[v, u] w fun e w' => e = .returned (.bool true) ∧ Below w.heap.size w w' := by
  have hE : ∀ w : World, ∀ o, Ext w (w.alloc o) := fun w o => World.grownBy_alloc _ _ _
  have hB : ∀ w : World, ∀ o, Below w.heap.size w (w.alloc o) := fun w o => (Below.refl _ w).alloc (Nat.le_refl _) _
  have h0 : Hid (VTab w v A) := h
  have k0 : Hid (VTab w u B) := k
  obtain ⟨R, hR⟩ : ∃ R, R = tB (AgreeP A B) := ⟨_, rfl⟩
  have HR : Hid (R = tB (AgreeP A B)) := hR
  clear hR
  obtain ⟨tv, rfl, ht⟩ := h
  obtain ⟨uv, rfl, hu⟩ := k
  obtain ⟨ta, tc, rfl⟩ := ht.shape
  obtain ⟨ua, uc, rfl⟩ := hu.shape
  obtain ⟨n, hn⟩ : ∃ n, n = A.mems.length := ⟨_, rfl⟩
  obtain ⟨m, hm⟩ : ∃ m, m = B.mems.length := ⟨_, rfl⟩
  have HN : Hid (n = A.mems.length) := hn
  have HM : Hid (m = B.mems.length) := hm
  rw [← hn] at h0 ⊢
  rw [← hm] at k0 ⊢
  clear hn hm ht hu
  go_enter Try.func5, Try.ntmps5
  go_wp2_with fail
  have PA := al2_0 w (.cells #[.int .i64 A.self, .slice ta n tc] 24 (0, 0)) (.cells #[.int .i64 B.self, .slice ua m uc] 24 (0, 0))
  have PB := al2_1 w (.cells #[.int .i64 A.self, .slice ta n tc] 24 (0, 0)) (.cells #[.int .i64 B.self, .slice ua m uc] 24 (0, 0))
  have BW : Below w.heap.size w ((w.alloc (.cells #[.int .i64 A.self, .slice ta n tc] 24 (0, 0))).alloc (.cells #[.int .i64 B.self, .slice ua m uc] 24 (0, 0))) := ((Below.refl _ w).alloc (Nat.le_refl _) _).alloc (by simp) _
  generalize (w.alloc (.cells #[.int .i64 A.self, .slice ta n tc] 24 (0, 0))).alloc (.cells #[.int .i64 B.self, .slice ua m uc] 24 (0, 0)) = W at PA PB BW ⊢
  refine (szTab _ A 1048576 W (h0.out.ext (ext_below BW)) (by omega) (by omega)).mono ?_
  rintro e w1 ⟨r, rfl, hrr, b1⟩
  rw [← HN.out] at hrr
  have B1 := BW.trans (b1.mono BW.size)
  have PA1 := below_blk b1 (Array.getElem?_eq_some_iff.1 PA).1 PA
  have PB1 := below_blk b1 (Array.getElem?_eq_some_iff.1 PB).1 PB
  clear PA PB BW b1
  rcases hrr with ⟨h1, rfl⟩ | ⟨h1, h2⟩
  · go_wp2_with fail
    go_ret
    exact ⟨rfl, B1⟩
  have hl : n ≤ 1048576 := by omega
  have hr0 : 0 ≤ r := by omega
  have hr1 : r ≤ 1048576 := by omega
  clear h1 h2
  obtain ⟨pa0, pa1⟩ := two_cells PA1
  obtain ⟨pb0, pb1⟩ := two_cells PB1
  go_wp2_with fail
  refine (szTab _ B r w1 (k0.out.ext (ext_below B1)) (by omega) (by omega)).mono ?_
  rintro e w2 ⟨r2, rfl, hrr, b2⟩
  rw [← HM.out] at hrr
  have B2 := B1.trans (b2.mono B1.size)
  have PA2 := below_blk b2 (Array.getElem?_eq_some_iff.1 PA1).1 PA1
  have PB2 := below_blk b2 (Array.getElem?_eq_some_iff.1 PB1).1 PB1
  clear PA1 PB1 b2 pa0 pa1 pb0 pb1 B1
  rcases hrr with ⟨h1, rfl⟩ | ⟨h1, h2⟩
  · go_wp2_with fail
    go_ret
    exact ⟨rfl, B2⟩
  have hl' : m ≤ 1048576 := by omega
  have hr2 : 0 ≤ r2 := by omega
  have HL : Hid (A.mems.length ≤ 1048576 ∧ B.mems.length ≤ 1048576) := ⟨by have := HN.out; omega, by have := HM.out; omega⟩
  clear h1 h2
  obtain ⟨pa0, pa1⟩ := two_cells PA2
  obtain ⟨pb0, pb1⟩ := two_cells PB2
  have HPA2 : Hid _ := PA2
  have HPB2 : Hid _ := PB2
  have HTA : Hid (∀ V, Ext w2 V → Calls Try.prog 8 #[.agg #[.int .i64 A.self, .slice ta n tc]] V fun e w' => ∃ g, e = .returned (.agg #[.int .i64 A.self, .slice (some ⟨g, 0, none⟩) n n]) ∧ VTab w' (.agg #[.int .i64 A.self, .slice (some ⟨g, 0, none⟩) n n]) A ∧ Below V.heap.size V w') := fun V e => (toTab _ A V ((h0.out.ext (ext_below B2)).ext e) HL.out.1).mono (fun e w' ⟨g, h1, h2, h3⟩ => by rw [← HN.out] at h1 h2; exact ⟨g, h1, ⟨_, rfl, h2.v⟩, h3⟩)
  have HTB : Hid (∀ V, Ext w2 V → Calls Try.prog 8 #[.agg #[.int .i64 B.self, .slice ua m uc]] V fun e w' => ∃ g, e = .returned (.agg #[.int .i64 B.self, .slice (some ⟨g, 0, none⟩) m m]) ∧ VTab w' (.agg #[.int .i64 B.self, .slice (some ⟨g, 0, none⟩) m m]) B ∧ Below V.heap.size V w') := fun V e => (toTab _ B V ((k0.out.ext (ext_below B2)).ext e) HL.out.2).mono (fun e w' ⟨g, h1, h2, h3⟩ => by rw [← HM.out] at h1 h2; exact ⟨g, h1, ⟨_, rfl, h2.v⟩, h3⟩)
  have HSA : Hid (∀ V va vb, VTab V va A → VTab V vb B → Calls Try.prog 18 #[va, vb] V fun e w' => e = .returned (.bool R) ∧ Below V.heap.size V w') := fun V va vb ha hb => by rw [HR.out]; exact sAgreeV va vb A B V ha hb HL.out.1 HL.out.2
  have HIA : Hid (∀ V va vb, VTab V va A → VTab V vb B → Calls Try.prog 19 #[va, vb] V fun e w' => e = .returned (.bool R) ∧ Below V.heap.size V w') := fun V va vb ha hb => by rw [HR.out]; exact iAgreeV va vb A B V ha hb HL.out.1 HL.out.2
  have HPA : Hid (w2.heap[w.heap.size]? = some (.cells #[.int .i64 A.self, .slice ta n tc] 24 (0, 0))) := PA2
  have HPB : Hid (w2.heap[w.heap.size + 1]? = some (.cells #[.int .i64 B.self, .slice ua m uc] 24 (0, 0))) := PB2
  have XD : Hid (Ext w2 w2.drew) := ext_drewN _ 1
  clear HPA2 HPB2 PA2 PB2
  go_wp2_with fail
  go_region_held3 (fun w' => w'.cell? ⟨w.heap.size, 0, none⟩ = some (.int .i64 A.self) ∧ w'.cell? ⟨w.heap.size, 1, none⟩ = some (.slice ta n tc) ∧ w'.cell? ⟨w.heap.size + 1, 0, none⟩ = some (.int .i64 B.self) ∧ w'.cell? ⟨w.heap.size + 1, 1, none⟩ = some (.slice ua m uc)) (first | (simp [*]; done) | go_keep)
    (first
      | (go_at_call 18; refine (HSA.out _ _ _ ?_ ?_).mono ?_; exact VA3.out.ext X34.out; exact VB4.out; rintro e w5 ⟨rfl, b5⟩; have X5 : Hid (Ext w2 w5) := X4.out.tr (ext_below b5); obtain ⟨e0, e1⟩ := two_cells (ext_blk X5.out HPA.out); obtain ⟨f0, f1⟩ := two_cells (ext_blk X5.out HPB.out))
      | (have zz := X3; clear zz; go_at_call 8; refine (HTB.out _ ?_).mono ?_; exact X3.out; rintro e w4 ⟨g4, rfl, vb4, b4⟩; have X34 : Hid (Ext w3 w4) := ext_below b4; have X4 : Hid (Ext w2 w4) := X3.out.tr (ext_below b4); have VB4 : Hid (VTab w4 (.agg #[.int .i64 B.self, .slice (some ⟨g4, 0, none⟩) m m]) B) := vb4; clear vb4; obtain ⟨e0, e1⟩ := two_cells (ext_blk X4.out HPA.out); obtain ⟨f0, f1⟩ := two_cells (ext_blk X4.out HPB.out))
      | (go_at_call 8; refine (HTA.out _ ?_).mono ?_; exact XD.out; rintro e w3 ⟨g3, rfl, va3, b3⟩; have X3 : Hid (Ext w2 w3) := XD.out.tr (ext_below b3); have VA3 : Hid (VTab w3 (.agg #[.int .i64 A.self, .slice (some ⟨g3, 0, none⟩) n n]) A) := va3; clear va3; obtain ⟨e0, e1⟩ := two_cells (ext_blk X3.out HPA.out); obtain ⟨f0, f1⟩ := two_cells (ext_blk X3.out HPB.out)))
  clear pa0 pa1 pb0 pb1
  have hw5 := X5.out.size
  go_wp2_with fail
  refine (HTA.out _ X5.out).mono ?_
  rintro e w6 ⟨gx, rfl, vx, b6⟩
  have X6 : Ext w2 w6 := X5.out.tr (ext_below b6)
  obtain ⟨e0, e1⟩ := two_cells (ext_blk (X6.tr (hE w6 (.cells #[.int .i64 A.self, .slice (some ⟨gx, 0, none⟩) n n] 32 (0, 0)))) HPA.out)
  obtain ⟨f0, f1⟩ := two_cells (ext_blk (X6.tr (hE w6 (.cells #[.int .i64 A.self, .slice (some ⟨gx, 0, none⟩) n n] 32 (0, 0)))) HPB.out)
  have HVX : Hid (VTab w6 (.agg #[.int .i64 A.self, .slice (some ⟨gx, 0, none⟩) n n]) A) := vx
  clear vx b6
  go_wp2_with fail
  generalize hU : w6.alloc _ = U6
  have PX : U6.heap[w6.heap.size]? = some (.cells #[.int .i64 A.self, .slice (some ⟨gx, 0, none⟩) n n] 32 (0, 0)) := by rw [← hU]; exact heap_alloc_new w6 _
  have XU : Ext w6 U6 := by rw [← hU]; exact hE _ _
  clear hU
  refine (HTB.out _ (X6.tr XU)).mono ?_
  rintro e w7 ⟨gy, rfl, vy, b7⟩
  have X7 : Ext U6 w7 := ext_below b7
  have PX7 := ext_blk X7 PX
  have HVY : Hid (VTab w7 (.agg #[.int .i64 B.self, .slice (some ⟨gy, 0, none⟩) m m]) B) := vy
  have HLA : Hid (∀ W, W = w7.alloc (.cells #[.int .i64 B.self, .slice (some ⟨gy, 0, none⟩) m m] 32 (0, 0)) → LA w W A B (.slice ta n tc) (.slice ua m uc) (.slice (some ⟨gx, 0, none⟩) n n) (.slice (some ⟨gy, 0, none⟩) m m) w6.heap.size w7.heap.size) := fun W hW => by
    subst hW
    have XX : Ext w2 w7 := (X6.tr XU).tr X7
    have XA := hE w7 (.cells #[.int .i64 B.self, .slice (some ⟨gy, 0, none⟩) m m] 32 (0, 0))
    obtain ⟨_, hx1, hx2⟩ := HVX.out
    simp only [Value.agg.injEq, Array.mk.injEq, List.cons.injEq, and_true, true_and] at hx1
    obtain ⟨_, hy1, hy2⟩ := HVY.out
    simp only [Value.agg.injEq, Array.mk.injEq, List.cons.injEq, and_true, true_and] at hy1
    subst hx1 hy1
    exact ⟨B2.trans ((ext_bel (XX.tr XA)).mono B2.size), ext_blk (XX.tr XA) HPA.out, ext_blk (XX.tr XA) HPB.out, ext_blk XA PX7, heap_alloc_new w7 _, ((hx2.ext XU).ext X7).ext XA, hy2.ext XA⟩
  clear vy b7 X7 PX7 PX XU X6 e0 e1 f0 f1 HVX HVY
  go_upto_region 11 with fail
  generalize hU : w7.alloc _ = W0
  have L0 := HLA.out W0 hU.symm
  have HL0 := hideQ L0
  clear hU HLA
  generalize w6.heap.size = bx at *
  generalize w7.heap.size = bgy at *
  obtain ⟨x0, x1⟩ := two_cells L0.x
  obtain ⟨y0, y1⟩ := two_cells L0.y
  clear L0
  go_wp2_with fail
  refine (HIA.out _ _ _ ⟨_, rfl, HL0.out.xV⟩ ⟨_, rfl, HL0.out.yV⟩).mono ?_
  rintro e W1 ⟨rfl, c1⟩
  have HL1 := hideQ (HL0.out.grow c1)
  clear x0 x1 y0 y1 c1 HL0
  obtain ⟨x0, x1⟩ := two_cells HL1.out.x
  obtain ⟨a0, a1⟩ := two_cells HL1.out.a
  have HS1 : Hid ((W1.cell? ⟨bx, 0, none⟩ = some (.int .i64 A.self) ∧ W1.cell? ⟨bx, 1, none⟩ = some (.slice (some ⟨gx, 0, none⟩) n n)) ∧ (W1.cell? ⟨w.heap.size, 0, none⟩ = some (.int .i64 A.self) ∧ W1.cell? ⟨w.heap.size, 1, none⟩ = some (.slice ta n tc))) := ⟨⟨x0, x1⟩, ⟨a0, a1⟩⟩
  go_upto_region 14 with fail
  go_region_held3 (fun w' => w'.cell? ⟨bx, 0, none⟩ = some (.int .i64 A.self) ∧ w'.cell? ⟨bx, 1, none⟩ = some (.slice (some ⟨gx, 0, none⟩) n n) ∧ w'.cell? ⟨w.heap.size, 0, none⟩ = some (.int .i64 A.self) ∧ w'.cell? ⟨w.heap.size, 1, none⟩ = some (.slice ta n tc)) (simp [*])
    (first | (go_at_call 8; refine (toTab _ A _ ?_ HL.out.1).mono ?_; exact (h0.out.ext (ext_below HL1.out.low)).ext (ext_drewN W1 1); rintro e u6 ⟨g6, rfl, o6, b6⟩; rw [← HN.out]; have V6 : VTab u6 (.agg #[.int .i64 A.self, .slice (some ⟨g6, 0, none⟩) n n]) A := (⟨_, rfl, by rw [HN.out]; exact o6.v⟩); obtain ⟨⟨c0, c1⟩, ⟨d0, d1⟩⟩ := keptT (w := W1.drew) HS1.out b6) | (go_at_call 11; refine (eqTab _ _ A _ ?_ ?_ HL.out.1).mono ?_; exact (⟨_, rfl, (HL1.out.xV.ext (ext_drewN W1 1)).ext (ext_below b6)⟩ : VTab _ _ A); exact V6; rintro e u7 ⟨rfl, b7⟩; obtain ⟨⟨c0', c1'⟩, ⟨d0', d1'⟩⟩ := keptT ⟨⟨c0, c1⟩, ⟨d0, d1⟩⟩ b7))
  have bA : Below W1.heap.size W1 u7 := ((below_drewN (Below.refl _ W1) 1).trans (b6.mono (Nat.le_refl _))).trans (b7.mono b6.size)
  have HL2 := hideQ (HL1.out.grow bA)
  clear c0 c1 d0 d1 c0' c1' d0' d1' b6 b7 bA V6 o6 x0 x1 a0 a1 HL1 HS1
  obtain ⟨y0, y1⟩ := two_cells HL2.out.y
  obtain ⟨a0, a1⟩ := two_cells HL2.out.b
  have HS1 : Hid ((u7.cell? ⟨bgy, 0, none⟩ = some (.int .i64 B.self) ∧ u7.cell? ⟨bgy, 1, none⟩ = some (.slice (some ⟨gy, 0, none⟩) m m)) ∧ (u7.cell? ⟨w.heap.size + 1, 0, none⟩ = some (.int .i64 B.self) ∧ u7.cell? ⟨w.heap.size + 1, 1, none⟩ = some (.slice ua m uc))) := ⟨⟨y0, y1⟩, ⟨a0, a1⟩⟩
  go_upto_region 16 with fail
  go_region_held3 (fun w' => w'.cell? ⟨bgy, 0, none⟩ = some (.int .i64 B.self) ∧ w'.cell? ⟨bgy, 1, none⟩ = some (.slice (some ⟨gy, 0, none⟩) m m) ∧ w'.cell? ⟨w.heap.size + 1, 0, none⟩ = some (.int .i64 B.self) ∧ w'.cell? ⟨w.heap.size + 1, 1, none⟩ = some (.slice ua m uc)) (simp [*])
    (first | (go_at_call 8; refine (toTab _ B _ ?_ HL.out.2).mono ?_; exact (k0.out.ext (ext_below HL2.out.low)).ext (ext_drewN u7 1); rintro e u8 ⟨g6, rfl, o6, b6⟩; rw [← HM.out]; have V6 : VTab u8 (.agg #[.int .i64 B.self, .slice (some ⟨g6, 0, none⟩) m m]) B := (⟨_, rfl, by rw [HM.out]; exact o6.v⟩); obtain ⟨⟨c0, c1⟩, ⟨d0, d1⟩⟩ := keptT (w := u7.drew) HS1.out b6) | (go_at_call 11; refine (eqTab _ _ B _ ?_ ?_ HL.out.2).mono ?_; exact (⟨_, rfl, (HL2.out.yV.ext (ext_drewN u7 1)).ext (ext_below b6)⟩ : VTab _ _ B); exact V6; rintro e u9 ⟨rfl, b7⟩; obtain ⟨⟨c0', c1'⟩, ⟨d0', d1'⟩⟩ := keptT ⟨⟨c0, c1⟩, ⟨d0, d1⟩⟩ b7))
  have bA : Below u7.heap.size u7 u9 := ((below_drewN (Below.refl _ u7) 1).trans (b6.mono (Nat.le_refl _))).trans (b7.mono b6.size)
  go_wp2
  go_ret
  exact ⟨rfl, (HL2.out.grow bA).low⟩

end Go.Proofs.Ytpgbpfaaidcnpaa
