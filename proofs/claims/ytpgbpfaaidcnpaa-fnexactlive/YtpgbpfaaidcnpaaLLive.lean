/- The exact statement of Live: the walk of the law itself. -/
import Derived.Test.YtpgbpfaaidcnpaaTbL
import Derived.Test.YtpgbpfaaidcnpaaMs6
import Derived.Test.YtpgbpfaaidcnpaaNbM
import Derived.Test.YtpgbpfaaidcnpaaMiLive
import Derived.Deep.RegionHeld3
namespace Go.Proofs.Ytpgbpfaaidcnpaa
open Go.RowKit

theorem liveD_len (T : DTab) (h : T.mems.length ≤ 1048576) : (liveD T).length ≤ 1048576 := by
  by_cases hp : TabP T
  · rw [liveD_yes hp]; have := liveL_len T.mems; omega
  · rw [liveD_no hp]; simp
/-- Rows of members and rows of numbers lie apart. -/
theorem rows_apart {W : World} {b b' : Nat} {v u : Value} {ts : List DMem} {xs : List Int} (h : OwMem W b v ts) (k : OwI W b' u xs) : u.ownBlock = none ∨ u.ownBlock ≠ v.ownBlock := by
  rcases k.2 with ⟨rfl, _⟩ | ⟨g, cap, cur, rfl, _, hg, _⟩
  · exact .inl rfl
  · right
    rcases h.2 with ⟨rfl, _⟩ | ⟨g', cap', cur', rfl, _, hg', _⟩
    · simp [Value.ownBlock]
    · simp only [Value.ownBlock, ne_eq, Option.some.injEq]
      rintro rfl
      rw [hg] at hg'
      cases hg'
theorem ne_rowN {W : World} {base b : Nat} {v : Value} {xs : List Int} {cs : Array Value} {t : TypeId} (o : OwI W base v xs) (h : W.heap[b]? = some (.cells cs t (0, 0))) (ht : t ≠ 3) : some b ≠ v.ownBlock := by
  intro e
  rcases o.2 with ⟨hv, _⟩ | ⟨k, c, cur, hv, _, hg, _⟩
  · rw [hv] at e; cases e
  · rw [hv] at e
    simp only [Value.ownBlock, Option.some.injEq] at e
    subst e
    rw [h] at hg
    simp only [Option.some.injEq, Obj.cells.injEq] at hg
    exact ht hg.2.1
theorem OwI.keep {w w' : World} {base : Nat} {v : Value} {row : Option Nat} {xs : List Int} (h : OwI w base v xs) (e : w.grownBy w' row) (hn : v.ownBlock = none ∨ v.ownBlock ≠ row) : OwI w' base v xs := World.ownsRow.kept h e hn

/-- What is carried: the argument's box, the copy's box and row, the specification's numbers, the program's numbers. -/
structure LV (w W : World) (D : DTab) (av xv sv gv : Value) (x xb sb gb : Nat) (X : List DMem) (S G : List Int) : Prop where
  low : Below w.heap.size w W
  a : W.heap[w.heap.size]? = some (.cells #[.int .i64 D.self, av] 24 (0, 0))
  x : W.heap[x]? = some (.cells #[.int .i64 D.self, xv] 32 (0, 0))
  xO : OwMem W xb xv X
  sI : OwI W sb sv S
  sl : ∀ k, sv.ownBlock = some k → k < gb
  gI : OwI W gb gv G
  xl : w.heap.size ≤ xb
  gl : w.heap.size ≤ gb
variable {w W W' : World} {D : DTab} {av xv sv gv : Value} {x xb sb gb : Nat} {X X' : List DMem} {S G G' : List Int}
theorem LV.grow (h : LV w W D av xv sv gv x xb sb gb X S G) (b : Below W.heap.size W W') : LV w W' D av xv sv gv x xb sb gb X S G :=
  ⟨h.low.trans (b.mono h.low.size), below_blk b (Array.getElem?_eq_some_iff.1 h.a).1 h.a, below_blk b (Array.getElem?_eq_some_iff.1 h.x).1 h.x, h.xO.ext (ext_below b), h.sI.ext (ext_below b), h.sl, h.gI.ext (ext_below b), h.xl, h.gl⟩
theorem LV.turnX (h : LV w W D av xv sv gv x xb sb gb X S G) (hg : W.grownBy W' xv.ownBlock) (hX : OwMem W' xb xv X') : LV w W' D av xv sv gv x xb sb gb X' S G :=
  ⟨h.low.grown hg h.low.size (fun k hk => Nat.le_trans h.xl (h.xO.lt k hk).1), (hg.block _ (Array.getElem?_eq_some_iff.1 h.a).1 (ne_rowM h.xO h.a (by decide))).trans h.a, (hg.block _ (Array.getElem?_eq_some_iff.1 h.x).1 (ne_rowM h.xO h.x (by decide))).trans h.x, hX, h.sI.keep hg (rows_apart h.xO h.sI), h.sl, h.gI.keep hg (rows_apart h.xO h.gI), h.xl, h.gl⟩
theorem LV.turnG (h : LV w W D av xv sv gv x xb sb gb X S G) (hg : W.grownBy W' gv.ownBlock) (hG : OwI W' gb gv G') : LV w W' D av xv sv gv x xb sb gb X S G' :=
  ⟨h.low.grown hg h.low.size (fun k hk => Nat.le_trans h.gl (World.ownsRow.lt h.gI k hk).1), (hg.block _ (Array.getElem?_eq_some_iff.1 h.a).1 (ne_rowN h.gI h.a (by decide))).trans h.a, (hg.block _ (Array.getElem?_eq_some_iff.1 h.x).1 (ne_rowN h.gI h.x (by decide))).trans h.x, h.xO.keep hg (by
    rcases rows_apart h.xO h.gI with e | e
    · rw [e]; cases xv.ownBlock <;> simp
    · exact .inr (Ne.symm e)), h.sI.keep hg (by
    cases hv : sv.ownBlock with
    | none => exact .inl rfl
    | some k =>
      right
      intro e
      have h1 := h.sl k hv
      have h2 := (World.ownsRow.lt h.gI k e.symm).1
      omega), h.sl, hG, h.xl, h.gl⟩

set_option maxRecDepth 20000 in
set_option maxHeartbeats 8000000 in
theorem law_Live (v : Value) (D : DTab) (w : World) (h : VTab w v D) :
    Calls Try.prog 4 #[v] w fun e w' => e = .returned (.bool true) ∧ Below w.heap.size w w' := by
  have hE : ∀ w : World, ∀ o, Ext w (w.alloc o) := fun w o => World.grownBy_alloc _ _ _
  have hB : ∀ w : World, ∀ o, Below w.heap.size w (w.alloc o) := fun w o => (Below.refl _ w).alloc (Nat.le_refl _) _
  have h0 : Hid (VTab w v D) := h
  obtain ⟨R, hR⟩ : ∃ R, R = liveD D := ⟨_, rfl⟩
  have HR : Hid (R = liveD D) := hR
  have HRL : Hid (D.mems.length ≤ 1048576 → R.length ≤ 1048576) := fun hl => by rw [hR]; exact liveD_len D hl
  clear hR
  obtain ⟨tv, rfl, ht⟩ := h
  obtain ⟨ta, tc, rfl⟩ := ht.shape
  obtain ⟨n, hn⟩ : ∃ n, n = D.mems.length := ⟨_, rfl⟩
  have HN : Hid (n = D.mems.length) := hn
  rw [← hn] at h0 ⊢
  clear hn ht
  go_enter Try.func4, Try.ntmps4
  go_wp2_with fail
  refine (szTab _ D 1048576 _ (h0.out.ext (hE _ _)) (by omega) (by omega)).mono ?_
  rintro e w1 ⟨r, rfl, hrr, b1⟩
  rw [← HN.out] at hrr
  have B1 := (hB w _).trans (b1.mono (by simp))
  have P1 := below_blk b1 (by simp) (heap_alloc_new w _)
  rcases hrr with ⟨h1, rfl⟩ | ⟨h1, h2⟩
  · go_wp2_with fail
    go_ret
    exact ⟨rfl, B1⟩
  have HLE : Hid (D.mems.length ≤ 1048576) := by have := HN.out; show _ ≤ _; omega
  have hl : n ≤ 1048576 := by omega
  have hr0 : 0 ≤ r := by omega
  have hRl : R.length ≤ 1048576 := HRL.out HLE.out
  clear h1 h2 b1
  obtain ⟨p0, p1⟩ := two_cells P1
  go_wp2_with fail
  refine (toTab _ D w1 (h0.out.ext (ext_below B1)) HLE.out).mono ?_
  rintro e w2 ⟨g2, rfl, o2, b2⟩
  rw [← HN.out] at o2 ⊢
  have B2 := B1.trans (b2.mono B1.size)
  have P2 := below_blk b2 (Array.getElem?_eq_some_iff.1 P1).1 P1
  have V2 : VTab w2 (.agg #[.int .i64 D.self, .slice (some ⟨g2, 0, none⟩) n n]) D := ⟨_, rfl, o2.v⟩
  clear o2 b2 P1 B1 p0 p1
  go_wp2_with fail
  refine (sLiveV _ D w2 V2 HLE.out).mono ?_
  rintro e w3 ⟨sv, rfl, o3, b3⟩
  rw [← HR.out] at o3
  have B3 := B2.trans (b3.mono B2.size)
  have P3 := below_blk b3 (Array.getElem?_eq_some_iff.1 P2).1 P2
  have HS3 : Hid (OwI w3 w2.heap.size sv R) := o3
  clear o3 b3 P2 V2
  obtain ⟨p0, p1⟩ := two_cells P3
  go_wp2_with fail
  refine (toTab _ D w3 (h0.out.ext (ext_below B3)) HLE.out).mono ?_
  rintro e w4 ⟨g4, rfl, o4, b4⟩
  rw [← HN.out] at o4 ⊢
  have B4 := B3.trans (b4.mono B3.size)
  have P4 := below_blk b4 (Array.getElem?_eq_some_iff.1 P3).1 P3
  have HO4 : Hid (OwMem w4 w3.heap.size (.slice (some ⟨g4, 0, none⟩) n n) D.mems) := o4
  have HS4 : Hid (OwI w4 w2.heap.size sv R) := HS3.out.ext (ext_below b4)
  have HSL : Hid (∀ k, sv.ownBlock = some k → k < w3.heap.size) := fun k hk => (World.ownsRow.lt HS3.out k hk).2
  have s34 := b4.size
  clear o4 b4 P3 p0 p1 HS3
  go_wp2_with fail
  generalize hU : w4.alloc _ = U4
  have XU : U4.heap[w4.heap.size]? = some (.cells #[.int .i64 D.self, .slice (some ⟨g4, 0, none⟩) n n] 32 (0, 0)) := by rw [← hU]; exact heap_alloc_new w4 _
  have BU : Below w4.heap.size w4 U4 := by rw [← hU]; exact hB _ _
  clear hU
  have OX : OwMem U4 w3.heap.size (.slice (some ⟨g4, 0, none⟩) n n) D.mems := HO4.out.ext (ext_below BU)
  refine (iLiveV _ D U4 ⟨_, rfl, OX.v⟩ HLE.out).mono ?_
  rintro e w5 ⟨gv, rfl, o5, b5⟩
  rw [← HR.out] at o5
  have HL0 : Hid (LV w w5 D (.slice ta n tc) (.slice (some ⟨g4, 0, none⟩) n n) sv gv w4.heap.size w3.heap.size w2.heap.size U4.heap.size D.mems R R) := by
    have XX := (ext_below BU).tr (ext_below b5)
    have sU := BU.size
    exact ⟨B4.trans ((ext_bel XX).mono B4.size), ext_blk XX P4, below_blk b5 (Array.getElem?_eq_some_iff.1 XU).1 XU, OX.ext (ext_below b5), HS4.out.ext XX, fun k hk => by have := HSL.out k hk; omega, o5, B3.size, by have := B4.size; omega⟩
  clear o5 b5 OX XU BU P4 B4 HO4 HS4 HSL B3 B2 s34
  generalize w4.heap.size = bx at *
  generalize w3.heap.size = xb at *
  generalize w2.heap.size = sb at *
  generalize U4.heap.size = gb at *
  go_wp2_with fail
  refine (eqL_I _ _ R w5 HL0.out.gI.vl HL0.out.sI.vl hRl).mono ?_
  rintro e W1 ⟨rfl, q1, rfl⟩
  have HL1 : Hid (LV w (w5.drewN q1) D (.slice ta n tc) (.slice (some ⟨g4, 0, none⟩) n n) sv gv bx xb sb gb D.mems R R) := HL0.out.grow (below_drewN (Below.refl _ _) q1)
  generalize w5.drewN q1 = W1 at HL1 ⊢
  clear HL0
  obtain ⟨x0, x1⟩ := two_cells HL1.out.x
  obtain ⟨a0, a1⟩ := two_cells HL1.out.a
  have HS1 : Hid ((W1.cell? ⟨bx, 0, none⟩ = some (.int .i64 D.self) ∧ W1.cell? ⟨bx, 1, none⟩ = some (.slice (some ⟨g4, 0, none⟩) n n)) ∧ (W1.cell? ⟨w.heap.size, 0, none⟩ = some (.int .i64 D.self) ∧ W1.cell? ⟨w.heap.size, 1, none⟩ = some (.slice ta n tc))) := ⟨⟨x0, x1⟩, ⟨a0, a1⟩⟩
  go_upto_region 10 with fail
  go_region_held3 (fun w' => w'.cell? ⟨bx, 0, none⟩ = some (.int .i64 D.self) ∧ w'.cell? ⟨bx, 1, none⟩ = some (.slice (some ⟨g4, 0, none⟩) n n) ∧ w'.cell? ⟨w.heap.size, 0, none⟩ = some (.int .i64 D.self) ∧ w'.cell? ⟨w.heap.size, 1, none⟩ = some (.slice ta n tc)) (simp [*])
    (first | (go_at_call 8; refine (toTab _ D _ ?_ HLE.out).mono ?_; exact (h0.out.ext (ext_below HL1.out.low)).ext (ext_drewN W1 1); rintro e u6 ⟨g6, rfl, o6, b6⟩; rw [← HN.out]; have V6 : VTab u6 (.agg #[.int .i64 D.self, .slice (some ⟨g6, 0, none⟩) n n]) D := (⟨_, rfl, by rw [HN.out]; exact o6.v⟩); obtain ⟨⟨c0, c1⟩, ⟨d0, d1⟩⟩ := keptT (w := W1.drew) HS1.out b6) | (go_at_call 11; refine (eqTab _ _ D _ ?_ ?_ HLE.out).mono ?_; exact (⟨_, rfl, (HL1.out.xO.v.ext (ext_drewN W1 1)).ext (ext_below b6)⟩ : VTab _ _ D); exact V6; rintro e u7 ⟨rfl, b7⟩; obtain ⟨⟨c0', c1'⟩, ⟨d0', d1'⟩⟩ := keptT ⟨⟨c0, c1⟩, ⟨d0, d1⟩⟩ b7))
  have bA : Below W1.heap.size W1 u7 := ((below_drewN (Below.refl _ W1) 1).trans (b6.mono (Nat.le_refl _))).trans (b7.mono b6.size)
  have HL2 := hideQ (HL1.out.grow bA)
  clear c0 c1 d0 d1 c0' c1' d0' d1' b6 b7 bA V6 o6 x0 x1 a0 a1 HL1 HS1
  obtain ⟨x0, x1⟩ := two_cells HL2.out.x
  go_wp2_with fail
  refine (markTab xb D.self _ D.mems 1 _ HL2.out.xO HLE.out (by omega) (by omega)).mono ?_
  rintro e W3 ⟨rfl, o3, g3⟩
  rw [← HN.out] at o3 ⊢
  have HL3 := hideQ (HL2.out.turnX g3 o3)
  clear o3 g3 x0 x1 HL2
  have hk0 : ¬ ((1 : Int) + 3 * (n : Int) < 0) := by omega
  have hk1 : decide ((1 : Int) + 3 * (n : Int) < 0) = false := by simp; omega
  go_wp2_with fail
  refine (eqL_I _ _ R W3 HL3.out.gI.vl HL3.out.sI.vl hRl).mono ?_
  rintro e W4 ⟨rfl, q4, rfl⟩
  have HL4 : Hid (LV w (W3.drewN q4) D (.slice ta n tc) (.slice (some ⟨g4, 0, none⟩) n n) sv gv bx xb sb gb (mkMem 1 n) R R) := HL3.out.grow (below_drewN (Below.refl _ _) q4)
  generalize W3.drewN q4 = W4 at HL4 ⊢
  clear HL3
  go_wp2_with fail
  refine (markOI gb gv R 1 W4 HL4.out.gI hRl (by omega) (by omega)).mono ?_
  rintro e W5 ⟨rfl, o5, g5⟩
  have HL5 := hideQ (HL4.out.turnG g5 o5)
  obtain ⟨m, hm⟩ : ∃ m, m = R.length := ⟨_, rfl⟩
  have HMR : Hid (m = R.length) := hm
  have hml : m ≤ 1048576 := by rw [hm]; exact hRl
  rw [← hm] at HL5 ⊢
  have HRL2 : Hid (R.length ≤ 1048576) := hRl
  clear o5 g5 HL4 hm hRl
  have hm0 : ¬ ((1 : Int) + (m : Int) < 0) := by omega
  go_wp2_with fail
  refine (heldOI gb gv m 1 W5 HL5.out.gI (by omega) (by omega) hml).mono ?_
  rintro e W6 ⟨rfl, q6, rfl⟩
  have HL6 := hideQ (HL5.out.grow (below_drewN (Below.refl _ _) q6))
  clear HL5
  generalize W5.drewN q6 = W6 at HL6 ⊢
  obtain ⟨a0, a1⟩ := two_cells HL6.out.a
  go_wp2_with fail
  refine (toTab _ D W6 (h0.out.ext (ext_below HL6.out.low)) HLE.out).mono ?_
  rintro e W7 ⟨g7, rfl, o7, b7⟩
  rw [← HN.out] at o7 ⊢
  have HL7 := hideQ (HL6.out.grow b7)
  have V7 : VTab W7 (.agg #[.int .i64 D.self, .slice (some ⟨g7, 0, none⟩) n n]) D := ⟨_, rfl, o7.v⟩
  clear o7 b7 a0 a1 HL6
  go_wp2_with fail
  refine (iLiveV _ D W7 V7 HLE.out).mono ?_
  rintro e W8 ⟨hv8, rfl, o8, b8⟩
  rw [← HR.out] at o8
  have HL8 := hideQ (HL7.out.grow b8)
  have HO8 : Hid (OwI W8 W7.heap.size hv8 R) := o8
  clear b8 o8 V7 HL7
  go_wp2_with fail
  refine (eqL_I _ _ R W8 HO8.out.vl HL8.out.sI.vl HRL2.out).mono ?_
  rintro e W9 ⟨rfl, q9, rfl⟩
  have HL9 := hideQ (HL8.out.grow (below_drewN (Below.refl _ _) q9))
  clear HL8 HO8
  generalize W8.drewN q9 = W9 at HL9 ⊢
  go_wp2_with fail
  refine (heldOI gb gv m 1 W9 HL9.out.gI (by omega) (by omega) hml).mono ?_
  rintro e W10 ⟨rfl, q10, rfl⟩
  go_wp2
  go_ret
  exact ⟨rfl, below_drewN HL9.out.low q10⟩

end Go.Proofs.Ytpgbpfaaidcnpaa
