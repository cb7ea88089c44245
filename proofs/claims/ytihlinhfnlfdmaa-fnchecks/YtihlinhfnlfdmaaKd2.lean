
/- Draws of checks: the specification's l13draw. -/
import Derived.Test.YtihlinhfnlfdmaaKd0
import Derived.Test.YtihlinhfnlfdmaaKd1
import Derived.Test.YtihlinhfnlfdmaaCk7ps
import Derived.Test.YtihlinhfnlfdmaaCk7fs
import Derived.Test.YtihlinhfnlfdmaaCk7ns
namespace Go.Proofs.Ytihlinhfnlfdmaa
open Go.RowKit

/-- The value owns these bytes (its row may bear a conversion's mark). -/
def OwN (w : World) (base : Nat) (v : Value) (xs : List Int) : Prop := OwM w base v xs ∧ ∀ x ∈ xs, 0 ≤ x ∧ x ≤ 255
theorem OwN.rv {w : World} {base : Nat} {v : Value} {xs : List Int} (h : OwN w base v xs) : RV w v xs := h.1.rv h.2
theorem OwN.ext {w w' : World} {base : Nat} {v : Value} {xs : List Int} (h : OwN w base v xs) (e : Ext w w') : OwN w' base v xs := ⟨h.1.ext e, h.2⟩
theorem OwN.base {w : World} {base b' : Nat} {v : Value} {xs : List Int} (h : OwN w base v xs) (hb : b' ≤ base) : OwN w b' v xs := ⟨h.1.base hb, h.2⟩
theorem OwN.low {w w' : World} {base g : Nat} {v : Value} {xs : List Int} (h : OwN w base v xs) (k : w.grownBy w' (some g)) (hg : g < base) : OwN w' base v xs := ⟨h.1.kept k (by
  cases hv : v.ownBlock with
  | none => exact .inl rfl
  | some b => exact .inr (by have := (h.1.lt b hv).1; simp; omega)), h.2⟩
theorem OwB.n {w : World} {base : Nat} {v : Value} {xs : List Int} (h : OwB w base v xs) : OwN w base v xs := ⟨h.1.m, h.2⟩
theorem OwB.low {w w' : World} {base g : Nat} {v : Value} {xs : List Int} (h : OwB w base v xs) (k : w.grownBy w' (some g)) (hg : g < base) : OwB w' base v xs := h.keep k (by
  cases hv : v.ownBlock with
  | none => exact .inl rfl
  | some b => exact .inr (by have := (h.lt b hv).1; simp; omega))
/-- What is carried while a check is drawn. -/
structure KdS (w : World) (B g bx : Nat) (C : DChk) (tv : Value) (W : World) : Prop where
  box : ChB bx w.heap.size C tv W
  cur : Cur W B g
  low : w.grownBy W (some g)
  res : W.heap[w.heap.size]? = some (.cells #[.slice none 0 0, .int .i64 0, .int .i64 0, .int .i64 0, .int .i64 0, .int .i64 0] 24 (0, 0))
  gw : g < w.heap.size
  wb : w.heap.size < bx
theorem KdS.turn {w W W' : World} {B g bx : Nat} {C : DChk} {tv : Value} (h : KdS w B g bx C tv W) (c : Cur W' B g) (k : W.grownBy W' (some g)) : KdS w B g bx C tv W' :=
  ⟨⟨grown_blk k (by have := h.gw; have := h.wb; omega) h.box.1, h.box.2.low k h.gw⟩, c, grown_tr h.low k, grown_blk k (by have := h.gw; omega) h.res, h.gw, h.wb⟩
theorem KdS.ext {w W W' : World} {B g bx : Nat} {C : DChk} {tv : Value} (h : KdS w B g bx C tv W) (e : Ext W W') : KdS w B g bx C tv W' := h.turn (h.cur.ext e) (ext_row e _)
theorem KdS.store {w W W' : World} {B g bx : Nat} {C C' : DChk} {tv tv' : Value} (h : KdS w B g bx C tv W) (b : ChB bx w.heap.size C' tv' W') (k : W.grownBy W' (some bx)) : KdS w B g bx C' tv' W' :=
  ⟨b, h.cur.off k (by have := h.gw; have := h.wb; omega), grown_both h.low k (by have := h.wb; omega), grown_blk k (by have := h.wb; omega) h.res, h.gw, h.wb⟩
theorem KdS.lay {w W W2 : World} {B g bx : Nat} {C C' : DChk} {tv tv' : Value} (h : KdS w B g bx C tv W) (e : Ext W W2) (o : OwB W2 W.heap.size tv' C'.name) : KdS w B g bx C' tv' ((((((W2.setCell ⟨bx, 0, none⟩ (tv')).setCell ⟨bx, 1, none⟩ (.int .i64 C'.ttl)).setCell ⟨bx, 2, none⟩ (.int .i64 C'.most)).setCell ⟨bx, 3, none⟩ (.int .i64 C'.st)).setCell ⟨bx, 4, none⟩ (.int .i64 C'.age)).setCell ⟨bx, 5, none⟩ (.int .i64 C'.fails)) := by
  have h2 := h.ext e
  have hs : w.heap.size ≤ W.heap.size := h.low.size
  exact h2.store ⟨chk_set h2.box.1 _ _ _ _ _ _, chk_own (o.base hs) (.inr (fun e => ne_rowB o h2.box.1 (by decide) e.symm)) _ _ _ _ _ _⟩ ((((((set_grown _ _ _ _).trans (set_grown _ _ _ _)).trans (set_grown _ _ _ _)).trans (set_grown _ _ _ _)).trans (set_grown _ _ _ _)).trans (set_grown _ _ _ _))
/-- A drawn check. -/
def ChkDrawn (G : DChk → Prop) (w : World) (B g : Nat) (e : Ending) (w' : World) : Prop := ∃ C tv, e = .returned (.agg #[tv, .int .i64 C.ttl, .int .i64 C.most, .int .i64 C.st, .int .i64 C.age, .int .i64 C.fails]) ∧ OwN w' w.heap.size tv C.name ∧ G C ∧ Cur w' B g ∧ w.grownBy w' (some g)
theorem sTickZ (g base : Nat) (C : DChk) (tv : Value) (n : Int) (w : World) (h : ChB g base C tv w) (h0 : C.ttl = 0) :
    Calls Try.prog 30 #[.pointer (some ⟨g, 0, none⟩), .int .i64 n] w fun e w' => e = .returned (.bool false) ∧ w' = w := by
  obtain ⟨os, t, m, s, a, f⟩ := C
  obtain ⟨p0, p1, p2, p3, p4, p5⟩ := cells6 h.1
  simp only at h0 p1
  subst h0
  clear h p0 p2 p3 p4 p5
  go_enter Try.func30, Try.ntmps30
  go_wp2
  go_ret
  exact ⟨rfl, rfl⟩
theorem sTickG (g base : Nat) (C : DChk) (tv : Value) (n : Int) (w : World) (h : ChB g base C tv w) (hc : GoodC C) (h0 : 0 ≤ n) (h1 : n ≤ 9223372036854775807) :
    Calls Try.prog 30 #[.pointer (some ⟨g, 0, none⟩), .int .i64 n] w fun e w' => ∃ b : Bool, e = .returned (.bool b) ∧ ChB g base (tickD C n).1 tv w' ∧ w.grownBy w' (some g) := by
  rcases hc.2 with hk | rfl
  · exact (sTickKV g base C tv n w h hk h0 h1).mono fun e w' ⟨h1, h2, h3⟩ => ⟨_, h1, h2, h3⟩
  · refine (sTickZ g base zeroChk tv n w h rfl).mono fun e w' ⟨h1, h2⟩ => ⟨_, h1, ?_, ?_⟩
    · rw [h2]; exact h
    · rw [h2]; exact World.grownBy.refl _ _

set_option maxRecDepth 20000 in
set_option maxHeartbeats 4000000 in
theorem drawKC (B g : Nat) (w : World) (hc : Cur w B g) :
    Calls Try.prog 22 #[.pointer (some ⟨g, 0, none⟩)] w (ChkDrawn GoodC w B g) := by
  have hE : ∀ w : World, ∀ o, Ext w (w.alloc o) := fun w o => World.grownBy_alloc _ _ _
  have HC := hideR hc
  have HGL : Hid (g < w.heap.size) := (cur_in hc).1
  clear hc
  go_enter Try.func22, Try.ntmps22
  go_wp2_with fail
  generalize hW : World.alloc w _ = W
  have XW : Ext w W := by rw [← hW]; exact hE _ _
  have R0 : W.heap[w.heap.size]? = some (.cells #[.slice none 0 0, .int .i64 0, .int .i64 0, .int .i64 0, .int .i64 0, .int .i64 0] 24 (0, 0)) := by rw [← hW]; exact heap_alloc_new w _
  have sW : w.heap.size < W.heap.size := (Array.getElem?_eq_some_iff.1 R0).1
  clear hW
  refine (drawKeyC B g W (HC.out.ext XW)).mono ?_
  rintro e w1 ⟨kv, j, hj, rfl, ok, c1, g1⟩
  have hgW : g < W.heap.size := by have := HGL.out; omega
  have OK1 : OwN w1 W.heap.size kv (dkL j) := ⟨ok, dkL_rng j hj⟩
  have HKL : Hid ((dkL j).length ≤ 20) := by have := dkL_len j hj; show _ ≤ _; omega
  obtain ⟨ka, kc, hkv⟩ := rv_shape OK1.rv
  obtain ⟨kl, hkl⟩ : ∃ kl, kl = (dkL j).length := ⟨_, rfl⟩
  rw [← hkl] at hkv
  subst hkv
  clear hkl ok
  go_wp2_with fail
  refine (belowC B g 3 w1 c1 (by omega)).mono ?_
  rintro e w2 ⟨q1, a0, a1, _, rfl, c2, g2⟩
  have a2 : q1 < 3 := a1 (by omega)
  clear a1
  go_wp2_with fail
  refine (belowC B g 6 w2 c2 (by omega)).mono ?_
  rintro e w3 ⟨q2, b0, b1, _, rfl, c3, g3⟩
  have b2 : q2 < 6 := b1 (by omega)
  clear b1
  have hm1 : 0 ≤ q1 * q2 := Int.mul_nonneg a0 b0
  have hm2 : q1 * q2 ≤ 12 := by
    have : q1 = 0 ∨ q1 = 1 ∨ q1 = 2 := by omega
    rcases this with rfl | rfl | rfl <;> omega
  have hw1 : IntKind.i64.wrap (q1 * q2) = q1 * q2 := by rw [IntKind.wrap_i64]; omega
  go_wp2_with fail
  refine (belowC B g 3 w3 c3 (by omega)).mono ?_
  rintro e w4 ⟨q3, d0, d1, _, rfl, c4, g4⟩
  have d2 : q3 < 3 := d1 (by omega)
  clear d1
  have hw2 : IntKind.i64.wrap (1 + q3) = 1 + q3 := by rw [IntKind.wrap_i64]; omega
  have O4 : OwN w4 W.heap.size (.slice ka kl kc) (dkL j) := ((OK1.low g2 hgW).low g3 hgW).low g4 hgW
  have G4 : w.grownBy w4 (some g) := grown_tr (grown_tr (grown_tr (grown_tr (ext_row XW _) g1) g2) g3) g4
  have R4 := grown_blk g4 (by have := HGL.out; omega) (grown_blk g3 (by have := HGL.out; omega) (grown_blk g2 (by have := HGL.out; omega) (grown_blk g1 (by have := HGL.out; omega) R0)))
  clear g1 g2 g3 g4 c1 c2 c3 R0 OK1 XW
  go_wp2_with fail
  refine (sCheckNewV (.slice ka kl kc) (dkL j) (q1 * q2) (1 + q3) w4 O4.rv (Nat.le_trans HKL.out (by omega))).mono ?_
  rintro e w5 ⟨tv, rfl, o5, b5⟩
  obtain ⟨R, hR⟩ : ∃ R, R = (newPD (dkL j) (q1 * q2) (1 + q3)).1 := ⟨_, rfl⟩
  have HGD : Hid (GoodC R) := by rw [hR]; exact good_new _ _ _ HKL.out
  rw [← hR] at o5 ⊢
  obtain ⟨ta, tc, htv⟩ := o5.shape
  obtain ⟨tl, htl⟩ : ∃ tl, tl = R.name.length := ⟨_, rfl⟩
  rw [← htl] at htv
  subst htv
  have HS : Hid (∀ V, V = w5.alloc (.cells #[.slice ta tl tc, .int .i64 R.ttl, .int .i64 R.most, .int .i64 R.st, .int .i64 R.age, .int .i64 R.fails] 24 (0, 0)) → KdS w B g w5.heap.size R (.slice ta tl tc) V) := fun V hV => by
    have X : Ext w4 V := by rw [hV]; exact (ext_below b5).tr (hE _ _)
    have hs5 : w4.heap.size ≤ w5.heap.size := b5.size
    have hs4 : w.heap.size < w4.heap.size := (Array.getElem?_eq_some_iff.1 R4).1
    exact ⟨⟨by rw [hV]; exact heap_alloc_new _ _, (by rw [hV]; exact (o5.ext (hE _ _)).base (by omega) : OwB V w.heap.size _ _)⟩, c4.ext X, grown_tr G4 (ext_row X _), ext_blk X R4, HGL.out, by omega⟩
  clear b5 c4 hR htl o5 R4 G4 O4 hw1 hw2
  go_upto_region 2 with fail
  generalize hV : w5.alloc _ = V
  have S0 := HS.out V hV.symm
  clear hV HS
  have HBX : Hid (w.heap.size < w5.heap.size) := S0.wb
  generalize w5.heap.size = bx at *
  go_wp2_with fail
  refine (belowC B g 6 V S0.cur (by omega)).mono ?_
  rintro e w6 ⟨nq, n0, n1, _, rfl, c6, g6⟩
  have n2 : nq < 6 := n1 (by omega)
  obtain ⟨nn, rfl⟩ := Int.eq_ofNat_of_zero_le n0
  have S1 := hideR (S0.turn c6 g6)
  clear S0 c6 g6 n1 a0 a2 b0 b2 d0 d2 hm1 hm2
  go_wp2
  go_loopw [6] (fun i wr => ∃ (k : Nat) (C : DChk) (tv : Value), k ≤ nn ∧ i = .int .i64 k ∧ Hid (GoodC C) ∧ Hid (KdS w B g bx C tv wr)) (fun i _ => nn - (intOf i).toNat)
  case atStart => exact ⟨0, R, _, Nat.zero_le _, rfl, HGD, S1⟩
  case round =>
    obtain ⟨k, C, tv, hk, rfl, hG, hS⟩ := hrel
    clear S1 HGD
    by_cases hlt : k < nn
    · have hlt' : (k : Int) < (nn : Int) := by omega
      have HCL : Hid (C.name.length ≤ 1048576) := Nat.le_trans hG.out.1 (by omega)
      go_wp2_with fail
      refine (belowC B g 3 wr hS.out.cur (by omega)).mono ?_
      rintro e w7 ⟨sel, s0, s1, _, rfl, c7, g7⟩
      have s2 : sel < 3 := s1 (by omega)
      have S7 := hideR (hS.out.turn c7 g7)
      clear c7 g7 s1 hS
      have hsel : sel = 0 ∨ sel = 1 ∨ sel = 2 := by omega
      rcases hsel with rfl | rfl | rfl
      · obtain ⟨x0, x1, x2, x3, x4, x5⟩ := cells6 S7.out.box.1
        go_wp2_with fail
        refine (sCheckPassV _ C w7 ⟨_, rfl, S7.out.box.2.rv⟩ HCL.out).mono ?_
        rintro e w8 ⟨tv2, rfl, o8, b8⟩
        obtain ⟨R2, hR2⟩ : ∃ R2, R2 = (passPD C).1 := ⟨_, rfl⟩
        have HG2 : Hid (GoodC R2) := by rw [hR2]; exact good_pass hG.out
        rw [← hR2] at o8 ⊢
        obtain ⟨ta2, tc2, htv2⟩ := o8.shape
        obtain ⟨tl2, htl2⟩ : ∃ tl, tl = R2.name.length := ⟨_, rfl⟩
        rw [← htl2] at htv2
        subst htv2
        have HL := hideR (S7.out.lay (ext_below b8) o8)
        obtain ⟨y0, y1, y2, y3, y4, y5⟩ := cells6 (S7.out.ext (ext_below b8)).box.1
        have ff0 := (at_block (S7.out.ext (ext_below b8)).box.1 0 _ rfl).2
        have ff1 := (at_block (S7.out.ext (ext_below b8)).box.1 1 _ rfl).2
        have ff2 := (at_block (S7.out.ext (ext_below b8)).box.1 2 _ rfl).2
        have ff3 := (at_block (S7.out.ext (ext_below b8)).box.1 3 _ rfl).2
        have ff4 := (at_block (S7.out.ext (ext_below b8)).box.1 4 _ rfl).2
        have ff5 := (at_block (S7.out.ext (ext_below b8)).box.1 5 _ rfl).2
        clear x0 x1 x2 x3 x4 x5 S7 b8 o8 hR2 htl2
        go_wp2
        go_roundw
        case rel => exact ⟨k + 1, R2, _, by omega, by go_num, HG2, HL⟩
        case measure => simp [intOf]; omega
      · obtain ⟨x0, x1, x2, x3, x4, x5⟩ := cells6 S7.out.box.1
        go_wp2_with fail
        refine (sCheckFailV _ C w7 ⟨_, rfl, S7.out.box.2.rv⟩ HCL.out).mono ?_
        rintro e w8 ⟨tv2, rfl, o8, b8⟩
        obtain ⟨R2, hR2⟩ : ∃ R2, R2 = (failPD C).1 := ⟨_, rfl⟩
        have HG2 : Hid (GoodC R2) := by rw [hR2]; exact good_fail hG.out
        rw [← hR2] at o8 ⊢
        obtain ⟨ta2, tc2, htv2⟩ := o8.shape
        obtain ⟨tl2, htl2⟩ : ∃ tl, tl = R2.name.length := ⟨_, rfl⟩
        rw [← htl2] at htv2
        subst htv2
        have HL := hideR (S7.out.lay (ext_below b8) o8)
        obtain ⟨y0, y1, y2, y3, y4, y5⟩ := cells6 (S7.out.ext (ext_below b8)).box.1
        have ff0 := (at_block (S7.out.ext (ext_below b8)).box.1 0 _ rfl).2
        have ff1 := (at_block (S7.out.ext (ext_below b8)).box.1 1 _ rfl).2
        have ff2 := (at_block (S7.out.ext (ext_below b8)).box.1 2 _ rfl).2
        have ff3 := (at_block (S7.out.ext (ext_below b8)).box.1 3 _ rfl).2
        have ff4 := (at_block (S7.out.ext (ext_below b8)).box.1 4 _ rfl).2
        have ff5 := (at_block (S7.out.ext (ext_below b8)).box.1 5 _ rfl).2
        clear x0 x1 x2 x3 x4 x5 S7 b8 o8 hR2 htl2
        go_wp2
        go_roundw
        case rel => exact ⟨k + 1, R2, _, by omega, by go_num, HG2, HL⟩
        case measure => simp [intOf]; omega
      · go_wp2_with fail
        refine (belowC B g 5 w7 S7.out.cur (by omega)).mono ?_
        rintro e w8 ⟨tn, t0, t1, _, rfl, c8, g8⟩
        have t2 : tn < 5 := t1 (by omega)
        have S8 := hideR (S7.out.turn c8 g8)
        clear c8 g8 S7 t1
        go_wp2_with fail
        refine (sTickG bx w.heap.size C tv tn w8 S8.out.box hG.out t0 (by omega)).mono ?_
        rintro e w9 ⟨tb, rfl, b9, g9⟩
        have S9 := hideR (S8.out.store b9 g9)
        have HG2 := hideR (good_tick tn hG.out t0)
        clear b9 g9 S8
        go_wp2
        go_roundw
        case rel => exact ⟨k + 1, _, tv, by omega, by go_num, HG2, S9⟩
        case measure => simp [intOf]; omega
    · have hkn : k = nn := by omega
      subst hkn
      obtain ⟨x0, x1, x2, x3, x4, x5⟩ := cells6 hS.out.box.1
      obtain ⟨r0, f0⟩ := at_block hS.out.res 0 _ rfl
      obtain ⟨r1, f1⟩ := at_block hS.out.res 1 _ rfl
      obtain ⟨r2, f2⟩ := at_block hS.out.res 2 _ rfl
      obtain ⟨r3, f3⟩ := at_block hS.out.res 3 _ rfl
      obtain ⟨r4, f4⟩ := at_block hS.out.res 4 _ rfl
      obtain ⟨r5, f5⟩ := at_block hS.out.res 5 _ rfl
      obtain ⟨pa, pc, hpv⟩ := hS.out.box.2.shape
      obtain ⟨pn, hpn⟩ : ∃ pn, pn = C.name.length := ⟨_, rfl⟩
      rw [← hpn] at hpv
      subst hpv
      have hne1 : w.heap.size ≠ bx := by have := HBX.out; omega
      have hne2 : bx ≠ w.heap.size := by have := HBX.out; omega
      have HF : Hid (ChkDrawn GoodC w B g (.returned (.agg #[.slice pa pn pc, .int .i64 C.ttl, .int .i64 C.most, .int .i64 C.st, .int .i64 C.age, .int .i64 C.fails])) ((((((wr.setCell ⟨w.heap.size, 0, none⟩ (.slice pa pn pc)).setCell ⟨w.heap.size, 1, none⟩ (.int .i64 C.ttl)).setCell ⟨w.heap.size, 2, none⟩ (.int .i64 C.most)).setCell ⟨w.heap.size, 3, none⟩ (.int .i64 C.st)).setCell ⟨w.heap.size, 4, none⟩ (.int .i64 C.age)).setCell ⟨w.heap.size, 5, none⟩ (.int .i64 C.fails))) := by
        have hs : wr.grownBy ((((((wr.setCell ⟨w.heap.size, 0, none⟩ (.slice pa pn pc)).setCell ⟨w.heap.size, 1, none⟩ (.int .i64 C.ttl)).setCell ⟨w.heap.size, 2, none⟩ (.int .i64 C.most)).setCell ⟨w.heap.size, 3, none⟩ (.int .i64 C.st)).setCell ⟨w.heap.size, 4, none⟩ (.int .i64 C.age)).setCell ⟨w.heap.size, 5, none⟩ (.int .i64 C.fails)) (some w.heap.size) := ((((((set_grown _ _ _ _).trans (set_grown _ _ _ _)).trans (set_grown _ _ _ _)).trans (set_grown _ _ _ _)).trans (set_grown _ _ _ _)).trans (set_grown _ _ _ _))
        exact ⟨C, _, rfl, (hS.out.box.2.keep hs (.inr (fun e => ne_rowB hS.out.box.2 hS.out.res (by decide) e.symm))).n, hG.out, hS.out.cur.off hs HGL.out, grown_both hS.out.low hs (Nat.le_refl _)⟩
      clear hpn hS hk hG HBX HGL HC sW hgW
      generalize w.heap.size = rb at *
      go_wp2
      exact bodyPost_ret (v := .agg #[.slice pa pn pc, .int .i64 C.ttl, .int .i64 C.most, .int .i64 C.st, .int .i64 C.age, .int .i64 C.fails]) (by simp [results, Try.results22, go_sem, *]) rfl HF.out

end Go.Proofs.Ytihlinhfnlfdmaa
