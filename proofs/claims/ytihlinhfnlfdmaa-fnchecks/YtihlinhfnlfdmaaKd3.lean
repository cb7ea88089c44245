
/- Draws of checks that may be bent: the specification's l13bent. -/
import Derived.Test.YtihlinhfnlfdmaaKd2
import Derived.Lib.SlBytesConst
namespace Go.Proofs.Ytihlinhfnlfdmaa
open Go.RowKit

theorem OwN.keep {w w' : World} {base : Nat} {v : Value} {xs : List Int} {row : Option Nat} (h : OwN w base v xs) (k : w.grownBy w' row) (hn : v.ownBlock = none ∨ v.ownBlock ≠ row) : OwN w' base v xs := ⟨h.1.kept k hn, h.2⟩
theorem neN {W : World} {base b : Nat} {v : Value} {xs : List Int} {cs : Array Value} {t : TypeId} (o : OwN W base v xs) (h : W.heap[b]? = some (.cells cs t (0, 0))) (ht : t ≠ 5) : v.ownBlock = none ∨ v.ownBlock ≠ some b := by
  rcases o.1 with ⟨rfl, _⟩ | ⟨k, c, cur, fz, rfl, _, hg, _⟩
  · exact .inl rfl
  · right
    intro e
    simp only [Value.ownBlock, Option.some.injEq] at e
    subst e
    rw [h] at hg
    simp only [Option.some.injEq, Obj.cells.injEq] at hg
    exact ht hg.2.1
/-- What is carried while a drawn check is bent. -/
structure KdN (w : World) (B g bx : Nat) (C : DChk) (tv : Value) (W : World) : Prop where
  box : W.heap[bx]? = some (.cells #[tv, .int .i64 C.ttl, .int .i64 C.most, .int .i64 C.st, .int .i64 C.age, .int .i64 C.fails] 24 (0, 0))
  own : OwN W w.heap.size tv C.name
  len : C.name.length ≤ 20
  cur : Cur W B g
  low : w.grownBy W (some g)
  res : W.heap[w.heap.size]? = some (.cells #[.slice none 0 0, .int .i64 0, .int .i64 0, .int .i64 0, .int .i64 0, .int .i64 0] 24 (0, 0))
  gw : g < w.heap.size
  wb : w.heap.size < bx
variable {w W W' : World} {B g bx : Nat} {C C' : DChk} {tv tv' : Value}
theorem KdN.turn (h : KdN w B g bx C tv W) (c : Cur W' B g) (k : W.grownBy W' (some g)) : KdN w B g bx C tv W' :=
  ⟨grown_blk k (by have := h.gw; have := h.wb; omega) h.box, h.own.low k h.gw, h.len, c, grown_tr h.low k, grown_blk k (by have := h.gw; omega) h.res, h.gw, h.wb⟩
theorem KdN.ext (h : KdN w B g bx C tv W) (e : Ext W W') : KdN w B g bx C tv W' := h.turn (h.cur.ext e) (ext_row e _)
theorem KdN.store (h : KdN w B g bx C tv W) (b : W'.heap[bx]? = some (.cells #[tv', .int .i64 C'.ttl, .int .i64 C'.most, .int .i64 C'.st, .int .i64 C'.age, .int .i64 C'.fails] 24 (0, 0))) (o : OwN W' w.heap.size tv' C'.name) (l : C'.name.length ≤ 20) (k : W.grownBy W' (some bx)) : KdN w B g bx C' tv' W' :=
  ⟨b, o, l, h.cur.off k (by have := h.gw; have := h.wb; omega), grown_both h.low k (by have := h.wb; omega), grown_blk k (by have := h.wb; omega) h.res, h.gw, h.wb⟩
theorem KdN.ttl (h : KdN w B g bx C tv W) (x : Int) : KdN w B g bx ⟨C.name, x, C.most, C.st, C.age, C.fails⟩ tv (W.setCell ⟨bx, 1, none⟩ (.int .i64 x)) := h.store (set_block h.box 1 _) (h.own.keep (set_grown _ _ _ _) (neN h.own h.box (by decide))) h.len (set_grown _ _ _ _)
theorem KdN.most (h : KdN w B g bx C tv W) (x : Int) : KdN w B g bx ⟨C.name, C.ttl, x, C.st, C.age, C.fails⟩ tv (W.setCell ⟨bx, 2, none⟩ (.int .i64 x)) := h.store (set_block h.box 2 _) (h.own.keep (set_grown _ _ _ _) (neN h.own h.box (by decide))) h.len (set_grown _ _ _ _)
theorem KdN.st (h : KdN w B g bx C tv W) (x : Int) : KdN w B g bx ⟨C.name, C.ttl, C.most, x, C.age, C.fails⟩ tv (W.setCell ⟨bx, 3, none⟩ (.int .i64 x)) := h.store (set_block h.box 3 _) (h.own.keep (set_grown _ _ _ _) (neN h.own h.box (by decide))) h.len (set_grown _ _ _ _)
theorem KdN.age (h : KdN w B g bx C tv W) (x : Int) : KdN w B g bx ⟨C.name, C.ttl, C.most, C.st, x, C.fails⟩ tv (W.setCell ⟨bx, 4, none⟩ (.int .i64 x)) := h.store (set_block h.box 4 _) (h.own.keep (set_grown _ _ _ _) (neN h.own h.box (by decide))) h.len (set_grown _ _ _ _)
theorem KdN.fails (h : KdN w B g bx C tv W) (x : Int) : KdN w B g bx ⟨C.name, C.ttl, C.most, C.st, C.age, x⟩ tv (W.setCell ⟨bx, 5, none⟩ (.int .i64 x)) := h.store (set_block h.box 5 _) (h.own.keep (set_grown _ _ _ _) (neN h.own h.box (by decide))) h.len (set_grown _ _ _ _)
theorem KdN.name (h : KdN w B g bx C tv W) (o : OwN W w.heap.size tv' C'.name) (l : C'.name.length ≤ 20) (h1 : C'.ttl = C.ttl) (h2 : C'.most = C.most) (h3 : C'.st = C.st) (h4 : C'.age = C.age) (h5 : C'.fails = C.fails) : KdN w B g bx C' tv' (W.setCell ⟨bx, 0, none⟩ tv') :=
  h.store (by rw [h1, h2, h3, h4, h5]; exact set_block h.box 0 _) (o.keep (set_grown _ _ _ _) (neN o h.box (by decide))) l (set_grown _ _ _ _)
theorem KdN.fin (h : KdN w B g bx C tv W) : ChkDrawn (fun C => C.name.length ≤ 20) w B g (.returned (.agg #[tv, .int .i64 C.ttl, .int .i64 C.most, .int .i64 C.st, .int .i64 C.age, .int .i64 C.fails])) ((((((W.setCell ⟨w.heap.size, 0, none⟩ (tv)).setCell ⟨w.heap.size, 1, none⟩ (.int .i64 C.ttl)).setCell ⟨w.heap.size, 2, none⟩ (.int .i64 C.most)).setCell ⟨w.heap.size, 3, none⟩ (.int .i64 C.st)).setCell ⟨w.heap.size, 4, none⟩ (.int .i64 C.age)).setCell ⟨w.heap.size, 5, none⟩ (.int .i64 C.fails)) := by
  have hs : W.grownBy ((((((W.setCell ⟨w.heap.size, 0, none⟩ (tv)).setCell ⟨w.heap.size, 1, none⟩ (.int .i64 C.ttl)).setCell ⟨w.heap.size, 2, none⟩ (.int .i64 C.most)).setCell ⟨w.heap.size, 3, none⟩ (.int .i64 C.st)).setCell ⟨w.heap.size, 4, none⟩ (.int .i64 C.age)).setCell ⟨w.heap.size, 5, none⟩ (.int .i64 C.fails)) (some w.heap.size) := ((((((set_grown _ _ _ _).trans (set_grown _ _ _ _)).trans (set_grown _ _ _ _)).trans (set_grown _ _ _ _)).trans (set_grown _ _ _ _)).trans (set_grown _ _ _ _))
  exact ⟨C, tv, rfl, h.own.keep hs (neN h.own h.res (by decide)), h.len, h.cur.off hs h.gw, grown_both h.low hs (Nat.le_refl _)⟩

set_option maxRecDepth 20000 in
set_option maxHeartbeats 4000000 in
theorem bentKC (B g : Nat) (w : World) (hc : Cur w B g) :
    Calls Try.prog 13 #[.pointer (some ⟨g, 0, none⟩)] w (ChkDrawn (fun C => C.name.length ≤ 20) w B g) := by
  have hE : ∀ w : World, ∀ o, Ext w (w.alloc o) := fun w o => World.grownBy_alloc _ _ _
  have HC := hideR hc
  have HGL : Hid (g < w.heap.size) := (cur_in hc).1
  clear hc
  go_enter Try.func13, Try.ntmps13
  go_wp2_with fail
  generalize hW : World.alloc w _ = W
  have XW : Ext w W := by rw [← hW]; exact hE _ _
  have R0 : W.heap[w.heap.size]? = some (.cells #[.slice none 0 0, .int .i64 0, .int .i64 0, .int .i64 0, .int .i64 0, .int .i64 0] 24 (0, 0)) := by rw [← hW]; exact heap_alloc_new w _
  clear hW
  refine (drawKC B g W (HC.out.ext XW)).mono ?_
  rintro e w1 ⟨C, tv, rfl, o1, gd, c1, g1⟩
  obtain ⟨ta, tc, htv⟩ := rv_shape o1.rv
  obtain ⟨tl, htl⟩ : ∃ tl, tl = C.name.length := ⟨_, rfl⟩
  rw [← htl] at htv
  subst htv
  have HS : Hid (∀ V, V = w1.alloc (.cells #[.slice ta tl tc, .int .i64 C.ttl, .int .i64 C.most, .int .i64 C.st, .int .i64 C.age, .int .i64 C.fails] 24 (0, 0)) → KdN w B g w1.heap.size C (.slice ta tl tc) V) := fun V hV => by
    have X : Ext w1 V := by rw [hV]; exact hE _ _
    have sW : w.heap.size < W.heap.size := (Array.getElem?_eq_some_iff.1 R0).1
    have s1 := g1.size
    exact ⟨by rw [hV]; exact heap_alloc_new _ _, (o1.ext X).base (by omega), gd.1, c1.ext X, grown_tr (grown_tr (ext_row XW _) g1) (ext_row X _), ext_blk X (grown_blk g1 (by have := HGL.out; omega) R0), HGL.out, by omega⟩
  clear htl o1 gd c1 g1 R0 XW
  go_upto_region 2 with fail
  generalize hV : w1.alloc _ = V
  have S0 := HS.out V hV.symm
  clear hV HS
  have HBX : Hid (w.heap.size < w1.heap.size) := S0.wb
  generalize w1.heap.size = bx at *
  go_wp2_with fail
  refine (onceC B g 7 V S0.cur (by omega)).mono ?_
  rintro e w2 ⟨y, rfl, c2, g2⟩
  have S2 := hideR (S0.turn c2 g2)
  clear S0 c2 g2
  cases y
  ·
    obtain ⟨x0, x1, x2, x3, x4, x5⟩ := cells6 S2.out.box
    obtain ⟨r0, f0⟩ := at_block S2.out.res 0 _ rfl
    obtain ⟨r1, f1⟩ := at_block S2.out.res 1 _ rfl
    obtain ⟨r2, f2⟩ := at_block S2.out.res 2 _ rfl
    obtain ⟨r3, f3⟩ := at_block S2.out.res 3 _ rfl
    obtain ⟨r4, f4⟩ := at_block S2.out.res 4 _ rfl
    obtain ⟨r5, f5⟩ := at_block S2.out.res 5 _ rfl
    have HF := hideR S2.out.fin
    have hne1 : w.heap.size ≠ bx := by have := HBX.out; omega
    have hne2 : bx ≠ w.heap.size := by have := HBX.out; omega
    clear S2 HBX HGL HC
    generalize w.heap.size = rb at *
    go_wp2
    exact bodyPost_ret (v := .agg #[.slice ta tl tc, .int .i64 C.ttl, .int .i64 C.most, .int .i64 C.st, .int .i64 C.age, .int .i64 C.fails]) (by simp [results, Try.results13, go_sem, *]) rfl HF.out
  go_wp2_with fail
  refine (belowC B g 6 w2 S2.out.cur (by omega)).mono ?_
  rintro e w3 ⟨sel, s0, s1, _, rfl, c3, g3⟩
  have s2 : sel < 6 := s1 (by omega)
  have S3 := hideR (S2.out.turn c3 g3)
  clear c3 g3 s1 S2
  have hsel : sel = 0 ∨ sel = 1 ∨ sel = 2 ∨ sel = 3 ∨ sel = 4 ∨ sel = 5 := by omega
  have HGB : Hid (g < bx) := by have := HGL.out; have := HBX.out; show _ < _; omega
  rcases hsel with rfl | rfl | rfl | rfl | rfl | rfl
  · have kc := fun (w : World) (C : Array Value) (n c : Nat) => Lib.run_convert_bytes_const (P := Try.prog) w 22 5 C n c Try.underlying22 Try.underlying5
    have HZ : Hid (∀ U, U = w3.alloc (.cells #[.int .u8 65] 5 (1, 1 + 1)) → KdN w B g bx C (.slice ta tl tc) U ∧ KdN w B g bx ⟨[65], C.ttl, C.most, C.st, C.age, C.fails⟩ (.slice (some ⟨w3.heap.size, 0, none⟩) 1 1) (U.setCell ⟨bx, 0, none⟩ (.slice (some ⟨w3.heap.size, 0, none⟩) 1 1))) := fun U hU => by
      have X : Ext w3 U := by rw [hU]; exact hE _ _
      have o : OwN U w3.heap.size (.slice (some ⟨w3.heap.size, 0, none⟩) 1 1) [65] := ⟨.inr ⟨w3.heap.size, 1, #[.int .u8 65], (1, 1 + 1), rfl, Nat.le_refl _, by rw [hU]; exact heap_alloc_new _ _, .inr (Nat.le_refl _), by decide, by decide, rfl, rfl⟩, by decide⟩
      exact ⟨S3.out.ext X, KdN.name (C' := ⟨[65], C.ttl, C.most, C.st, C.age, C.fails⟩) (S3.out.ext X) (o.base S3.out.low.size) (by show 1 ≤ 20; omega) rfl rfl rfl rfl rfl⟩
    have HB3 := hideR (HZ.out _ rfl).1.box
    have gg0 := (at_block HB3.out 0 _ rfl).2
    have y0 := (at_block HB3.out 0 _ rfl).1
    clear S3
    go_upto_region 16 with fail
    generalize hV2 : World.setCell _ _ _ = V2
    have S5 := hideR (HZ.out _ rfl).2
    rw [hV2] at S5
    clear hV2 HZ y0 gg0 HB3
    generalize w3.heap.size = nb at *
    obtain ⟨x0, x1, x2, x3, x4, x5⟩ := cells6 S5.out.box
    obtain ⟨r0, f0⟩ := at_block S5.out.res 0 _ rfl
    obtain ⟨r1, f1⟩ := at_block S5.out.res 1 _ rfl
    obtain ⟨r2, f2⟩ := at_block S5.out.res 2 _ rfl
    obtain ⟨r3, f3⟩ := at_block S5.out.res 3 _ rfl
    obtain ⟨r4, f4⟩ := at_block S5.out.res 4 _ rfl
    obtain ⟨r5, f5⟩ := at_block S5.out.res 5 _ rfl
    have HF := hideR S5.out.fin
    have hne1 : w.heap.size ≠ bx := by have := HBX.out; omega
    have hne2 : bx ≠ w.heap.size := by have := HBX.out; omega
    clear S5 HBX HGL HC
    generalize w.heap.size = rb at *
    go_wp2
    exact bodyPost_ret (v := .agg #[.slice (some ⟨nb, 0, none⟩) 1 1, .int .i64 C.ttl, .int .i64 C.most, .int .i64 C.st, .int .i64 C.age, .int .i64 C.fails]) (by simp [results, Try.results13, go_sem, *]) rfl HF.out
  · have HP : Hid (∀ U, U = w3.alloc (.cells #[.int .i64 (-1), .int .i64 0, .int .i64 1, .int .i64 1000, .int .i64 1001] 3) → Calls Try.prog 14 #[.pointer (some ⟨g, 0, none⟩), .slice (some ⟨w3.heap.size, 0, none⟩) 5 5] U fun e w' => ∃ q, IsInt q ∧ e = .returned (.int .i64 q) ∧ Hid (KdN w B g bx C (.slice ta tl tc) w')) := fun U hU => by
      have X : Ext w3 U := by rw [hU]; exact hE _ _
      have hz := lit_cells w3 [-1, 0, 1, 1000, 1001] #[.int .i64 (-1), .int .i64 0, .int .i64 1, .int .i64 1000, .int .i64 1001] 3 rfl (by simp [IsInt])
      rw [← hU] at hz
      exact (pickC B g w3.heap.size 5 U (S3.out.cur.ext X) (by omega) (by omega) (by have := (cur_in S3.out.cur).1; omega) hz).mono fun e w' ⟨q, h1, h2, h3, h4⟩ => ⟨q, h1, h2, (S3.out.ext X).turn h3 h4⟩
    go_wp2_with fail
    refine (HP.out _ rfl).mono ?_
    rintro e w4 ⟨q, hq, rfl, S4⟩
    clear HP S3
    have HZ := hideR (S4.out.ttl q)
    obtain ⟨y0, y1, y2, y3, y4, y5⟩ := cells6 S4.out.box
    have gg1 := (at_block S4.out.box 1 _ rfl).2
    clear S4
    go_upto_region 16 with fail
    generalize hV2 : World.setCell _ _ (Value.int .i64 q) = V2
    have S5 := hideR HZ.out
    rw [hV2] at S5
    clear hV2 HZ y0 y1 y2 y3 y4 y5 gg1
    obtain ⟨x0, x1, x2, x3, x4, x5⟩ := cells6 S5.out.box
    obtain ⟨r0, f0⟩ := at_block S5.out.res 0 _ rfl
    obtain ⟨r1, f1⟩ := at_block S5.out.res 1 _ rfl
    obtain ⟨r2, f2⟩ := at_block S5.out.res 2 _ rfl
    obtain ⟨r3, f3⟩ := at_block S5.out.res 3 _ rfl
    obtain ⟨r4, f4⟩ := at_block S5.out.res 4 _ rfl
    obtain ⟨r5, f5⟩ := at_block S5.out.res 5 _ rfl
    have HF := hideR S5.out.fin
    have hne1 : w.heap.size ≠ bx := by have := HBX.out; omega
    have hne2 : bx ≠ w.heap.size := by have := HBX.out; omega
    clear S5 HBX HGL HC
    generalize w.heap.size = rb at *
    go_wp2
    exact bodyPost_ret (v := .agg #[.slice ta tl tc, .int .i64 q, .int .i64 C.most, .int .i64 C.st, .int .i64 C.age, .int .i64 C.fails]) (by simp [results, Try.results13, go_sem, *]) rfl HF.out
  · have HP : Hid (∀ U, U = w3.alloc (.cells #[.int .i64 0, .int .i64 1, .int .i64 5, .int .i64 6] 3) → Calls Try.prog 14 #[.pointer (some ⟨g, 0, none⟩), .slice (some ⟨w3.heap.size, 0, none⟩) 4 4] U fun e w' => ∃ q, IsInt q ∧ e = .returned (.int .i64 q) ∧ Hid (KdN w B g bx C (.slice ta tl tc) w')) := fun U hU => by
      have X : Ext w3 U := by rw [hU]; exact hE _ _
      have hz := lit_cells w3 [0, 1, 5, 6] #[.int .i64 0, .int .i64 1, .int .i64 5, .int .i64 6] 3 rfl (by simp [IsInt])
      rw [← hU] at hz
      exact (pickC B g w3.heap.size 4 U (S3.out.cur.ext X) (by omega) (by omega) (by have := (cur_in S3.out.cur).1; omega) hz).mono fun e w' ⟨q, h1, h2, h3, h4⟩ => ⟨q, h1, h2, (S3.out.ext X).turn h3 h4⟩
    go_wp2_with fail
    refine (HP.out _ rfl).mono ?_
    rintro e w4 ⟨q, hq, rfl, S4⟩
    clear HP S3
    have HZ := hideR (S4.out.most q)
    obtain ⟨y0, y1, y2, y3, y4, y5⟩ := cells6 S4.out.box
    have gg2 := (at_block S4.out.box 2 _ rfl).2
    clear S4
    go_upto_region 16 with fail
    generalize hV2 : World.setCell _ _ (Value.int .i64 q) = V2
    have S5 := hideR HZ.out
    rw [hV2] at S5
    clear hV2 HZ y0 y1 y2 y3 y4 y5 gg2
    obtain ⟨x0, x1, x2, x3, x4, x5⟩ := cells6 S5.out.box
    obtain ⟨r0, f0⟩ := at_block S5.out.res 0 _ rfl
    obtain ⟨r1, f1⟩ := at_block S5.out.res 1 _ rfl
    obtain ⟨r2, f2⟩ := at_block S5.out.res 2 _ rfl
    obtain ⟨r3, f3⟩ := at_block S5.out.res 3 _ rfl
    obtain ⟨r4, f4⟩ := at_block S5.out.res 4 _ rfl
    obtain ⟨r5, f5⟩ := at_block S5.out.res 5 _ rfl
    have HF := hideR S5.out.fin
    have hne1 : w.heap.size ≠ bx := by have := HBX.out; omega
    have hne2 : bx ≠ w.heap.size := by have := HBX.out; omega
    clear S5 HBX HGL HC
    generalize w.heap.size = rb at *
    go_wp2
    exact bodyPost_ret (v := .agg #[.slice ta tl tc, .int .i64 C.ttl, .int .i64 q, .int .i64 C.st, .int .i64 C.age, .int .i64 C.fails]) (by simp [results, Try.results13, go_sem, *]) rfl HF.out
  · go_wp2_with fail
    refine (belowC B g 5 w3 S3.out.cur (by omega)).mono ?_
    rintro e w4 ⟨r, r0, r1, _, rfl, c4, g4⟩
    have r2 : r < 5 := r1 (by omega)
    have S4 := hideR (S3.out.turn c4 g4)
    have hw : IntKind.i64.wrap (r - 1) = r - 1 := by rw [IntKind.wrap_i64]; omega
    clear c4 g4 r1 S3
    have HZ := hideR (S4.out.st (r - 1))
    obtain ⟨y0, y1, y2, y3, y4, y5⟩ := cells6 S4.out.box
    have gg3 := (at_block S4.out.box 3 _ rfl).2
    clear S4
    go_upto_region 16 with fail
    generalize hV2 : World.setCell _ _ (Value.int .i64 (r - 1)) = V2
    have S5 := hideR HZ.out
    rw [hV2] at S5
    clear hV2 HZ y0 y1 y2 y3 y4 y5 gg3
    clear hw r0
    obtain ⟨x0, x1, x2, x3, x4, x5⟩ := cells6 S5.out.box
    obtain ⟨r0, f0⟩ := at_block S5.out.res 0 _ rfl
    obtain ⟨r1, f1⟩ := at_block S5.out.res 1 _ rfl
    obtain ⟨r2, f2⟩ := at_block S5.out.res 2 _ rfl
    obtain ⟨r3, f3⟩ := at_block S5.out.res 3 _ rfl
    obtain ⟨r4, f4⟩ := at_block S5.out.res 4 _ rfl
    obtain ⟨r5, f5⟩ := at_block S5.out.res 5 _ rfl
    have HF := hideR S5.out.fin
    have hne1 : w.heap.size ≠ bx := by have := HBX.out; omega
    have hne2 : bx ≠ w.heap.size := by have := HBX.out; omega
    clear S5 HBX HGL HC
    generalize w.heap.size = rb at *
    go_wp2
    exact bodyPost_ret (v := .agg #[.slice ta tl tc, .int .i64 C.ttl, .int .i64 C.most, .int .i64 (r - 1), .int .i64 C.age, .int .i64 C.fails]) (by simp [results, Try.results13, go_sem, *]) rfl HF.out
  · have HP : Hid (∀ U, U = w3.alloc (.cells #[.int .i64 (-1), .int .i64 3, .int .i64 1000, .int .i64 1001] 3) → Calls Try.prog 14 #[.pointer (some ⟨g, 0, none⟩), .slice (some ⟨w3.heap.size, 0, none⟩) 4 4] U fun e w' => ∃ q, IsInt q ∧ e = .returned (.int .i64 q) ∧ Hid (KdN w B g bx C (.slice ta tl tc) w')) := fun U hU => by
      have X : Ext w3 U := by rw [hU]; exact hE _ _
      have hz := lit_cells w3 [-1, 3, 1000, 1001] #[.int .i64 (-1), .int .i64 3, .int .i64 1000, .int .i64 1001] 3 rfl (by simp [IsInt])
      rw [← hU] at hz
      exact (pickC B g w3.heap.size 4 U (S3.out.cur.ext X) (by omega) (by omega) (by have := (cur_in S3.out.cur).1; omega) hz).mono fun e w' ⟨q, h1, h2, h3, h4⟩ => ⟨q, h1, h2, (S3.out.ext X).turn h3 h4⟩
    go_wp2_with fail
    refine (HP.out _ rfl).mono ?_
    rintro e w4 ⟨q, hq, rfl, S4⟩
    clear HP S3
    have HZ := hideR (S4.out.age q)
    obtain ⟨y0, y1, y2, y3, y4, y5⟩ := cells6 S4.out.box
    have gg4 := (at_block S4.out.box 4 _ rfl).2
    clear S4
    go_upto_region 16 with fail
    generalize hV2 : World.setCell _ _ (Value.int .i64 q) = V2
    have S5 := hideR HZ.out
    rw [hV2] at S5
    clear hV2 HZ y0 y1 y2 y3 y4 y5 gg4
    obtain ⟨x0, x1, x2, x3, x4, x5⟩ := cells6 S5.out.box
    obtain ⟨r0, f0⟩ := at_block S5.out.res 0 _ rfl
    obtain ⟨r1, f1⟩ := at_block S5.out.res 1 _ rfl
    obtain ⟨r2, f2⟩ := at_block S5.out.res 2 _ rfl
    obtain ⟨r3, f3⟩ := at_block S5.out.res 3 _ rfl
    obtain ⟨r4, f4⟩ := at_block S5.out.res 4 _ rfl
    obtain ⟨r5, f5⟩ := at_block S5.out.res 5 _ rfl
    have HF := hideR S5.out.fin
    have hne1 : w.heap.size ≠ bx := by have := HBX.out; omega
    have hne2 : bx ≠ w.heap.size := by have := HBX.out; omega
    clear S5 HBX HGL HC
    generalize w.heap.size = rb at *
    go_wp2
    exact bodyPost_ret (v := .agg #[.slice ta tl tc, .int .i64 C.ttl, .int .i64 C.most, .int .i64 C.st, .int .i64 q, .int .i64 C.fails]) (by simp [results, Try.results13, go_sem, *]) rfl HF.out
  · have HP : Hid (∀ U, U = w3.alloc (.cells #[.int .i64 (-1), .int .i64 0, .int .i64 1, .int .i64 9] 3) → Calls Try.prog 14 #[.pointer (some ⟨g, 0, none⟩), .slice (some ⟨w3.heap.size, 0, none⟩) 4 4] U fun e w' => ∃ q, IsInt q ∧ e = .returned (.int .i64 q) ∧ Hid (KdN w B g bx C (.slice ta tl tc) w')) := fun U hU => by
      have X : Ext w3 U := by rw [hU]; exact hE _ _
      have hz := lit_cells w3 [-1, 0, 1, 9] #[.int .i64 (-1), .int .i64 0, .int .i64 1, .int .i64 9] 3 rfl (by simp [IsInt])
      rw [← hU] at hz
      exact (pickC B g w3.heap.size 4 U (S3.out.cur.ext X) (by omega) (by omega) (by have := (cur_in S3.out.cur).1; omega) hz).mono fun e w' ⟨q, h1, h2, h3, h4⟩ => ⟨q, h1, h2, (S3.out.ext X).turn h3 h4⟩
    go_wp2_with fail
    refine (HP.out _ rfl).mono ?_
    rintro e w4 ⟨q, hq, rfl, S4⟩
    clear HP S3
    have HZ := hideR (S4.out.fails q)
    obtain ⟨y0, y1, y2, y3, y4, y5⟩ := cells6 S4.out.box
    have gg5 := (at_block S4.out.box 5 _ rfl).2
    clear S4
    go_upto_region 16 with fail
    generalize hV2 : World.setCell _ _ (Value.int .i64 q) = V2
    have S5 := hideR HZ.out
    rw [hV2] at S5
    clear hV2 HZ y0 y1 y2 y3 y4 y5 gg5
    obtain ⟨x0, x1, x2, x3, x4, x5⟩ := cells6 S5.out.box
    obtain ⟨r0, f0⟩ := at_block S5.out.res 0 _ rfl
    obtain ⟨r1, f1⟩ := at_block S5.out.res 1 _ rfl
    obtain ⟨r2, f2⟩ := at_block S5.out.res 2 _ rfl
    obtain ⟨r3, f3⟩ := at_block S5.out.res 3 _ rfl
    obtain ⟨r4, f4⟩ := at_block S5.out.res 4 _ rfl
    obtain ⟨r5, f5⟩ := at_block S5.out.res 5 _ rfl
    have HF := hideR S5.out.fin
    have hne1 : w.heap.size ≠ bx := by have := HBX.out; omega
    have hne2 : bx ≠ w.heap.size := by have := HBX.out; omega
    clear S5 HBX HGL HC
    generalize w.heap.size = rb at *
    go_wp2
    exact bodyPost_ret (v := .agg #[.slice ta tl tc, .int .i64 C.ttl, .int .i64 C.most, .int .i64 C.st, .int .i64 C.age, .int .i64 q]) (by simp [results, Try.results13, go_sem, *]) rfl HF.out
end Go.Proofs.Ytihlinhfnlfdmaa
