/- What FnWheels draws; a byte of the code; wheels held against one another. -/
import Derived.Test.YtgjffhcokadcdaaHqE
namespace Go.Proofs.Ytgjffhcokadcdaa
open Go.RowKit

theorem alloc_size1 (w : World) (o : Obj) : (w.alloc o).heap.size = w.heap.size + 1 := by simp
/-- Eight numbers lie in block b. -/
def Lit8 (U : World) (b : Nat) : Prop := ∃ (cs : Array Value) (zs : List Int), U.heap[b]? = some (.cells cs 3 (0, 0)) ∧ cs.toList = zs.map (Value.int .i64) ∧ zs.length = 8 ∧ ∀ z ∈ zs, IsInt z
theorem lit8_new (w : World) (cs : Array Value) (zs : List Int) (h1 : cs.toList = zs.map (Value.int .i64)) (h2 : zs.length = 8) (h3 : ∀ z ∈ zs, IsInt z) : Lit8 (w.alloc (.cells cs 3)) w.heap.size := ⟨cs, zs, heap_alloc_new w _, h1, h2, h3⟩
theorem Lit8.ext {w w' : World} {b : Nat} (h : Lit8 w b) (e : Ext w w') : Lit8 w' b := by
  obtain ⟨cs, zs, h0, h1, h2, h3⟩ := h
  exact ⟨cs, zs, (e.block b (Array.getElem?_eq_some_iff.1 h0).1 (by simp)).trans h0, h1, h2, h3⟩
theorem Lit8.row {w w' : World} {b g : Nat} (h : Lit8 w b) (e : w.grownBy w' (some g)) (hne : b ≠ g) : Lit8 w' b := by
  obtain ⟨cs, zs, h0, h1, h2, h3⟩ := h
  exact ⟨cs, zs, (e.block b (Array.getElem?_eq_some_iff.1 h0).1 (by simpa using hne)).trans h0, h1, h2, h3⟩
theorem pick8 (B g b : Nat) (U : World) (hc : Cur U B g) (hb : Lit8 U b) (hne : b ≠ g) : Calls Try.prog 16 #[.pointer (some ⟨g, 0, none⟩), .slice (some ⟨b, 0, none⟩) 8 8] U fun e w' => ∃ q, IsInt q ∧ e = .returned (.int .i64 q) ∧ Cur w' B g ∧ U.grownBy w' (some g) := by
  obtain ⟨cs, zs, h0, h1, h2, h3⟩ := hb
  refine pickC B g b 8 U hc (by omega) (by omega) hne (fun j hj => ⟨zs[j]'(by omega), h3 _ (List.getElem_mem _), ?_⟩)
  rw [cell_of_row U b j cs 3 (0, 0) h0]
  have : cs[j]? = (zs.map (Value.int .i64))[j]? := by rw [← h1]; simp
  rw [this]
  simp [show j < zs.length by omega]

/-- A wheel and two numbers, drawn. -/
def DrawS (w : World) (e : Ending) (w' : World) : Prop := ∃ now tv ts id after, e = .returned (.tuple #[.agg #[.int .i64 now, tv], .int .i64 id, .int .i64 after]) ∧ ts.length ≤ 60 ∧ OwT w' w.heap.size tv ts ∧ IsInt id ∧ IsInt after ∧ Below w.heap.size w w'

set_option maxRecDepth 20000 in
set_option maxHeartbeats 8000000 in
theorem drawS (a : Option Addr) (n cap : Nat) (xs : List Int) (w : World) (hr : Rd w a n xs) (hm : n ≤ maxLen) : Calls Try.prog 4 #[.slice a n cap] w (DrawS w) := by
  have hE : ∀ w : World, ∀ o, Ext w (w.alloc o) := fun w o => World.grownBy_alloc _ _ _
  go_enter Try.func4, Try.ntmps4
  go_wp2_with fail
  generalize hW : w.alloc _ = W
  have BW : Below w.heap.size w W := by rw [← hW]; exact (Below.refl _ w).alloc (Nat.le_refl _) _
  have PW : W.heap[w.heap.size]? = some (.cells #[.int .i64 0, .slice none 0 0] 25 (0, 0)) := by rw [← hW]; exact heap_alloc_new w _
  clear hW
  have hWl : w.heap.size < W.heap.size := (Array.getElem?_eq_some_iff.1 PW).1
  refine (newC a n cap xs W (hr.grown (ext_below BW)) hm).mono ?_
  rintro e w1 ⟨rfl, hc1, b1⟩
  have PW1 := below_blk b1 hWl PW
  have B1 : Below w.heap.size w w1 := BW.trans (b1.mono BW.size)
  obtain ⟨g, hg⟩ : ∃ g, g = W.heap.size := ⟨_, rfl⟩
  have hgw : w.heap.size < g := by omega
  rw [← hg] at hc1 ⊢
  have HC1 : Hid (Cur w1 g g) := hc1
  clear hc1 b1 hg hr BW PW
  go_wp2_with fail
  refine (bentC g g w1 HC1.out).mono ?_
  rintro e w2 ⟨now, tv, ts, rfl, hi, hl, o2, hc2, hg2⟩
  obtain ⟨ra, rc, rfl⟩ := o2.v.shape
  have hg1 : g < w1.heap.size := (cur_lt' HC1.out).1
  have HB2 : Hid (Below w.heap.size w w2) := B1.grown hg2 B1.size (fun k hk => by cases hk; omega)
  have HR2 : Hid (w2.heap[w.heap.size]? = some (.cells #[.int .i64 0, .slice none 0 0] 25 (0, 0))) := (hg2.block _ (by omega) (by simp; omega)).trans PW1
  have HS2 : Hid (∀ V, V = w2.alloc (.cells #[.int .i64 now, .slice ra ts.length rc] 25 (0, 0)) → V.heap[w2.heap.size]? = some (.cells #[.int .i64 now, .slice ra ts.length rc] 25 (0, 0)) ∧ OwT V w1.heap.size (.slice ra ts.length rc) ts ∧ Cur V g g ∧ Below w.heap.size w V ∧ V.heap[w.heap.size]? = some (.cells #[.int .i64 0, .slice none 0 0] 25 (0, 0))) := fun V hV => by
    subst hV
    exact ⟨heap_alloc_new w2 _, o2.alloc _, hc2.ext (hE _ _), HB2.out.alloc HB2.out.size _, (Below.heap_alloc w2 _ _ (Array.getElem?_eq_some_iff.1 HR2.out).1).trans HR2.out⟩
  have hs12 : w1.heap.size ≤ w2.heap.size := hg2.size
  have HL : Hid (ts.length ≤ 60) := hl
  clear hi hl o2 hc2 hg2 PW1 HR2
  go_wp2_with fail
  generalize hV : w2.alloc _ = V
  obtain ⟨p1, p2, p3, p4, p5⟩ := HS2.out V hV.symm
  have HVs : Hid (V.heap.size = w2.heap.size + 1) := by rw [← hV]; simp [Hid]
  clear hV HS2
  have hbV : w2.heap.size < V.heap.size := (Array.getElem?_eq_some_iff.1 p1).1
  have hgV : g < V.heap.size := (cur_lt' p3).1
  obtain ⟨hb, hhb⟩ : ∃ hb, hb = w2.heap.size := ⟨_, rfl⟩
  rw [← hhb] at p1 hbV ⊢
  have hbg : hb ≠ g := by omega
  have hbw : hb ≠ w.heap.size := by have := HB2.out.size; omega
  clear hhb HVs
  obtain ⟨lt, hlt0⟩ : ∃ lt, lt = ts.length := ⟨_, rfl⟩
  have HLT : Hid (lt = ts.length) := hlt0
  obtain ⟨z0, _⟩ := at_block p1 0 _ rfl
  obtain ⟨z1, _⟩ := at_block p1 1 _ rfl
  rw [← hlt0] at z1
  clear hlt0
  have HP2 : Hid (OwT V w1.heap.size (.slice ra lt rc) ts) := by rw [HLT.out]; exact p2
  have HP3 : Hid (Cur V g g) := p3
  have HP4 : Hid (Below w.heap.size w V) := p4
  have HP5 : Hid (V.heap[w.heap.size]? = some (.cells #[.int .i64 0, .slice none 0 0] 25 (0, 0))) := p5
  clear p1 p2 p3 p4 p5
  have HL1 : Hid (∀ U : World, Lit8 (U.alloc (.cells #[.int .i64 0, .int .i64 1, .int .i64 2, .int .i64 3, .int .i64 50, .int .i64 (-1), .int .i64 2147483647, .int .i64 2147483648] 3)) U.heap.size) := fun U => lit8_new U _ [0, 1, 2, 3, 50, -1, 2147483647, 2147483648] rfl rfl (by intro z hz; simp only [List.mem_cons, List.not_mem_nil, or_false] at hz; unfold IsInt; omega)
  have HL2 : Hid (∀ U : World, Lit8 (U.alloc (.cells #[.int .i64 1, .int .i64 2, .int .i64 5, .int .i64 9, .int .i64 0, .int .i64 (-1), .int .i64 1000000, .int .i64 1000001] 3)) U.heap.size) := fun U => lit8_new U _ [1, 2, 5, 9, 0, -1, 1000000, 1000001] rfl rfl (by intro z hz; simp only [List.mem_cons, List.not_mem_nil, or_false] at hz; unfold IsInt; omega)
  have HX : Hid (∀ o, Ext V (V.alloc o).drew) := fun o => (hE _ _).trans (ext_drewN _ 1)
  have HXX : Hid (∀ o o', Ext V ((V.alloc o).alloc o').drew) := fun o o' => ((hE _ _).trans (hE _ _)).trans (ext_drewN _ 1)
  have HCK : Hid (∀ U, V.grownBy U (some g) → U.cell? ⟨hb, 0, none⟩ = some (.int .i64 now) ∧ U.cell? ⟨hb, 1, none⟩ = some (.slice ra lt rc)) := fun U hU => ⟨hU.cell z0 (by simpa using hbg), hU.cell z1 (by simpa using hbg)⟩
  have kA0 : ∀ o, (V.alloc o).cell? ⟨hb, 0, none⟩ = some (.int .i64 now) := fun o => World.grownBy.cell (hE V o) z0 (by simp)
  have kA1 : ∀ o, (V.alloc o).cell? ⟨hb, 1, none⟩ = some (.slice ra lt rc) := fun o => World.grownBy.cell (hE V o) z1 (by simp)
  have kB0 : ∀ o o', ((V.alloc o).alloc o').cell? ⟨hb, 0, none⟩ = some (.int .i64 now) := fun o o' => World.grownBy.cell (hE _ o') (kA0 o) (by simp)
  have kB1 : ∀ o o', ((V.alloc o).alloc o').cell? ⟨hb, 1, none⟩ = some (.slice ra lt rc) := fun o o' => World.grownBy.cell (hE _ o') (kA1 o) (by simp)
  have HFIN : Hid (∀ w5 id after, V.grownBy w5 (some g) → IsInt id → IsInt after → w5.cell? ⟨w.heap.size, 0, none⟩ = some (.int .i64 0) ∧ w5.cell? ⟨w.heap.size, 1, none⟩ = some (.slice none 0 0) ∧ w5.frozen? ⟨w.heap.size, 0, none⟩ = false ∧ w5.frozen? ⟨w.heap.size, 1, none⟩ = false ∧ DrawS w (.returned (.tuple #[.agg #[.int .i64 now, .slice ra lt rc], .int .i64 id, .int .i64 after])) ((w5.setCell ⟨w.heap.size, 0, none⟩ (.int .i64 now)).setCell ⟨w.heap.size, 1, none⟩ (.slice ra lt rc))) := by
    intro w5 id after g5 hid haf
    have hr5 : w5.heap[w.heap.size]? = some (.cells #[.int .i64 0, .slice none 0 0] 25 (0, 0)) := (g5.block _ (Array.getElem?_eq_some_iff.1 HP5.out).1 (by simp; omega)).trans HP5.out
    have hrow : (Value.slice ra lt rc).ownBlock = none ∨ (Value.slice ra lt rc).ownBlock ≠ some g := by
      right
      intro e
      have := (World.ownsRow.lt HP2.out g e).1
      omega
    have o5 := HP2.out.kept g5 hrow
    have hnv : (Value.slice ra lt rc).ownBlock = none ∨ (Value.slice ra lt rc).ownBlock ≠ some w.heap.size := .inr (ne_rowZ o5 hr5 (by decide)).symm
    refine ⟨(at_block hr5 0 _ rfl).1, (at_block hr5 1 _ rfl).1, (at_block hr5 0 _ rfl).2, (at_block hr5 1 _ rfl).2, now, _, ts, id, after, rfl, HL.out, ((OwT.base o5 (by omega)).kept (set_grown _ _ _ _) hnv).kept (set_grown _ _ _ _) hnv, hid, haf, ?_⟩
    exact ((HP4.out.grown g5 HP4.out.size (fun k hk => by cases hk; omega)).setCell (by simp) _).setCell (by simp) _
  clear HB2 B1
  have CA1 : Hid (Cur (V.alloc (.cells #[.int .i64 0, .int .i64 1, .int .i64 2, .int .i64 3, .int .i64 50, .int .i64 (-1), .int .i64 2147483647, .int .i64 2147483648] 3)).drew g g) := HP3.out.ext (HX.out _)
  have CA2 : Hid (Cur ((V.alloc (.cells #[.int .i64 0, .int .i64 1, .int .i64 2, .int .i64 3, .int .i64 50, .int .i64 (-1), .int .i64 2147483647, .int .i64 2147483648] 3)).alloc (.cells #[.int .i64 1, .int .i64 2, .int .i64 5, .int .i64 9, .int .i64 0, .int .i64 (-1), .int .i64 1000000, .int .i64 1000001] 3)).drew g g) := HP3.out.ext (HXX.out _ _)
  have CA3 : Hid (Cur ((V.alloc (.cells #[.int .i64 1, .int .i64 2, .int .i64 5, .int .i64 9, .int .i64 0, .int .i64 (-1), .int .i64 1000000, .int .i64 1000001] 3)).alloc (.cells #[.int .i64 0, .int .i64 1, .int .i64 2, .int .i64 3, .int .i64 50, .int .i64 (-1), .int .i64 2147483647, .int .i64 2147483648] 3)).drew g g) := HP3.out.ext (HXX.out _ _)
  have LA1 : Hid (Lit8 (V.alloc (.cells #[.int .i64 0, .int .i64 1, .int .i64 2, .int .i64 3, .int .i64 50, .int .i64 (-1), .int .i64 2147483647, .int .i64 2147483648] 3)).drew V.heap.size) := (HL1.out V).ext (ext_drewN _ 1)
  have LA2 : Hid (Lit8 ((V.alloc (.cells #[.int .i64 0, .int .i64 1, .int .i64 2, .int .i64 3, .int .i64 50, .int .i64 (-1), .int .i64 2147483647, .int .i64 2147483648] 3)).alloc (.cells #[.int .i64 1, .int .i64 2, .int .i64 5, .int .i64 9, .int .i64 0, .int .i64 (-1), .int .i64 1000000, .int .i64 1000001] 3)).drew V.heap.size) := ((HL1.out V).ext (hE _ _)).ext (ext_drewN _ 1)
  have LA3 : Hid (Lit8 ((V.alloc (.cells #[.int .i64 1, .int .i64 2, .int .i64 5, .int .i64 9, .int .i64 0, .int .i64 (-1), .int .i64 1000000, .int .i64 1000001] 3)).alloc (.cells #[.int .i64 0, .int .i64 1, .int .i64 2, .int .i64 3, .int .i64 50, .int .i64 (-1), .int .i64 2147483647, .int .i64 2147483648] 3)).drew (V.heap.size + 1)) := by have h9 := HL1.out (V.alloc (.cells #[.int .i64 1, .int .i64 2, .int .i64 5, .int .i64 9, .int .i64 0, .int .i64 (-1), .int .i64 1000000, .int .i64 1000001] 3)); rw [alloc_size1] at h9; exact h9.ext (ext_drewN _ 1)
  have LB2 : Hid (Lit8 ((V.alloc (.cells #[.int .i64 0, .int .i64 1, .int .i64 2, .int .i64 3, .int .i64 50, .int .i64 (-1), .int .i64 2147483647, .int .i64 2147483648] 3)).alloc (.cells #[.int .i64 1, .int .i64 2, .int .i64 5, .int .i64 9, .int .i64 0, .int .i64 (-1), .int .i64 1000000, .int .i64 1000001] 3)).drew (V.heap.size + 1)) := by have h9 := HL2.out (V.alloc (.cells #[.int .i64 0, .int .i64 1, .int .i64 2, .int .i64 3, .int .i64 50, .int .i64 (-1), .int .i64 2147483647, .int .i64 2147483648] 3)); rw [alloc_size1] at h9; exact h9.ext (ext_drewN _ 1)
  have LB3 : Hid (Lit8 ((V.alloc (.cells #[.int .i64 1, .int .i64 2, .int .i64 5, .int .i64 9, .int .i64 0, .int .i64 (-1), .int .i64 1000000, .int .i64 1000001] 3)).alloc (.cells #[.int .i64 0, .int .i64 1, .int .i64 2, .int .i64 3, .int .i64 50, .int .i64 (-1), .int .i64 2147483647, .int .i64 2147483648] 3)).drew V.heap.size) := ((HL2.out V).ext (hE _ _)).ext (ext_drewN _ 1)
  have hVg : V.heap.size ≠ g := by omega
  have hVg1 : V.heap.size + 1 ≠ g := by omega
  have GA1 : Hid (V.grownBy (V.alloc (.cells #[.int .i64 0, .int .i64 1, .int .i64 2, .int .i64 3, .int .i64 50, .int .i64 (-1), .int .i64 2147483647, .int .i64 2147483648] 3)).drew (some g)) := ext_row (HX.out _) _
  have GA2 : Hid (V.grownBy ((V.alloc (.cells #[.int .i64 0, .int .i64 1, .int .i64 2, .int .i64 3, .int .i64 50, .int .i64 (-1), .int .i64 2147483647, .int .i64 2147483648] 3)).alloc (.cells #[.int .i64 1, .int .i64 2, .int .i64 5, .int .i64 9, .int .i64 0, .int .i64 (-1), .int .i64 1000000, .int .i64 1000001] 3)).drew (some g)) := ext_row (HXX.out _ _) _
  have GA3 : Hid (V.grownBy ((V.alloc (.cells #[.int .i64 1, .int .i64 2, .int .i64 5, .int .i64 9, .int .i64 0, .int .i64 (-1), .int .i64 1000000, .int .i64 1000001] 3)).alloc (.cells #[.int .i64 0, .int .i64 1, .int .i64 2, .int .i64 3, .int .i64 50, .int .i64 (-1), .int .i64 2147483647, .int .i64 2147483648] 3)).drew (some g)) := ext_row (HXX.out _ _) _
  go_region_law (first
    | (go_simp; go_at_call 16; refine (pick8 g g _ _ ?_ ?_ ?_).mono ?_; (first | exact hc4 | exact hc4.ext (hE w4 _)); (first | exact LB2.out.row hg4 hVg1 | exact LB3.out.row hg4 hVg | exact HL2.out w4); (first | exact hVg | exact hVg1 | exact hw4g); rintro e w5 ⟨q5, hq5, rfl, hc5, hg5⟩; have G5 : V.grownBy w5 (some g) := (by first | exact G4.trans hg5 | exact (G4.trans (ext_row (hE w4 _) _)).trans hg5); obtain ⟨j0, j1⟩ := HCK.out w5 G5; obtain ⟨n0, n1, n2, n3, n4⟩ := HFIN.out w5 q4 q5 G5 hq4 hq5)
    | (go_simp; go_at_call 16; refine (pick8 g g _ _ ?_ ?_ ?_).mono ?_; (first | exact CA1.out | exact CA2.out | exact CA3.out); (first | exact LA1.out | exact LA2.out | exact LA3.out); (first | exact hVg | exact hVg1); rintro e w4 ⟨q4, hq4, rfl, hc4, hg4⟩; have G4 : V.grownBy w4 (some g) := (by first | exact GA1.out.trans hg4 | exact GA2.out.trans hg4 | exact GA3.out.trans hg4); obtain ⟨i0, i1⟩ := HCK.out w4 G4; have hw4g : w4.heap.size ≠ g := (by have := G4.size; omega); have kC0 : ∀ o, (w4.alloc o).cell? ⟨hb, 0, none⟩ = some (.int .i64 now) := (fun o => World.grownBy.cell (hE w4 o) i0 (by simp)); have kC1 : ∀ o, (w4.alloc o).cell? ⟨hb, 1, none⟩ = some (.slice ra lt rc) := (fun o => World.grownBy.cell (hE w4 o) i1 (by simp))))
  all_goals
    go_wp2_with fail
    exact bodyPost_ret (v := .tuple #[.agg #[.int .i64 now, .slice ra lt rc], .int .i64 q4, .int .i64 q5]) (by simp [results, Try.results4, go_sem, *]) rfl n4

end Go.Proofs.Ytgjffhcokadcdaa
