/- Drawn wheels that may be bent: l7bent. -/
import Derived.Test.YtgjffhcokadcdaaHqD
namespace Go.Proofs.Ytgjffhcokadcdaa
open Go.RowKit

theorem hideB {p : Prop} (h : p) : Hid p := h
/-- The end of a drawing: what lies in the box is handed back. -/
theorem bent_fin {w U : World} {B g h c lt most : Nat} {now : Int} {a : Option Addr} {ts : List DTim} (hc : Cur U B g) (hg : w.grownBy U (some g)) (hp : U.heap[w.heap.size]? = some (.cells #[.int .i64 0, .slice none 0 0] 25 (0, 0))) (hb : WB U w.heap.size h now a c ts) (hi : IsInt now) (hl : ts.length ≤ most) (hgl : g < w.heap.size) (e : lt = ts.length) :
    DrawP most w B g (.returned (.agg #[.int .i64 now, .slice a lt c])) ((U.setCell ⟨w.heap.size, 0, none⟩ (.int .i64 now)).setCell ⟨w.heap.size, 1, none⟩ (.slice a lt c)) := by
  subst e
  have hnv : (Value.slice a ts.length c).ownBlock = none ∨ (Value.slice a ts.length c).ownBlock ≠ some w.heap.size := by
    right
    intro e
    rcases hb.row.2 with ⟨hv, _⟩ | ⟨y, c', cur, hv, _, hgy, _⟩
    · rw [hv] at e; cases e
    · rw [hv] at e
      simp only [Value.ownBlock, Option.some.injEq] at e
      subst e
      rw [hp] at hgy
      simp at hgy
  exact ⟨now, _, ts, rfl, hi, hl, (hb.row.kept (set_grown _ _ _ _) hnv).kept (set_grown _ _ _ _) hnv, (hc.far (set_grown _ _ _ _) hgl).far (set_grown _ _ _ _) hgl, grown_two (grown_two hg (set_grown _ _ _ _) (Nat.le_refl _)) (set_grown _ _ _ _) (Nat.le_refl _)⟩

theorem ne_rowZ {W : World} {base b : Nat} {v : Value} {ts : List DTim} {cs : Array Value} {t : TypeId} (o : OwT W base v ts) (h : W.heap[b]? = some (.cells cs t (0, 0))) (ht : t ≠ 52) : some b ≠ v.ownBlock := by
  intro e
  rcases o.2 with ⟨hv, _⟩ | ⟨k, c, cur, hv, _, hg, _⟩
  · rw [hv] at e; cases e
  · rw [hv] at e
    simp only [Value.ownBlock, Option.some.injEq] at e
    subst e
    rw [h] at hg
    simp only [Option.some.injEq, Obj.cells.injEq] at hg
    exact ht hg.2.1
theorem WB.now {w : World} {base h cap : Nat} {now : Int} {a : Option Addr} {ts : List DTim} (p : WB w base h now a cap ts) (q : Int) : WB (w.setCell ⟨h, 0, none⟩ (.int .i64 q)) base h q a cap ts := by
  refine ⟨?_, p.row.kept (set_grown _ _ _ _) (.inr ?_), p.low⟩
  · rw [set_block p.box 0 (.int .i64 q)]
    simp
  · intro e
    rcases p.row.2 with ⟨hv, _⟩ | ⟨y, c', cur, hv, _, hgy, _⟩
    · rw [hv] at e; cases e
    · rw [hv] at e
      simp only [Value.ownBlock, Option.some.injEq] at e
      subst e
      rw [p.box] at hgy
      simp at hgy
theorem WB.ne {w : World} {base h cap : Nat} {now : Int} {a : Option Addr} {ts : List DTim} (p : WB w base h now a cap ts) : (Value.slice a ts.length cap).ownBlock ≠ some h := by
  intro e
  rcases p.row.2 with ⟨hv, _⟩ | ⟨y, c', cur, hv, _, hgy, _⟩
  · rw [hv] at e; cases e
  · rw [hv] at e
    simp only [Value.ownBlock, Option.some.injEq] at e
    subst e
    rw [p.box] at hgy
    simp at hgy
/-- One cell of the first timer is stored into. -/
theorem WB.first {w : World} {base h cap g0 : Nat} {now : Int} {t : DTim} {rest : List DTim} (p : WB w base h now (some ⟨g0, 0, none⟩) cap (t :: rest)) (q : Int) :
    WB (w.setCell ⟨g0, 0, none⟩ (.int .i64 q)) base h now (some ⟨g0, 0, none⟩) cap (⟨q, t.due⟩ :: rest) ∧ WB (w.setCell ⟨g0, 1, none⟩ (.int .i64 q)) base h now (some ⟨g0, 0, none⟩) cap (⟨t.id, q⟩ :: rest) := by
  have hne : g0 ≠ h := by simpa [Value.ownBlock] using p.ne
  refine ⟨⟨?_, ?_, p.low⟩, ⟨?_, ?_, p.low⟩⟩
  · rw [Below.heap_setCell _ _ _ _ (by simp; omega)]
    exact p.box
  · have := (World.ownsRow.stored p.row 0 (.int .i64 q)).1
    rw [tc_cons] at this
    simp only [List.set_cons_zero] at this
    unfold OwT
    rw [tc_cons]
    exact this
  · rw [Below.heap_setCell _ _ _ _ (by simp; omega)]
    exact p.box
  · have := (World.ownsRow.stored p.row 1 (.int .i64 q)).1
    rw [tc_cons] at this
    simp only [List.set_cons_succ, List.set_cons_zero] at this
    unfold OwT
    rw [tc_cons]
    exact this
/-- A timer was appended in the box. -/
theorem WB.app {w w1 : World} {base h cap : Nat} {now : Int} {a : Option Addr} {ts : List DTim} {t : DTim} {v1 : Value} (p : WB w base h now a cap ts) (o : OwT w1 base v1 (ts ++ [t])) (k : w.grownBy w1 (Value.slice a ts.length cap).ownBlock) :
    ∃ a1 c1, v1 = .slice a1 (ts.length + 1) c1 ∧ w1.cell? ⟨h, 1, none⟩ = some (.slice a ts.length cap) ∧ w1.frozen? ⟨h, 1, none⟩ = false ∧ WB (w1.setCell ⟨h, 1, none⟩ v1) base h now a1 c1 (ts ++ [t]) := by
  have hbx : w1.heap[h]? = some (.cells #[.int .i64 now, .slice a ts.length cap] 25 (0, 0)) := (k.block h (Array.getElem?_eq_some_iff.1 p.box).1 (fun e => p.ne e.symm)).trans p.box
  have hl : (ts ++ [t]).length = ts.length + 1 := by simp
  obtain ⟨a1, c1, rfl⟩ := o.v.shape
  rw [hl] at o ⊢
  refine ⟨a1, c1, rfl, (at_block hbx 1 _ rfl).1, (at_block hbx 1 _ rfl).2, ⟨?_, ?_, p.low⟩⟩
  · rw [set_block hbx 1 (.slice a1 (ts.length + 1) c1), hl]
    simp
  · rw [hl]
    refine World.ownsRow.kept o (set_grown _ _ _ _) (.inr ?_)
    intro e
    rcases o.2 with ⟨hv, _⟩ | ⟨y, c', cur, hv, _, hgy, _⟩
    · rw [hv] at e; cases e
    · rw [hv] at e
      simp only [Value.ownBlock, Option.some.injEq] at e
      subst e
      rw [hbx] at hgy
      simp at hgy

set_option maxRecDepth 20000 in
set_option maxHeartbeats 8000000 in
theorem bentC (B g : Nat) (w : World) (hc : Cur w B g) : Calls Try.prog 15 #[.pointer (some ⟨g, 0, none⟩)] w (DrawP 60 w B g) := by
  have hE : ∀ w : World, ∀ o, Ext w (w.alloc o) := fun w o => World.grownBy_alloc _ _ _
  have HC0 : Hid (Cur w B g) := hc
  have hgl := (cur_lt' hc).1
  clear hc
  go_enter Try.func15, Try.ntmps15
  go_wp2_with fail
  generalize hW : w.alloc _ = W
  have HW : Hid (Ext w W) := by rw [← hW]; exact hE _ _
  have PW : W.heap[w.heap.size]? = some (.cells #[.int .i64 0, .slice none 0 0] 25 (0, 0)) := by rw [← hW]; exact heap_alloc_new w _
  clear hW
  have hWl : w.heap.size < W.heap.size := (Array.getElem?_eq_some_iff.1 PW).1
  refine (drawC B g W (HC0.out.ext HW.out)).mono ?_
  rintro e w1 ⟨now, tv, ts, rfl, hi, hl, o1, hc1, hg1⟩
  obtain ⟨a, c, rfl⟩ := o1.v.shape
  have PW1 : w1.heap[w.heap.size]? = some (.cells #[.int .i64 0, .slice none 0 0] 25 (0, 0)) := (hg1.block _ hWl (by simp; omega)).trans PW
  have HS1 : Hid (∀ V, V = w1.alloc (.cells #[.int .i64 now, .slice a ts.length c] 25 (0, 0)) → WB V w.heap.size w1.heap.size now a c ts ∧ Cur V B g ∧ w.grownBy V (some g) ∧ V.heap[w.heap.size]? = some (.cells #[.int .i64 0, .slice none 0 0] 25 (0, 0))) := fun V hV => by
    subst hV
    have hw1 := (Array.getElem?_eq_some_iff.1 PW1).1
    refine ⟨⟨heap_alloc_new w1 _, (o1.base (Nat.le_of_lt hWl)).alloc _, Nat.le_of_lt hw1⟩, hc1.ext (hE _ _), ((ext_row HW.out _).trans hg1).trans (World.grownBy_alloc _ _ _), (Below.heap_alloc w1 _ _ hw1).trans PW1⟩
  have hw1 : w.heap.size < w1.heap.size := (Array.getElem?_eq_some_iff.1 PW1).1
  have HI : Hid (IsInt now) := hi
  have HL : Hid (ts.length ≤ 8) := hl
  clear hi hl o1 hc1 hg1 PW PW1
  go_wp2_with fail
  generalize hV : w1.alloc _ = V
  obtain ⟨p1, c1, g1, r1⟩ := HS1.out V hV.symm
  have HP1 := hideB p1
  clear hV HS1
  refine (onceC B g 7 V c1 (by omega)).mono ?_
  rintro e w2 ⟨y, rfl, hc2, hg2⟩
  have HC2 := hideB hc2
  have HG2 := hideB (g1.trans hg2)
  have HP2 := hideB (HP1.out.far hg2 hgl)
  have HR2 : Hid (w2.heap[w.heap.size]? = some (.cells #[.int .i64 0, .slice none 0 0] 25 (0, 0))) := (hg2.block _ (Array.getElem?_eq_some_iff.1 r1).1 (by simp; omega)).trans r1
  clear p1 c1 g1 r1 hc2 hg2 HP1
  have hne : w1.heap.size ≠ w.heap.size := by omega
  have hne' : w.heap.size ≠ w1.heap.size := by omega
  cases y
  case false =>
    obtain ⟨z0, z1, _⟩ := HP2.out.cells
    obtain ⟨x0, f0⟩ := at_block HR2.out 0 _ rfl
    obtain ⟨x1, f1⟩ := at_block HR2.out 1 _ rfl
    obtain ⟨lt, hlt0⟩ : ∃ lt, lt = ts.length := ⟨_, rfl⟩
    rw [← hlt0] at z1
    have HFIN := hideB (bent_fin HC2.out HG2.out HR2.out HP2.out HI.out (show ts.length ≤ 60 by have := HL.out; omega) hgl hlt0)
    clear hlt0
    go_wp2
    exact bodyPost_ret (v := .agg #[.int .i64 now, .slice a lt c]) (by simp [results, Try.results15, go_sem, *]) rfl HFIN.out
  case true =>
    go_wp2_with fail
    refine (belowC B g 5 w2 HC2.out (by omega)).mono ?_
    rintro e w3 ⟨r, hr0, hr1, _, rfl, hc3, hg3⟩
    have hr2 : r < 5 := hr1 (by omega)
    have HC3 := hideB hc3
    have HG3 := hideB (HG2.out.trans hg3)
    have HP3 := hideB (HP2.out.far hg3 hgl)
    have HR3 : Hid (w3.heap[w.heap.size]? = some (.cells #[.int .i64 0, .slice none 0 0] 25 (0, 0))) := (hg3.block _ (Array.getElem?_eq_some_iff.1 HR2.out).1 (by simp; omega)).trans HR2.out
    clear hr1 hc3 hg3 HC2 HG2 HP2 HR2
    have hg3l : g < w3.heap.size := (cur_lt' HC3.out).1
    have hh3 : w1.heap.size < w3.heap.size := (Array.getElem?_eq_some_iff.1 HP3.out.box).1
    obtain ⟨lt, hlt0⟩ : ∃ lt, lt = ts.length := ⟨_, rfl⟩
    have HLT := hideB hlt0
    obtain ⟨z0, z1, zf⟩ := HP3.out.cells
    have zg := (at_block HP3.out.box 0 _ rfl).2
    rw [← hlt0] at z1
    clear hlt0
    by_cases h0 : r = 0
    · subst h0
      go_wp2_with fail
      refine (pickC B g w3.heap.size 4 _ (HC3.out.ext (hE _ _)) (by omega) (by omega) (by omega) ?_).mono ?_
      · exact lit_cells w3 [-1, 1000000, 1000001, 30] _ _ rfl (by intro z hz; simp only [List.mem_cons, List.not_mem_nil, or_false] at hz; unfold IsInt; omega)
      rintro e w4 ⟨q, hq, rfl, hc4, hg4⟩
      have hg34 : w3.grownBy w4 (some g) := (ext_row (hE _ _) _).trans hg4
      have HP4 := hideB ((HP3.out.far hg34 hgl).now q)
      have HQ := hideB hq
      have HC4 := hideB (hc4.far (set_grown w4 w1.heap.size 0 (.int .i64 q)) (by omega))
      have HG4 := hideB (grown_two (HG3.out.trans hg34) (set_grown w4 w1.heap.size 0 (.int .i64 q)) (Nat.le_of_lt hw1))
      have y0 := hg34.cell z0 (by simp; omega)
      have yf : w4.frozen? ⟨w1.heap.size, 0, none⟩ = false := (at_block ((HP3.out.far hg34 hgl).box) 0 _ rfl).2
      have HR4 : Hid ((w4.setCell ⟨w1.heap.size, 0, none⟩ (.int .i64 q)).heap[w.heap.size]? = some (.cells #[.int .i64 0, .slice none 0 0] 25 (0, 0))) := by
        rw [Below.heap_setCell _ _ _ _ (by simp; omega), hg34.block _ (Array.getElem?_eq_some_iff.1 HR3.out).1 (by simp; omega)]
        exact HR3.out
      obtain ⟨z2, z3, _⟩ := HP4.out.cells
      obtain ⟨x0, f0⟩ := at_block HR4.out 0 _ rfl
      obtain ⟨x1, f1⟩ := at_block HR4.out 1 _ rfl
      rw [← HLT.out] at z3
      have HFIN := hideB (bent_fin HC4.out HG4.out HR4.out HP4.out HQ.out (show ts.length ≤ 60 by have := HL.out; omega) hgl HLT.out)
      clear hq hc4 hg4 hg34 z0 z1 zf zg
      go_wp2
      exact bodyPost_ret (v := .agg #[.int .i64 q, .slice a lt c]) (by simp [results, Try.results15, go_sem, *]) rfl HFIN.out
    by_cases h1 : r = 1
    · subst h1
      have HAPP : Hid (∀ q v5 w5 w4, w3.grownBy w4 (some g) → OwT w5 w.heap.size v5 (ts ++ [⟨q, 99⟩]) → w4.grownBy w5 (Value.slice a lt c).ownBlock → Cur w4 B g → ∃ a5 c5, v5 = .slice a5 (lt + 1) c5 ∧ w5.cell? ⟨w1.heap.size, 1, none⟩ = some (.slice a lt c) ∧ w5.frozen? ⟨w1.heap.size, 1, none⟩ = false ∧ (w5.setCell ⟨w1.heap.size, 1, none⟩ v5).cell? ⟨w1.heap.size, 0, none⟩ = some (.int .i64 now) ∧ (w5.setCell ⟨w1.heap.size, 1, none⟩ v5).cell? ⟨w1.heap.size, 1, none⟩ = some v5 ∧ (w5.setCell ⟨w1.heap.size, 1, none⟩ v5).cell? ⟨w.heap.size, 0, none⟩ = some (.int .i64 0) ∧ (w5.setCell ⟨w1.heap.size, 1, none⟩ v5).cell? ⟨w.heap.size, 1, none⟩ = some (.slice none 0 0) ∧ (w5.setCell ⟨w1.heap.size, 1, none⟩ v5).frozen? ⟨w.heap.size, 0, none⟩ = false ∧ (w5.setCell ⟨w1.heap.size, 1, none⟩ v5).frozen? ⟨w.heap.size, 1, none⟩ = false ∧ DrawP 60 w B g (.returned (.agg #[.int .i64 now, v5])) (((w5.setCell ⟨w1.heap.size, 1, none⟩ v5).setCell ⟨w.heap.size, 0, none⟩ (.int .i64 now)).setCell ⟨w.heap.size, 1, none⟩ v5)) := by
        intro q v5 w5 w4 g4 o5 g5 c4
        have hlt9 := HLT.out
        subst hlt9
        have p4 := HP3.out.far g4 hgl
        obtain ⟨a5, c5, rfl, e1, e2, p5⟩ := p4.app o5 g5
        have hr4 : w4.heap[w.heap.size]? = some (.cells #[.int .i64 0, .slice none 0 0] 25 (0, 0)) := (g4.block _ (Array.getElem?_eq_some_iff.1 HR3.out).1 (by simp; omega)).trans HR3.out
        have hr5 : w5.heap[w.heap.size]? = some (.cells #[.int .i64 0, .slice none 0 0] 25 (0, 0)) := (g5.block _ (Array.getElem?_eq_some_iff.1 hr4).1 (ne_rowZ p4.row hr4 (by decide))).trans hr4
        have hr6 : (w5.setCell ⟨w1.heap.size, 1, none⟩ (.slice a5 (ts.length + 1) c5)).heap[w.heap.size]? = some (.cells #[.int .i64 0, .slice none 0 0] 25 (0, 0)) := by
          rw [Below.heap_setCell _ _ _ _ (by simp; omega)]
          exact hr5
        have hrow : ∀ k, (Value.slice a ts.length c).ownBlock = some k → w.heap.size ≤ k := fun k hk => (World.ownsRow.lt p4.row k hk).1
        have c5' : Cur w5 B g := by
          cases hv : (Value.slice a ts.length c).ownBlock with
          | none => rw [hv] at g5; exact c4.ext g5
          | some k => rw [hv] at g5; exact c4.far g5 (by have := hrow k hv; omega)
        have hgw : w.grownBy w5 (some g) := by
          have h34 := HG3.out.trans g4
          cases hv : (Value.slice a ts.length c).ownBlock with
          | none => rw [hv] at g5; exact h34.trans (ext_row g5 _)
          | some k => rw [hv] at g5; exact grown_two h34 g5 (hrow k hv)
        refine ⟨a5, c5, rfl, e1, e2, p5.cells.1, ?_, (at_block hr6 0 _ rfl).1, (at_block hr6 1 _ rfl).1, (at_block hr6 0 _ rfl).2, (at_block hr6 1 _ rfl).2, ?_⟩
        · have := p5.cells.2.1
          rw [this]
          simp
        · have hfin := bent_fin (lt := ts.length + 1) (most := 60) (c5'.far (set_grown _ _ _ _) (by omega)) (grown_two hgw (set_grown _ _ _ _) (Nat.le_of_lt hw1)) hr6 p5 HI.out (by have := HL.out; simp; omega) hgl (by simp)
          exact hfin
      have HBEL : Hid (∀ U, w3.grownBy U (some g) → Cur U B g → Calls Try.prog 29 #[.pointer (some ⟨g, 0, none⟩), .int .i64 9] U (BelowPost 9 U B g)) := fun U _ hU => belowC B g 9 U hU (by omega)
      have XD : w3.grownBy w3.drew (some g) := ext_row (ext_drewN w3 1) _
      have CD : Cur w3.drew B g := HC3.out.ext (ext_drewN w3 1)
      have HROW : Hid (∀ U, w3.grownBy U (some g) → OwT U w.heap.size (.slice a lt c) ts) := fun U hU => by rw [HLT.out]; exact (HP3.out.far hU hgl).row
      have hng : w1.heap.size ≠ g := by omega
      have hng' : g ≠ w1.heap.size := by omega
      go_wp2_with fail
      go_region_law (first | (refine step_append_tm rfl (.tmp 41) (.tmp 45) 23 Try.underlying23 rfl w.heap.size (.slice a lt c) ts rfl ((HROW.out _ G4).alloc _) (some ⟨w4.heap.size, 0, none⟩) 1 1 [⟨q, 99⟩] rfl (one_tims w4 ⟨q, 99⟩) (by have := HL.out; simp; omega) (by have := HG3.out.size; have := G4.size; simp; omega) ?_; intro v5 w5 o5 g5 hat; obtain ⟨a5, c5, rfl, y1, y2, y3, y4, y5, y6, y7, y8, y9⟩ := HAPP.out q v5 w5 _ (G4.trans (ext_row (hE _ _) _)) o5 g5 (hc4.ext (hE _ _))) | (go_simp; go_at_call 29; refine (HBEL.out _ XD CD).mono ?_; rintro e w4 ⟨q, hq0, hq1, hq2, rfl, hc4, hg4⟩; clear hq1 hq2; have G4 : w3.grownBy w4 (some g) := XD.trans hg4; have k4 := G4.cell z1 (by simp; omega); have k4a : ∀ o, (w4.alloc o).cell? ⟨w1.heap.size, 1, none⟩ = some (.slice a lt c) := (fun o => World.grownBy.cell (hE w4 o) k4 (by simp))))
      all_goals
        go_wp2_with fail
        exact bodyPost_ret (v := .agg #[.int .i64 now, .slice a5 (lt + 1) c5]) (by simp [results, Try.results15, go_sem, *]) rfl y9
    by_cases h2 : r = 2
    · subst h2
      by_cases hlz : lt = 0
      · have hlz' : ¬ ((0 : Int) < lt) := by omega
        obtain ⟨x0, f0⟩ := at_block HR3.out 0 _ rfl
        obtain ⟨x1, f1⟩ := at_block HR3.out 1 _ rfl
        have HFIN := hideB (bent_fin HC3.out HG3.out HR3.out HP3.out HI.out (show ts.length ≤ 60 by have := HL.out; omega) hgl HLT.out)
        subst hlz
        go_wp2
        exact bodyPost_ret (v := .agg #[.int .i64 now, .slice a 0 c]) (by simp [results, Try.results15, go_sem, *]) rfl HFIN.out
      · have hlz' : (0 : Int) < lt := by omega
        obtain ⟨t, rest, hts⟩ : ∃ t rest, ts = t :: rest := by
          cases ts with
          | nil => have := HLT.out; simp at this; omega
          | cons t rest => exact ⟨t, rest, rfl⟩
        subst hts
        obtain ⟨g0, ha0⟩ : ∃ g0, a = some ⟨g0, 0, none⟩ := by
          rcases HP3.out.row.2 with ⟨_, hh⟩ | ⟨y, c', cur, hv, _⟩
          · simp at hh
          · simp only [Value.slice.injEq] at hv
            exact ⟨y, hv.1⟩
        subst ha0
        have hg0 : w.heap.size ≤ g0 := (World.ownsRow.lt HP3.out.row g0 rfl).1
        have hg0w : w.heap.size ≠ g0 := fun e => by
          have := ne_rowZ HP3.out.row HR3.out (by decide)
          rw [e] at this
          simp [Value.ownBlock] at this
        have hg0h : g0 ≠ w1.heap.size := by simpa [Value.ownBlock] using HP3.out.ne
        have HCA : Hid (Cur (w3.alloc (.cells #[.int .i64 0, .int .i64 now, .int .i64 2000000, .int .i64 2000001] 3)).drew B g) := (HC3.out.ext (hE _ _)).ext (ext_drewN _ 1)
        have HLC : Hid (∀ j, j < 4 → ∃ z, IsInt z ∧ ((w3.alloc (.cells #[.int .i64 0, .int .i64 now, .int .i64 2000000, .int .i64 2000001] 3)).drew).cell? ⟨w3.heap.size, j, none⟩ = some (.int .i64 z)) := lit_cells w3 [0, now, 2000000, 2000001] _ _ rfl (by intro z hz; have := HI.out; simp only [List.mem_cons, List.not_mem_nil, or_false] at hz; unfold IsInt at *; omega)
        have HPK : Hid (∀ q w4, ((w3.alloc (.cells #[.int .i64 0, .int .i64 now, .int .i64 2000000, .int .i64 2000001] 3)).drew).grownBy w4 (some g) → Cur w4 B g → w4.cell? ⟨w1.heap.size, 1, none⟩ = some (.slice (some ⟨g0, 0, none⟩) lt c) ∧ w4.cell? ⟨g0, 1, none⟩ = some (.int .i64 t.due) ∧ w4.frozen? ⟨g0, 1, none⟩ = false ∧ (w4.setCell ⟨g0, 1, none⟩ (.int .i64 q)).cell? ⟨w1.heap.size, 0, none⟩ = some (.int .i64 now) ∧ (w4.setCell ⟨g0, 1, none⟩ (.int .i64 q)).cell? ⟨w1.heap.size, 1, none⟩ = some (.slice (some ⟨g0, 0, none⟩) lt c) ∧ (w4.setCell ⟨g0, 1, none⟩ (.int .i64 q)).cell? ⟨w.heap.size, 0, none⟩ = some (.int .i64 0) ∧ (w4.setCell ⟨g0, 1, none⟩ (.int .i64 q)).cell? ⟨w.heap.size, 1, none⟩ = some (.slice none 0 0) ∧ (w4.setCell ⟨g0, 1, none⟩ (.int .i64 q)).frozen? ⟨w.heap.size, 0, none⟩ = false ∧ (w4.setCell ⟨g0, 1, none⟩ (.int .i64 q)).frozen? ⟨w.heap.size, 1, none⟩ = false ∧ DrawP 60 w B g (.returned (.agg #[.int .i64 now, .slice (some ⟨g0, 0, none⟩) lt c])) (((w4.setCell ⟨g0, 1, none⟩ (.int .i64 q)).setCell ⟨w.heap.size, 0, none⟩ (.int .i64 now)).setCell ⟨w.heap.size, 1, none⟩ (.slice (some ⟨g0, 0, none⟩) lt c))) := by
          intro q w4 g4' c4
          have g4 : w3.grownBy w4 (some g) := ((ext_row (hE w3 _) _).trans (ext_row (ext_drewN _ 1) _)).trans g4'
          have hlt9 := HLT.out
          subst hlt9
          have p4 := HP3.out.far g4 hgl
          obtain ⟨d0, d1, df0, df1⟩ := OwT.cells p4.row rfl (show (t :: rest)[0]? = some t from rfl)
          simp only [Nat.zero_mul, Nat.zero_add] at d0 d1 df0 df1
          have p5 := (p4.first q).2
          have hr4 : w4.heap[w.heap.size]? = some (.cells #[.int .i64 0, .slice none 0 0] 25 (0, 0)) := (g4.block _ (Array.getElem?_eq_some_iff.1 HR3.out).1 (by simp; omega)).trans HR3.out
          have hr5 : (w4.setCell ⟨g0, 1, none⟩ (.int .i64 q)).heap[w.heap.size]? = some (.cells #[.int .i64 0, .slice none 0 0] 25 (0, 0)) := by
            rw [Below.heap_setCell _ _ _ _ (by simpa using hg0w)]
            exact hr4
          refine ⟨p4.cells.2.1, d1, df1, p5.cells.1, p5.cells.2.1, (at_block hr5 0 _ rfl).1, (at_block hr5 1 _ rfl).1, (at_block hr5 0 _ rfl).2, (at_block hr5 1 _ rfl).2, ?_⟩
          exact bent_fin (lt := (t :: rest).length) (most := 60) (c4.far (set_grown _ _ _ _) (by omega)) (grown_two (HG3.out.trans g4) (set_grown _ _ _ _) hg0) hr5 p5 HI.out (by have := HL.out; simp at *; omega) hgl rfl
        have hng : w3.heap.size ≠ g := by omega
        have k0 : ∀ o, (w3.alloc o).cell? ⟨w1.heap.size, 0, none⟩ = some (.int .i64 now) := fun o => World.grownBy.cell (hE w3 o) z0 (by simp)
        have k1 : ∀ o, (w3.alloc o).cell? ⟨w1.heap.size, 1, none⟩ = some (.slice (some ⟨g0, 0, none⟩) lt c) := fun o => World.grownBy.cell (hE w3 o) z1 (by simp)
        go_wp2_with fail
        go_region_law (go_simp; go_at_call 16; refine (pickC B g w3.heap.size 4 _ HCA.out (by omega) (by omega) hng HLC.out).mono ?_; rintro e w4 ⟨q, hq, rfl, hc4, hg4⟩; obtain ⟨y0, y1, y2, y3, y4, y5, y6, y7, y8, y9⟩ := HPK.out q w4 hg4 hc4)
        all_goals
          go_wp2_with fail
          exact bodyPost_ret (v := .agg #[.int .i64 now, .slice (some ⟨g0, 0, none⟩) lt c]) (by simp [results, Try.results15, go_sem, *]) rfl y9
    by_cases h3 : r = 3
    · subst h3
      by_cases hlz : lt = 0
      · have hlz' : ¬ ((0 : Int) < lt) := by omega
        obtain ⟨x0, f0⟩ := at_block HR3.out 0 _ rfl
        obtain ⟨x1, f1⟩ := at_block HR3.out 1 _ rfl
        have HFIN := hideB (bent_fin HC3.out HG3.out HR3.out HP3.out HI.out (show ts.length ≤ 60 by have := HL.out; omega) hgl HLT.out)
        subst hlz
        go_wp2
        exact bodyPost_ret (v := .agg #[.int .i64 now, .slice a 0 c]) (by simp [results, Try.results15, go_sem, *]) rfl HFIN.out
      · have hlz' : (0 : Int) < lt := by omega
        obtain ⟨t, rest, hts⟩ : ∃ t rest, ts = t :: rest := by
          cases ts with
          | nil => have := HLT.out; simp at this; omega
          | cons t rest => exact ⟨t, rest, rfl⟩
        subst hts
        obtain ⟨g0, ha0⟩ : ∃ g0, a = some ⟨g0, 0, none⟩ := by
          rcases HP3.out.row.2 with ⟨_, hh⟩ | ⟨y, c', cur, hv, _⟩
          · simp at hh
          · simp only [Value.slice.injEq] at hv
            exact ⟨y, hv.1⟩
        subst ha0
        obtain ⟨d0, d1, df0, df1⟩ := OwT.cells HP3.out.row rfl (show (t :: rest)[0]? = some t from rfl)
        simp only [Nat.zero_mul, Nat.zero_add] at d0 d1 df0 df1
        have HP4 := hideB (HP3.out.first (-1)).1
        have hg0 : w.heap.size ≤ g0 := (World.ownsRow.lt HP3.out.row g0 rfl).1
        have hg0w : w.heap.size ≠ g0 := fun e => by
          have := ne_rowZ HP3.out.row HR3.out (by decide)
          rw [e] at this
          simp [Value.ownBlock] at this
        have hg0h : g0 ≠ w1.heap.size := by simpa [Value.ownBlock] using HP3.out.ne
        have HC4 := hideB (HC3.out.far (set_grown w3 g0 0 (.int .i64 (-1))) (by omega))
        have HG4 := hideB (grown_two HG3.out (set_grown w3 g0 0 (.int .i64 (-1))) hg0)
        have HR4 : Hid ((w3.setCell ⟨g0, 0, none⟩ (.int .i64 (-1))).heap[w.heap.size]? = some (.cells #[.int .i64 0, .slice none 0 0] 25 (0, 0))) := by
          rw [Below.heap_setCell _ _ _ _ (by simpa using hg0w)]
          exact HR3.out
        obtain ⟨z2, z3, _⟩ := HP4.out.cells
        have z3' : (w3.setCell ⟨g0, 0, none⟩ (.int .i64 (-1))).cell? ⟨w1.heap.size, 1, none⟩ = some (.slice (some ⟨g0, 0, none⟩) lt c) := by rw [z3, HLT.out]; rfl
        obtain ⟨x0, f0⟩ := at_block HR4.out 0 _ rfl
        obtain ⟨x1, f1⟩ := at_block HR4.out 1 _ rfl
        have HFIN := hideB (bent_fin (lt := lt) (most := 60) HC4.out HG4.out HR4.out HP4.out HI.out (by have := HL.out; simp at *; omega) hgl (by rw [HLT.out]; rfl))
        clear z3
        go_wp2
        exact bodyPost_ret (v := .agg #[.int .i64 now, .slice (some ⟨g0, 0, none⟩) lt c]) (by simp [results, Try.results15, go_sem, *]) rfl HFIN.out
    · have h4 : r = 4 := by omega
      subst h4
      clear h0 h1 h2 h3
      go_wp2_with fail
      go_loopw [4] (fun i wr => ∃ k : Nat, i = .int .i64 k ∧ k ≤ 41 ∧ Hid (Cur wr B g) ∧ Hid (w.grownBy wr (some g)) ∧ Hid (wr.heap[w.heap.size]? = some (.cells #[.int .i64 0, .slice none 0 0] 25 (0, 0))) ∧ ∃ a c ts, Hid (WB wr w.heap.size w1.heap.size now a c ts) ∧ Hid (ts.length ≤ 41 ∧ k ≤ ts.length)) (fun i _ => 60 - (intOf i).toNat)
      case atStart => exact ⟨0, rfl, by omega, HC3, HG3, HR3, a, c, ts, HP3, by have := HL.out; omega, Nat.zero_le _⟩
      case round =>
        clear z0 z1 zf zg
        obtain ⟨k, rfl, hk, HC, HG, HR, a', c', ts', HB, HLL⟩ := hrel
        obtain ⟨z0, z1, zf⟩ := HB.out.cells
        obtain ⟨lu, hlu0⟩ : ∃ lu, lu = ts'.length := ⟨_, rfl⟩
        have HLU := hideB hlu0
        rw [← hlu0] at z1
        clear hlu0
        have hlu1 : (lu : Int) ≤ 41 := by have := HLU.out; have := HLL.out; omega
        have XD : wr.grownBy wr.drew (some g) := ext_row (ext_drewN wr 1) _
        have CD : Cur wr.drew B g := HC.out.ext (ext_drewN wr 1)
        have HBEL : Hid (Calls Try.prog 29 #[.pointer (some ⟨g, 0, none⟩), .int .i64 2] wr.drew (BelowPost 2 wr.drew B g)) := belowC B g 2 _ CD (by omega)
        have hgr : g < wr.heap.size := (cur_lt' HC.out).1
        have HST : Hid (∀ w4, wr.drew.grownBy w4 (some g) → w4.cell? ⟨w1.heap.size, 1, none⟩ = some (.slice a' lu c') ∧ WB w4 w.heap.size w1.heap.size now a' c' ts' ∧ w.grownBy w4 (some g) ∧ w4.heap[w.heap.size]? = some (.cells #[.int .i64 0, .slice none 0 0] 25 (0, 0))) := fun w4 hg4 => by
          have g4 := XD.trans hg4
          have p4 := HB.out.far g4 hgl
          refine ⟨by rw [HLU.out]; exact p4.cells.2.1, p4, HG.out.trans g4, (g4.block _ (Array.getElem?_eq_some_iff.1 HR.out).1 (by simp; omega)).trans HR.out⟩
        go_wp2_with fail
        go_region_law (go_simp; go_at_call 29; refine HBEL.out.mono ?_; rintro e w4 ⟨q, hq0, hq1, hq2, rfl, hc4, hg4⟩; have hq3 : q < 2 := hq1 (by omega); clear hq1 hq2; have hwr : IntKind.i64.wrap (40 + q) = 40 + q := (by rw [IntKind.wrap_i64]; omega); obtain ⟨s1, s2, s3, s4⟩ := HST.out w4 hg4)
        all_goals
          have HC4 := hideB hc4
          have HB4 := hideB s2
          have HG4 := hideB s3
          have HR4 := hideB s4
          clear s2 s3 s4 hc4 hg4 XD CD
          by_cases hlt : (lu : Int) < 40 + q
          · first
              | (exfalso; omega)
              | (have hltd : decide ((lu : Int) < 40 + q) = true := by simpa using hlt
                 have HAPP : Hid (∀ v5 w5, OwT w5 w.heap.size v5 (ts' ++ [⟨100 + (k : Int), 500 + (k : Int)⟩]) → (w4.alloc (.cells #[.int .i64 (100 + (k : Int)), .int .i64 (500 + (k : Int))] 52)).grownBy w5 (Value.slice a' lu c').ownBlock → ∃ a5 c5, v5 = .slice a5 (lu + 1) c5 ∧ w5.cell? ⟨w1.heap.size, 1, none⟩ = some (.slice a' lu c') ∧ w5.frozen? ⟨w1.heap.size, 1, none⟩ = false ∧ WB (w5.setCell ⟨w1.heap.size, 1, none⟩ v5) w.heap.size w1.heap.size now a5 c5 (ts' ++ [⟨100 + (k : Int), 500 + (k : Int)⟩]) ∧ Cur (w5.setCell ⟨w1.heap.size, 1, none⟩ v5) B g ∧ w.grownBy (w5.setCell ⟨w1.heap.size, 1, none⟩ v5) (some g) ∧ (w5.setCell ⟨w1.heap.size, 1, none⟩ v5).heap[w.heap.size]? = some (.cells #[.int .i64 0, .slice none 0 0] 25 (0, 0))) := by
                   intro v5 w5 o5 g5
                   have hlt9 := HLU.out
                   subst hlt9
                   have ea := hE w4 (.cells #[.int .i64 (100 + (k : Int)), .int .i64 (500 + (k : Int))] 52)
                   have p4 := HB4.out.below ((Below.refl _ w4).alloc (Nat.le_refl _) (.cells #[.int .i64 (100 + (k : Int)), .int .i64 (500 + (k : Int))] 52))
                   have c4 := HC4.out.ext ea
                   obtain ⟨a5, c5, rfl, e1, e2, p5⟩ := p4.app o5 g5
                   have hr4 : (w4.alloc (.cells #[.int .i64 (100 + (k : Int)), .int .i64 (500 + (k : Int))] 52)).heap[w.heap.size]? = some (.cells #[.int .i64 0, .slice none 0 0] 25 (0, 0)) := (Below.heap_alloc w4 _ _ (Array.getElem?_eq_some_iff.1 HR4.out).1).trans HR4.out
                   have hr5 : w5.heap[w.heap.size]? = some (.cells #[.int .i64 0, .slice none 0 0] 25 (0, 0)) := (g5.block _ (Array.getElem?_eq_some_iff.1 hr4).1 (ne_rowZ p4.row hr4 (by decide))).trans hr4
                   have hrow : ∀ k, (Value.slice a' ts'.length c').ownBlock = some k → w.heap.size ≤ k := fun k hk => (World.ownsRow.lt p4.row k hk).1
                   have h34 := HG4.out.trans (ext_row ea _)
                   have c5' : Cur w5 B g := by
                     cases hv : (Value.slice a' ts'.length c').ownBlock with
                     | none => rw [hv] at g5; exact c4.ext g5
                     | some k => rw [hv] at g5; exact c4.far g5 (by have := hrow k hv; omega)
                   have hgw : w.grownBy w5 (some g) := by
                     cases hv : (Value.slice a' ts'.length c').ownBlock with
                     | none => rw [hv] at g5; exact h34.trans (ext_row g5 _)
                     | some k => rw [hv] at g5; exact grown_two h34 g5 (hrow k hv)
                   refine ⟨a5, c5, rfl, e1, e2, p5, c5'.far (set_grown _ _ _ _) (by omega), grown_two hgw (set_grown _ _ _ _) (Nat.le_of_lt hw1), ?_⟩
                   rw [Below.heap_setCell _ _ _ _ (by simp; omega)]
                   exact hr5
                 have HROW : Hid (∀ o, OwT (w4.alloc o) w.heap.size (.slice a' lu c') ts') := fun o => by rw [HLU.out]; exact HB4.out.row.alloc o
                 have k4a : ∀ o, (w4.alloc o).cell? ⟨w1.heap.size, 1, none⟩ = some (.slice a' lu c') := fun o => World.grownBy.cell (hE w4 o) s1 (by simp)
                 go_wp2_with (at_builtin; refine wpList_append_tm _ rfl (.tmp 23) (.tmp 29) 23 Try.underlying23 rfl w.heap.size (.slice a' lu c') ts' rfl (HROW.out _) (some ⟨w4.heap.size, 0, none⟩) 1 1 [⟨100 + (k : Int), 500 + (k : Int)⟩] rfl (one_tims w4 ⟨100 + (k : Int), 500 + (k : Int)⟩) (by have := HLL.out; simp; omega) (by have := HG4.out.size; simp; omega) ?_; intro v5 w5 o5 g5 hat; obtain ⟨a5, c5, rfl, y1, y2, y3, y4, y5, y6⟩ := HAPP.out v5 w5 o5 g5)
                 go_roundw
                 case rel => exact ⟨k + 1, by go_num, by have := HLL.out; have := HLU.out; omega, y4, y5, y6, a5, c5, _, y3, by have := HLL.out; have := HLU.out; simp; omega, by have := HLL.out; simp; omega⟩
                 case measure => simp [intOf]; omega)
          · first
              | (exfalso; omega)
              | (have hltd : decide ((lu : Int) < 40 + q) = false := by simpa using hlt
                 obtain ⟨u0, u1, _⟩ := HB4.out.cells
                 obtain ⟨x0, f0⟩ := at_block HR4.out 0 _ rfl
                 obtain ⟨x1, f1⟩ := at_block HR4.out 1 _ rfl
                 have HFIN := hideB (bent_fin HC4.out HG4.out HR4.out HB4.out HI.out (show ts'.length ≤ 60 by have := HLL.out; omega) hgl HLU.out)
                 clear u1
                 go_wp2
                 exact bodyPost_ret (v := .agg #[.int .i64 now, .slice a' lu c']) (by simp [results, Try.results15, go_sem, *]) rfl HFIN.out)

end Go.Proofs.Ytgjffhcokadcdaa
