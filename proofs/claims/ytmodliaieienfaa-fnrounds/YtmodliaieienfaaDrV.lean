
/- Draws of tables that may be bent: l10bent. -/
import Derived.Test.YtmodliaieienfaaDrU
import Derived.Deep.RegionHeld3
namespace Go.Proofs.Ytmodliaieienfaa
open Go.RowKit

/-- From the block b on memory is as it was. -/
def Hi (b : Nat) (X W : World) : Prop := ∀ k, b ≤ k → k < X.heap.size → W.heap[k]? = X.heap[k]?
theorem hi_grown {b g : Nat} {X W : World} (hg : g < b) (h : X.grownBy W (some g)) : Hi b X W := fun k hk hx => h.block k hx (by simp; omega)
theorem own_hi {X W : World} {base : Nat} {v : Value} {ts : List DMem} (o : OwMem X base v ts) (h : Hi base X W) : OwMem W base v ts := by
  refine ⟨o.1, ?_⟩
  rcases o.2 with h2 | ⟨g, cap, cur, hv, hbb, hblk, r⟩
  · exact .inl h2
  · exact .inr ⟨g, cap, cur, hv, hbb, (h g hbb (Array.getElem?_eq_some_iff.1 hblk).1).trans hblk, r⟩
/-- What a draw of a table that may be bent leaves. -/
def TabBent (w : World) (B g : Nat) (e : Ending) (w' : World) : Prop := ∃ (T : DTab) (a : Option Addr) (c : Nat), e = .returned (.agg #[.int .i64 T.self, .slice a T.mems.length c]) ∧ (∀ W, Hi w.heap.size w' W → VMem W (.slice a T.mems.length c) T.mems) ∧ T.mems.length ≤ 13 ∧ Cur w' B g ∧ w.grownBy w' (some g)
theorem own_high {X W : World} {base g : Nat} {v : Value} {ts : List DMem} (o : OwMem X base v ts) (hg : g < base) (h : X.grownBy W (some g)) : OwMem W base v ts := o.keep h (by
  cases hv : v.ownBlock with
  | none => exact .inl rfl
  | some k => exact .inr (by have := (o.lt k hv).1; simp; omega))
theorem vmem_tail {w : World} {b o n cap : Nat} {t : DMem} {ts : List DMem} (h : VMem w (.slice (some ⟨b, o, none⟩) n cap) (t :: ts)) : VMem w (.slice (some ⟨b, o + 3, none⟩) ts.length (cap - 1)) ts := by
  obtain ⟨C, ⟨a, c, e, h1, h2, h3⟩, hC⟩ := h
  simp only [Value.slice.injEq] at e
  obtain ⟨rfl, rfl, rfl⟩ := e
  simp only [List.length_cons] at h1 h3
  obtain ⟨b', o', e', hb, hc⟩ := h3 (by omega)
  simp only [Option.some.injEq, Addr.mk.injEq] at e'
  obtain ⟨rfl, rfl, _⟩ := e'
  refine ⟨fun i j => C (i + 1) j, ⟨_, _, rfl, by omega, by omega, fun h0 => ⟨b, o + 3, rfl, hb, fun i hi j hj => ?_⟩⟩, fun i r hr => hC (i + 1) r (by simpa using hr)⟩
  have := hc (i + 1) (by omega) j hj
  rw [show o + 3 + i * 3 + j = o + (i + 1) * 3 + j by omega]
  exact this
/-- A drawn table in its box, before it is bent. -/
structure TabQ (w : World) (B g rb gt : Nat) (s : Int) (ts : List DMem) (tv : Value) (W : World) : Prop where
  box : W.heap[gt]? = some (.cells #[.int .i64 s, tv] 28 (0, 0))
  own : OwMem W w.heap.size tv ts
  cur : Cur W B g
  gr : w.grownBy W (some g)
  res : W.heap[rb]? = some (.cells #[.int .i64 0, .slice none 0 0] 28 (0, 0))
  lt : g < w.heap.size
  gg : w.heap.size ≤ gt
  rr : w.heap.size ≤ rb
  nr : rb ≠ gt
variable {w W W' : World} {B g rb gt : Nat} {s : Int} {ts : List DMem} {tv : Value}
theorem TabQ.draw (h : TabQ w B g rb gt s ts tv W) (hc : Cur W' B g) (hg : W.grownBy W' (some g)) : TabQ w B g rb gt s ts tv W' :=
  ⟨grown_blk hg (by have := h.lt; have := h.gg; omega) h.box, own_high h.own h.lt hg, hc, grown_tr h.gr hg, grown_blk hg (by have := h.lt; have := h.rr; omega) h.res, h.lt, h.gg, h.rr, h.nr⟩
theorem TabQ.ext (h : TabQ w B g rb gt s ts tv W) (e : Ext W W') : TabQ w B g rb gt s ts tv W' :=
  ⟨ext_blk e h.box, h.own.ext e, h.cur.ext e, grown_tr h.gr (ext_row e _), ext_blk e h.res, h.lt, h.gg, h.rr, h.nr⟩
/-- The answer's box is laid. -/
theorem TabQ.fin (h : TabQ w B g rb gt s ts tv W) (v0 v1 : Value) : TabQ w B g rb gt s ts tv W → OwMem ((W.setCell ⟨rb, 0, none⟩ v0).setCell ⟨rb, 1, none⟩ v1) w.heap.size tv ts ∧ Cur ((W.setCell ⟨rb, 0, none⟩ v0).setCell ⟨rb, 1, none⟩ v1) B g ∧ w.grownBy ((W.setCell ⟨rb, 0, none⟩ v0).setCell ⟨rb, 1, none⟩ v1) (some g) := fun _ => by
  have hs : W.grownBy ((W.setCell ⟨rb, 0, none⟩ v0).setCell ⟨rb, 1, none⟩ v1) (some rb) := (set_grown _ _ _ _).trans (set_grown _ _ _ _)
  exact ⟨h.own.keep hs (mem_ne h.own h.res), h.cur.off hs (by have := h.lt; have := h.rr; omega), grown_both h.gr hs h.rr⟩
theorem TabQ.bent (h : TabQ w B g rb gt s ts tv W) {a : Option Addr} {c : Nat} (hv : tv = .slice a ts.length c) (hl : ts.length ≤ 13) : TabBent w B g (.returned (.agg #[.int .i64 s, tv])) ((W.setCell ⟨rb, 0, none⟩ (.int .i64 s)).setCell ⟨rb, 1, none⟩ tv) := by
  obtain ⟨h1, h2, h3⟩ := h.fin (.int .i64 s) tv h
  subst hv
  exact ⟨⟨s, ts⟩, a, c, rfl, fun V hV => (own_hi h1 hV).v, hl, h2, h3⟩
theorem TabQ.setSelf (h : TabQ w B g rb gt s ts tv W) (q : Int) : TabQ w B g rb gt q ts tv (W.setCell ⟨gt, 0, none⟩ (.int .i64 q)) :=
  ⟨set_block h.box 0 _, h.own.keep (set_grown _ _ _ _) (mem_ne h.own h.box), h.cur.off (set_grown _ _ _ _) (by have := h.lt; have := h.gg; omega), grown_both h.gr (set_grown _ _ _ _) h.gg, set_other _ _ _ h.nr h.res, h.lt, h.gg, h.rr, h.nr⟩
theorem TabQ.setRow {tv' : Value} {ts' : List DMem} (h : TabQ w B g rb gt s ts tv W) (o : OwMem W w.heap.size tv' ts') : TabQ w B g rb gt s ts' tv' (W.setCell ⟨gt, 1, none⟩ tv') :=
  ⟨set_block h.box 1 _, o.keep (set_grown _ _ _ _) (mem_ne o h.box), h.cur.off (set_grown _ _ _ _) (by have := h.lt; have := h.gg; omega), grown_both h.gr (set_grown _ _ _ _) h.gg, set_other _ _ _ h.nr h.res, h.lt, h.gg, h.rr, h.nr⟩
/-- The row itself turned. -/
theorem TabQ.turn {ts' : List DMem} {r : Nat} (h : TabQ w B g rb gt s ts tv W) (o : OwMem W' w.heap.size tv ts') (hg : W.grownBy W' (some r)) (hr : tv.ownBlock = some r) : TabQ w B g rb gt s ts' tv W' := by
  have hb := (h.own.lt r hr).1
  have n1 : gt ≠ r := fun e => by
    rcases mem_ne h.own h.box with h' | h'
    · rw [hr] at h'; cases h'
    · exact h' (by rw [hr, e])
  have n2 : rb ≠ r := fun e => by
    rcases mem_ne h.own h.res with h' | h'
    · rw [hr] at h'; cases h'
    · exact h' (by rw [hr, e])
  exact ⟨grown_blk hg n1 h.box, o, h.cur.off hg (by have := h.lt; omega), grown_both h.gr hg hb, grown_blk hg n2 h.res, h.lt, h.gg, h.rr, h.nr⟩

theorem TabQ.cut (h : TabQ w B g rb gt s ts tv W) (v v0 v1 : Value) : OwMem (((W.setCell ⟨gt, 1, none⟩ v).setCell ⟨rb, 0, none⟩ v0).setCell ⟨rb, 1, none⟩ v1) w.heap.size tv ts ∧ Cur (((W.setCell ⟨gt, 1, none⟩ v).setCell ⟨rb, 0, none⟩ v0).setCell ⟨rb, 1, none⟩ v1) B g ∧ w.grownBy (((W.setCell ⟨gt, 1, none⟩ v).setCell ⟨rb, 0, none⟩ v0).setCell ⟨rb, 1, none⟩ v1) (some g) := by
  have h1 := h.lt
  have h2 := h.gg
  have h3 := h.rr
  have o4 := h.own.keep (set_grown W gt 1 v) (mem_ne h.own h.box)
  have c4 := h.cur.off (set_grown W gt 1 v) (by omega)
  have g4 := grown_both h.gr (set_grown W gt 1 v) h.gg
  have r4 := set_other gt 1 v h.nr h.res
  have hs : (W.setCell ⟨gt, 1, none⟩ v).grownBy (((W.setCell ⟨gt, 1, none⟩ v).setCell ⟨rb, 0, none⟩ v0).setCell ⟨rb, 1, none⟩ v1) (some rb) := (set_grown _ _ _ _).trans (set_grown _ _ _ _)
  exact ⟨o4.keep hs (mem_ne o4 r4), c4.off hs (by omega), grown_both g4 hs h.rr⟩
theorem vmem_nil (W : World) (a : Option Addr) : VMem W (.slice a 0 0) [] := ⟨fun _ _ => undef, ⟨a, 0, rfl, Nat.le_refl _, Nat.zero_le _, fun h => absurd h (Nat.lt_irrefl _)⟩, fun i r h => by cases h⟩
theorem tabq_ne {r : Nat} (h : TabQ w B g rb gt s ts tv W) (hr : tv.ownBlock = some r) : gt ≠ r ∧ rb ≠ r := by
  refine ⟨fun e => ?_, fun e => ?_⟩
  · rcases mem_ne h.own h.box with h' | h'
    · rw [hr] at h'; cases h'
    · exact h' (by rw [hr, e])
  · rcases mem_ne h.own h.res with h' | h'
    · rw [hr] at h'; cases h'
    · exact h' (by rw [hr, e])
theorem tabq_box {r n c : Nat} (h : TabQ w B g rb gt s ts (.slice (some ⟨r, 0, none⟩) n c) W) (hg : W.grownBy W' (Value.slice (some ⟨r, 0, none⟩) n c).ownBlock) : W'.heap[gt]? = some (.cells #[.int .i64 s, .slice (some ⟨r, 0, none⟩) n c] 28 (0, 0)) := grown_blk hg (tabq_ne h rfl).1 h.box
theorem tabq_res {r n c : Nat} (h : TabQ w B g rb gt s ts (.slice (some ⟨r, 0, none⟩) n c) W) (hg : W.grownBy W' (Value.slice (some ⟨r, 0, none⟩) n c).ownBlock) : W'.heap[rb]? = some (.cells #[.int .i64 0, .slice none 0 0] 28 (0, 0)) := grown_blk hg (tabq_ne h rfl).2 h.res
theorem tabq_app {r n c : Nat} {v : Value} {ts' : List DMem} (h : TabQ w B g rb gt s ts (.slice (some ⟨r, 0, none⟩) n c) W) (o : OwMem W' w.heap.size v ts') (hg : W.grownBy W' (Value.slice (some ⟨r, 0, none⟩) n c).ownBlock) : TabQ w B g rb gt s ts' v (W'.setCell ⟨gt, 1, none⟩ v) := by
  have hb := (h.own.lt r rfl).1
  have bx := tabq_box h hg
  have h1 := h.lt
  have h2 := h.gg
  exact ⟨set_block bx 1 _, o.keep (set_grown _ _ _ _) (mem_ne o bx), (Cur.off (x := r) h.cur hg (by omega)).off (set_grown _ _ _ _) (by omega), grown_both (grown_both (h := r) h.gr hg hb) (set_grown _ _ _ _) h.gg, set_other _ _ _ h.nr (tabq_res h hg), h.lt, h.gg, h.rr, h.nr⟩

end Go.Proofs.Ytmodliaieienfaa
