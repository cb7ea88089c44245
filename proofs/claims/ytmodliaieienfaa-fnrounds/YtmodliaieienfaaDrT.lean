
/- Draws of tables: l10table. -/
import Derived.Test.YtmodliaieienfaaDr0
import Derived.Test.YtmodliaieienfaaMs8b
import Derived.Test.YtmodliaieienfaaMs8c
import Derived.Test.YtmodliaieienfaaMsC2
import Derived.Test.YtmodliaieienfaaMs5l
import Derived.Test.YtmodliaieienfaaHd0
namespace Go.Proofs.Ytmodliaieienfaa
open Go.RowKit

theorem Cur.say {w w' : World} {B g gt r : Nat} (h : Cur w B g) (k : SayW gt (some r) w w') (h1 : g < gt) (h2 : g < r) : Cur w' B g := by
  obtain ⟨a, n, cap, xs, i, hh, hb, h3, h4, h5, h6, h7⟩ := h
  have hg := (Array.getElem?_eq_some_iff.1 hb).1
  refine ⟨a, n, cap, xs, i, hh, by rw [k.block g hg (by omega) (by simp; omega)]; exact hb, h3, h4, h5, ?_, h7⟩
  refine ⟨h6.len, fun j hj => ?_, h6.rng⟩
  obtain ⟨b, o', ha, hc⟩ := h6.cell j hj
  have hb' := h7 _ ha
  simp only at hb'
  refine ⟨b, o', ha, ?_⟩
  rw [← hc]
  unfold World.cell?
  rw [k.block b (by omega) (by omega) (by simp; omega)]
theorem grown_say {a b c : World} {g gt r : Nat} (x : a.grownBy b (some g)) (s : SayW gt (some r) b c) (h1 : a.heap.size ≤ gt) (h2 : a.heap.size ≤ r) : a.grownBy c (some g) :=
  ⟨s.os.trans x.os, s.tape.trans x.tape, s.output.trans x.output, Nat.le_trans x.size s.size, fun k hk hn => (s.block k (Nat.lt_of_lt_of_le hk x.size) (by omega) (by simp; omega)).trans (x.block k hk hn)⟩
theorem blk_say {b c : World} {gt r k : Nat} {o : Obj} (s : SayW gt (some r) b c) (h : b.heap[k]? = some o) (h1 : k ≠ gt) (h2 : k ≠ r) : c.heap[k]? = some o := (s.block k (Array.getElem?_eq_some_iff.1 h).1 h1 (by simpa using h2)).trans h
/-- A table that is drawn, in its box: all of it new but the cursor. -/
structure TabS (w : World) (B g rb gt : Nat) (T : DTab) (tv : Value) (W : World) : Prop where
  box : W.heap[gt]? = some (.cells #[.int .i64 T.self, tv] 28 (0, 0))
  own : OwMem W w.heap.size tv T.mems
  ok : TabP T
  cur : Cur W B g
  gr : w.grownBy W (some g)
  res : W.heap[rb]? = some (.cells #[.int .i64 0, .slice none 0 0] 28 (0, 0))
  lt : g < w.heap.size
  gg : w.heap.size ≤ gt
  nr : rb ≠ gt
theorem mem_ne {W : World} {base b : Nat} {v : Value} {ts : List DMem} {cs : Array Value} (o : OwMem W base v ts) (h : W.heap[b]? = some (.cells cs 28 (0, 0))) : v.ownBlock = none ∨ v.ownBlock ≠ some b := by
  right
  intro e
  rcases o.2 with ⟨hv, _⟩ | ⟨k, c, cur, hv, _, hg, _⟩
  · rw [hv] at e; cases e
  · rw [hv] at e
    simp only [Value.ownBlock, Option.some.injEq] at e
    subst e
    rw [h] at hg
    simp only [Option.some.injEq, Obj.cells.injEq] at hg
    exact absurd hg.2.1 (by decide)
theorem tab_pos {T : DTab} (h : TabP T) : 0 < T.mems.length := by
  obtain ⟨i, t, ht, _⟩ := h.2.2
  have := (List.getElem?_eq_some_iff.1 ht).1
  omega
theorem tab_new {s : Int} (h0 : 0 ≤ s) (h1 : s < 6) : TabP (newD s).1 := by
  unfold newD
  rw [if_pos (by omega)]
  refine tab_of (fun t ht => ?_) (fun i j a b hij ha hb => ?_) ⟨0, ⟨s, 0, 0⟩, rfl, rfl, rfl⟩
  · simp only [List.mem_singleton] at ht
    subst ht
    unfold memB
    simp
    omega
  · have := (List.getElem?_eq_some_iff.1 hb).1
    simp only [List.length_singleton] at this
    omega
theorem low_mem {m : DMem} (h : memLow m) : memB m = true := by
  unfold memLow at h
  unfold memB
  simp
  omega
variable {w W W' : World} {B g rb gt : Nat} {T : DTab} {tv : Value}
/-- The cursor goes on. -/
theorem TabS.draw (h : TabS w B g rb gt T tv W) (hc : Cur W' B g) (hg : W.grownBy W' (some g)) : TabS w B g rb gt T tv W' :=
  ⟨grown_blk hg (by have := h.lt; have := h.gg; omega) h.box, h.own.keep hg (by
    cases hv : tv.ownBlock with
    | none => exact .inl rfl
    | some k => exact .inr (by have := (h.own.lt k hv).1; have := h.lt; simp; omega)), h.ok, hc, grown_tr h.gr hg, (hg.block rb (Array.getElem?_eq_some_iff.1 h.res).1 (by
    intro e
    simp only [Option.some.injEq] at e
    obtain ⟨_, _, _, _, _, _, hb, _⟩ := h.cur
    have h2 := h.res
    rw [e, hb] at h2
    simp only [Option.some.injEq, Obj.cells.injEq] at h2
    exact absurd h2.2.1 (by decide))).trans h.res, h.lt, h.gg, h.nr⟩

end Go.Proofs.Ytmodliaieienfaa
