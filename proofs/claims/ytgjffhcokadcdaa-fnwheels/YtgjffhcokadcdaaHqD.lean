/- Drawn wheels: l7draw. -/
import Derived.Test.YtgjffhcokadcdaaHpY
import Derived.Test.YtgjffhcokadcdaaCur3
namespace Go.Proofs.Ytgjffhcokadcdaa
open Go.RowKit

/-- A cursor stays one where a later block turns. -/
theorem Cur.far {w w' : World} {B g x : Nat} (h : Cur w B g) (k : w.grownBy w' (some x)) (hx : g < x) : Cur w' B g := by
  obtain ⟨a, n, cap, xs, i, hh, hb, h1, h2, h3, h4, h5⟩ := h
  refine ⟨a, n, cap, xs, i, hh, by rw [k.block g (Array.getElem?_eq_some_iff.1 hb).1 (by simp; omega)]; exact hb, h1, h2, h3, ?_, h5⟩
  refine ⟨h4.len, fun j hj => ?_, h4.rng⟩
  obtain ⟨b, o', ha, hc⟩ := h4.cell j hj
  have hb' := h5 _ ha
  simp only at hb'
  exact ⟨b, o', ha, k.cell hc (by simp; omega)⟩
theorem cur_lt' {w : World} {B g : Nat} (h : Cur w B g) : g < w.heap.size ∧ B ≤ g := by
  obtain ⟨a, n, cap, xs, i, hh, hb, h1, h2, h3, h4, h5⟩ := h
  exact ⟨(Array.getElem?_eq_some_iff.1 hb).1, h3⟩
/-- A wheel in a box stays where an earlier block turns. -/
theorem WB.far {w w' : World} {base h cap x : Nat} {now : Int} {a : Option Addr} {ts : List DTim} (p : WB w base h now a cap ts) (k : w.grownBy w' (some x)) (hx : x < base) : WB w' base h now a cap ts := by
  refine ⟨(k.block h (Array.getElem?_eq_some_iff.1 p.box).1 (by have := p.low; simp; omega)).trans p.box, p.row.kept k ?_, p.low⟩
  cases hv : (Value.slice a ts.length cap).ownBlock with
  | none => exact .inl rfl
  | some y =>
    right
    have := (World.ownsRow.lt p.row y hv).1
    simp
    omega
theorem grown_two {a b c : World} {g h : Nat} (x : a.grownBy b (some g)) (y : b.grownBy c (some h)) (hh : a.heap.size ≤ h) : a.grownBy c (some g) :=
  ⟨y.os.trans x.os, y.tape.trans x.tape, y.output.trans x.output, Nat.le_trans x.size y.size, fun k hk hn => (y.block k (Nat.lt_of_lt_of_le hk x.size) (by simp; omega)).trans (x.block k hk hn)⟩

/-- A wheel that was drawn, in memory of its own. -/
def DrawP (most : Nat) (w : World) (B g : Nat) (e : Ending) (w' : World) : Prop := ∃ now tv ts, e = .returned (.agg #[.int .i64 now, tv]) ∧ IsInt now ∧ ts.length ≤ most ∧ OwT w' w.heap.size tv ts ∧ Cur w' B g ∧ w.grownBy w' (some g)

theorem insT_len (ts : List DTim) (id : Int) (t : DTim) : (insT (lessT ts id) t).length ≤ ts.length + 1 := by
  rw [(insT_perm _ _).length_eq]
  unfold lessT
  split
  · simp
  · rw [List.length_append, List.length_eraseIdx]
    split <;> simp <;> omega

set_option maxRecDepth 20000 in
set_option maxHeartbeats 4000000 in
theorem drawC (B g : Nat) (w : World) (hc : Cur w B g) : Calls Try.prog 27 #[.pointer (some ⟨g, 0, none⟩)] w (DrawP 8 w B g) := by
  have hE : ∀ w : World, ∀ o, Ext w (w.alloc o) := fun w o => World.grownBy_alloc _ _ _
  have HC0 : Hid (Cur w B g) := hc
  have hgl := (cur_lt' hc).1
  clear hc
  go_enter Try.func27, Try.ntmps27
  go_wp2_with fail
  generalize hW : w.alloc _ = W
  have HW : Hid (Ext w W) := by rw [← hW]; exact hE _ _
  have PW : W.heap[w.heap.size]? = some (.cells #[.int .i64 0, .slice none 0 0] 25 (0, 0)) := by rw [← hW]; exact heap_alloc_new w _
  clear hW
  refine (belowC B g 20 W (HC0.out.ext HW.out) (by omega)).mono ?_
  rintro e w1 ⟨now, hn0, hn1, _, rfl, hc1, hg1⟩
  have hn2 : now < 20 := hn1 (by omega)
  have HG1 : Hid (w.grownBy w1 (some g)) := (ext_row HW.out _).trans hg1
  have HC1 : Hid (Cur w1 B g) := hc1
  have PW1 : w1.heap[w.heap.size]? = some (.cells #[.int .i64 0, .slice none 0 0] 25 (0, 0)) := (hg1.block _ (Array.getElem?_eq_some_iff.1 PW).1 (by simp; omega)).trans PW
  have hw1 : w.heap.size < w1.heap.size := (Array.getElem?_eq_some_iff.1 PW1).1
  clear hn1 hc1 hg1 PW
  go_wp2_with fail
  generalize hV : w1.alloc _ = V
  have HV : Hid (Ext w1 V) := by rw [← hV]; exact hE _ _
  have HWB : Hid (WB V w.heap.size w1.heap.size now none 0 []) := by rw [← hV]; exact ⟨heap_alloc_new w1 _, World.ownsRow_nil _ _ _ _, Nat.le_of_lt hw1⟩
  clear hV
  refine (belowC B g 8 V (HC1.out.ext HV.out) (by omega)).mono ?_
  rintro e w2 ⟨nn, hm0, hm1, _, rfl, hc2, hg2⟩
  have hm2 : nn < 8 := hm1 (by omega)
  have HG2 : Hid (w.grownBy w2 (some g)) := (HG1.out.trans (ext_row HV.out _)).trans hg2
  have HC2 : Hid (Cur w2 B g) := hc2
  have HWB2 : Hid (WB w2 w.heap.size w1.heap.size now none 0 []) := HWB.out.far hg2 hgl
  have PW2 : w2.heap[w.heap.size]? = some (.cells #[.int .i64 0, .slice none 0 0] 25 (0, 0)) := (hg2.block _ (Nat.lt_of_lt_of_le hw1 HV.out.size) (by simp; omega)).trans ((HV.out.block _ hw1 (by simp)).trans PW1)
  obtain ⟨m, rfl⟩ := Int.eq_ofNat_of_zero_le hm0
  clear hm1 hc2 hg2 PW1 hm0
  go_wp2_with fail
  go_loopw [5] (fun i wr => ∃ k : Nat, k ≤ m ∧ i = .int .i64 k ∧ Hid (Cur wr B g) ∧ Hid (w.grownBy wr (some g)) ∧ Hid (wr.heap[w.heap.size]? = some (.cells #[.int .i64 0, .slice none 0 0] 25 (0, 0))) ∧ ∃ a c ts, Hid (WB wr w.heap.size w1.heap.size now a c ts) ∧ Hid (ts.length ≤ k)) (fun i _ => m - (intOf i).toNat)
  case atStart => exact ⟨0, Nat.zero_le _, rfl, HC2, HG2, PW2, none, 0, [], HWB2, Nat.le_refl _⟩
  case round =>
    obtain ⟨k, hk, rfl, HC, HG, HPW, a, c, ts, HB, HL⟩ := hrel
    by_cases hlt : k < m
    · have hlt' : (k : Int) < (m : Int) := by omega
      go_wp2_with fail
      refine (belowC B g 9 wr HC.out (by omega)).mono ?_
      rintro e w3 ⟨r1, hr0, hr1, _, rfl, hc3, hg3⟩
      have HC3 : Hid (Cur w3 B g) := hc3
      have HG3 : Hid (wr.grownBy w3 (some g)) := hg3
      clear hr1 hc3 hg3
      go_wp2_with fail
      refine (belowC B g 12 w3 HC3.out (by omega)).mono ?_
      rintro e w4 ⟨r2, hq0, hq1, _, rfl, hc4, hg4⟩
      have hq2 : r2 < 12 := hq1 (by omega)
      have HC4 : Hid (Cur w4 B g) := hc4
      have HG4 : Hid (wr.grownBy w4 (some g)) := HG3.out.trans hg4
      have HB4 : Hid (WB w4 w.heap.size w1.heap.size now a c ts) := HB.out.far HG4.out hgl
      clear hq1 hc4 hg4 HC3 HG3
      go_wp2_with fail
      refine (ssetV w1.heap.size w.heap.size c now a ts r1 (1 + r2) w4 HB4.out (by have := HL.out; omega) (Nat.le_trans HG.out.size HG4.out.size) hn0 (by omega)).mono ?_
      rintro e w5 ⟨q, a5, c5, ts5, rfl, hq5, p5, g5⟩
      have HC5 : Hid (Cur w5 B g) := HC4.out.far g5 (by omega)
      have HG5 : Hid (w.grownBy w5 (some g)) := grown_two (HG.out.trans HG4.out) g5 (Nat.le_of_lt hw1)
      have HPW5 : Hid (w5.heap[w.heap.size]? = some (.cells #[.int .i64 0, .slice none 0 0] 25 (0, 0))) := by
        have hl0 := (Array.getElem?_eq_some_iff.1 HPW.out).1
        rw [g5.block _ (Nat.lt_of_lt_of_le hl0 HG4.out.size) (by simp; omega), HG4.out.block _ hl0 (by simp; omega)]
        exact HPW.out
      have HB5 : Hid (WB w5 w.heap.size w1.heap.size now a5 c5 ts5) := p5
      have HL5 : Hid (ts5.length ≤ k + 1) := by
        show _ ≤ _
        have := HL.out
        rcases hq5 with ⟨_, _, e5⟩ | ⟨_, _, e5⟩
        · rw [e5]; omega
        · rw [e5]
          have := insT_len ts r1 ⟨r1, now + (1 + r2)⟩
          omega
      clear hq5 p5 g5
      go_wp2
      go_roundw
      case rel => exact ⟨k + 1, by omega, by go_num, HC5, HG5, HPW5, a5, c5, ts5, HB5, HL5⟩
      case measure => simp [intOf]; omega
    · obtain ⟨z0, z1, _⟩ := HB.out.cells
      obtain ⟨x0, f0⟩ := at_block HPW.out 0 _ rfl
      obtain ⟨x1, f1⟩ := at_block HPW.out 1 _ rfl
      obtain ⟨lt, hlt0⟩ : ∃ lt, lt = ts.length := ⟨_, rfl⟩
      have HROW : Hid (OwT wr w.heap.size (.slice a lt c) ts) := by rw [hlt0]; exact HB.out.row
      have HNV : Hid ((Value.slice a lt c).ownBlock = none ∨ (Value.slice a lt c).ownBlock ≠ some w.heap.size) := by
        right
        intro e
        rcases HROW.out.2 with ⟨hv, _⟩ | ⟨y, c', cur, hv, _, hgy, _⟩
        · rw [hv] at e; cases e
        · rw [hv] at e
          simp only [Value.ownBlock, Option.some.injEq] at e
          subst e
          rw [HPW.out] at hgy
          simp at hgy
      rw [← hlt0] at z1
      have hne : w1.heap.size ≠ w.heap.size := by omega
      have hne' : w.heap.size ≠ w1.heap.size := by omega
      clear hlt0
      go_wp2
      refine bodyPost_ret (v := .agg #[.int .i64 now, .slice a lt c]) (by simp [results, Try.results27, go_sem, *]) rfl ?_
      refine ⟨now, _, ts, rfl, by unfold IsInt; omega, by have := HL.out; omega, (HROW.out.kept (set_grown _ _ _ _) HNV.out).kept (set_grown _ _ _ _) HNV.out, (HC.out.far (set_grown _ _ _ _) hgl).far (set_grown _ _ _ _) hgl, ?_⟩
      exact grown_two (grown_two HG.out (set_grown _ _ _ _) (Nat.le_refl _)) (set_grown _ _ _ _) (Nat.le_refl _)

end Go.Proofs.Ytgjffhcokadcdaa
