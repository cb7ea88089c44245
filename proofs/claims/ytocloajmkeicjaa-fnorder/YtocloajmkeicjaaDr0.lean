/- Draws of members: l10member, l10said. -/
import Derived.Test.YtocloajmkeicjaaCur3
import Derived.Test.YtocloajmkeicjaaElMem0
import Derived.Test.YtocloajmkeicjaaElG
namespace Go.Proofs.Ytocloajmkeicjaa
open Go.RowKit

/-- A cursor stays one where a later block turns. -/
theorem Cur.off {w w' : World} {B g x : Nat} (h : Cur w B g) (k : w.grownBy w' (some x)) (hx : g < x) : Cur w' B g := by
  obtain ⟨a, n, cap, xs, i, hh, hb, h1, h2, h3, h4, h5⟩ := h
  refine ⟨a, n, cap, xs, i, hh, by rw [k.block g (Array.getElem?_eq_some_iff.1 hb).1 (by simp; omega)]; exact hb, h1, h2, h3, ?_, h5⟩
  refine ⟨h4.len, fun j hj => ?_, h4.rng⟩
  obtain ⟨b, o', ha, hc⟩ := h4.cell j hj
  have hb' := h5 _ ha
  simp only at hb'
  exact ⟨b, o', ha, k.cell hc (by simp; omega)⟩
theorem cur_in {w : World} {B g : Nat} (h : Cur w B g) : g < w.heap.size ∧ B ≤ g := by
  obtain ⟨a, n, cap, xs, i, hh, hb, h1, h2, h3, h4, h5⟩ := h
  exact ⟨(Array.getElem?_eq_some_iff.1 hb).1, h3⟩
theorem grown_both {a b c : World} {g h : Nat} (x : a.grownBy b (some g)) (y : b.grownBy c (some h)) (hh : a.heap.size ≤ h) : a.grownBy c (some g) :=
  ⟨y.os.trans x.os, y.tape.trans x.tape, y.output.trans x.output, Nat.le_trans x.size y.size, fun k hk hn => (y.block k (Nat.lt_of_lt_of_le hk x.size) (by simp; omega)).trans (x.block k hk hn)⟩
/-- A block beside the cursor's is as it was. -/
theorem grown_blk {w w' : World} {g b : Nat} {o : Obj} (k : w.grownBy w' (some g)) (hn : b ≠ g) (h : w.heap[b]? = some o) : w'.heap[b]? = some o := (k.block b (Array.getElem?_eq_some_iff.1 h).1 (by simpa using hn)).trans h

/-- What a draw of a member leaves: its fields are ints; it says what fits Q. -/
def MemDrawn (Q : DMem → Prop) (w : World) (B g : Nat) (e : Ending) (w' : World) : Prop :=
  ∃ m : DMem, e = .returned (.agg #[.int .i64 m.id, .int .i64 m.st, .int .i64 m.life]) ∧ Q m ∧ Cur w' B g ∧ w.grownBy w' (some g)
/-- A member as l10member draws it. -/
def memLow (m : DMem) : Prop := 0 ≤ m.id ∧ m.id < 6 ∧ 0 ≤ m.st ∧ m.st < 4 ∧ 0 ≤ m.life ∧ m.life < 4
def memInt (m : DMem) : Prop := IsInt m.id ∧ IsInt m.st ∧ IsInt m.life
theorem memLow.int {m : DMem} (h : memLow m) : memInt m := by unfold memLow at h; unfold memInt IsInt; omega

set_option maxHeartbeats 2000000 in
theorem memC (B g : Nat) (w : World) (hc : Cur w B g) : Calls Try.prog 11 #[.pointer (some ⟨g, 0, none⟩)] w (MemDrawn memLow w B g) := by
  have hE : ∀ w : World, ∀ o, Ext w (w.alloc o) := fun w o => World.grownBy_alloc _ _ _
  have hgl := (cur_in hc).1
  have HC : Hid (Cur w B g) := hc
  clear hc
  go_enter Try.func11, Try.ntmps11
  go_wp2_with fail
  generalize hW : w.alloc _ = W
  have HW : Hid (Ext w W) := by rw [← hW]; exact hE _ _
  have PW : W.heap[w.heap.size]? = some (.cells #[.int .i64 0, .int .i64 0, .int .i64 0] 24 (0, 0)) := by rw [← hW]; exact heap_alloc_new w _
  clear hW
  refine (belowC B g 6 W (HC.out.ext HW.out) (by omega)).mono ?_
  rintro e w1 ⟨r1, h10, h11, _, rfl, hc1, hg1⟩
  have hr1 : r1 < 6 := h11 (by omega)
  have HC1 : Hid (Cur w1 B g) := hc1
  have HG1 : Hid (W.grownBy w1 (some g)) := hg1
  clear h11 hc1 hg1
  go_wp2_with fail
  refine (belowC B g 4 w1 HC1.out (by omega)).mono ?_
  rintro e w2 ⟨r2, h20, h21, _, rfl, hc2, hg2⟩
  have hr2 : r2 < 4 := h21 (by omega)
  have HC2 : Hid (Cur w2 B g) := hc2
  have HG2 : Hid (W.grownBy w2 (some g)) := HG1.out.trans hg2
  clear h21 hc2 hg2 HC1 HG1
  go_wp2_with fail
  refine (belowC B g 4 w2 HC2.out (by omega)).mono ?_
  rintro e w3 ⟨r3, h30, h31, _, rfl, hc3, hg3⟩
  have hr3 : r3 < 4 := h31 (by omega)
  have HC3 : Hid (Cur w3 B g) := hc3
  have HG3 : Hid (w.grownBy w3 (some g)) := (ext_row HW.out _).trans (HG2.out.trans hg3)
  have PW3 := grown_blk (HG2.out.trans hg3) (by omega) PW
  clear h31 hc3 hg3 HC2 HG2 PW
  obtain ⟨z0, y0⟩ := at_block PW3 0 _ rfl
  obtain ⟨z1, y1⟩ := at_block PW3 1 _ rfl
  obtain ⟨z2, y2⟩ := at_block PW3 2 _ rfl
  go_wp2
  refine bodyPost_ret (v := .agg #[.int .i64 r1, .int .i64 r2, .int .i64 r3]) (by simp [results, Try.results11, go_sem, *]) rfl ?_
  refine ⟨⟨r1, r2, r3⟩, rfl, by unfold memLow; simp only; omega, ((HC3.out.off (set_grown _ _ _ _) hgl).off (set_grown _ _ _ _) hgl).off (set_grown _ _ _ _) hgl, ?_⟩
  exact grown_both (grown_both (grown_both HG3.out (set_grown _ _ _ _) (Nat.le_refl _)) (set_grown _ _ _ _) (Nat.le_refl _)) (set_grown _ _ _ _) (Nat.le_refl _)

set_option maxRecDepth 20000 in
set_option maxHeartbeats 4000000 in
theorem saidC (B g : Nat) (w : World) (hc : Cur w B g) : Calls Try.prog 8 #[.pointer (some ⟨g, 0, none⟩)] w (MemDrawn memInt w B g) := by
  have hE : ∀ w : World, ∀ o, Ext w (w.alloc o) := fun w o => World.grownBy_alloc _ _ _
  have hgl := (cur_in hc).1
  have HC : Hid (Cur w B g) := hc
  clear hc
  go_enter Try.func8, Try.ntmps8
  go_wp2_with fail
  generalize hW : w.alloc _ = W
  have HW : Hid (Ext w W) := by rw [← hW]; exact hE _ _
  have PW : W.heap[w.heap.size]? = some (.cells #[.int .i64 0, .int .i64 0, .int .i64 0] 24 (0, 0)) := by rw [← hW]; exact heap_alloc_new w _
  clear hW
  refine (memC B g W (HC.out.ext HW.out)).mono ?_
  rintro e w1 ⟨m, rfl, hm, hc1, hg1⟩
  have HM : Hid (memInt m) := hm.int
  have HG1 : Hid (w.grownBy w1 (some g)) := (ext_row HW.out _).trans hg1
  have P1 := grown_blk hg1 (by omega) PW
  have s1 : w.heap.size < w1.heap.size := (Array.getElem?_eq_some_iff.1 P1).1
  have HC1 : Hid (Cur w1 B g) := hc1
  obtain ⟨mi, ms, ml⟩ := m
  clear hm hc1 hg1 PW
  simp only at HM ⊢
  go_wp2_with fail
  generalize hV : w1.alloc _ = V
  have XV : Ext w1 V := by rw [← hV]; exact hE _ _
  have PM : V.heap[w1.heap.size]? = some (.cells #[.int .i64 mi, .int .i64 ms, .int .i64 ml] 24 (0, 0)) := by rw [← hV]; exact heap_alloc_new w1 _
  clear hV
  refine (onceC B g 8 V (HC1.out.ext XV) (by omega)).mono ?_
  rintro e w2 ⟨y, rfl, hc2, hg2⟩
  have HC2 : Hid (Cur w2 B g) := hc2
  have HG2 : Hid (w.grownBy w2 (some g)) := (HG1.out.trans (ext_row XV _)).trans hg2
  have P2 := grown_blk hg2 (by omega) (ext_blk XV P1)
  have M2 := grown_blk hg2 (by omega) PM
  have HEND : Hid (∀ (W : World) (a b c : Int), memInt ⟨a, b, c⟩ → Cur W B g → w.grownBy W (some g) → W.heap[w1.heap.size]? = some (.cells #[.int .i64 a, .int .i64 b, .int .i64 c] 24 (0, 0)) → W.heap[w.heap.size]? = some (.cells #[.int .i64 0, .int .i64 0, .int .i64 0] 24 (0, 0)) → MemDrawn memInt w B g (.returned (.agg #[.int .i64 a, .int .i64 b, .int .i64 c])) (((W.setCell ⟨w.heap.size, 0, none⟩ (.int .i64 a)).setCell ⟨w.heap.size, 1, none⟩ (.int .i64 b)).setCell ⟨w.heap.size, 2, none⟩ (.int .i64 c))) := fun W a b c hi hc hg _ _ => ⟨⟨a, b, c⟩, rfl, hi, ((hc.off (set_grown _ _ _ _) hgl).off (set_grown _ _ _ _) hgl).off (set_grown _ _ _ _) hgl, grown_both (grown_both (grown_both hg (set_grown _ _ _ _) (Nat.le_refl _)) (set_grown _ _ _ _) (Nat.le_refl _)) (set_grown _ _ _ _) (Nat.le_refl _)⟩
  clear hc2 hg2 P1 PM XV HC1 HG1
  have hn1 : w1.heap.size ≠ w.heap.size := by omega
  have hn2 : w1.heap.size ≠ g := by omega
  generalize w1.heap.size = bm at *
  have HP2 : Hid (w2.heap[w.heap.size]? = some (.cells #[.int .i64 0, .int .i64 0, .int .i64 0] 24 (0, 0))) := P2
  have HM2 : Hid (w2.heap[bm]? = some (.cells #[.int .i64 mi, .int .i64 ms, .int .i64 ml] 24 (0, 0))) := M2
  cases y
  · obtain ⟨z0, y0⟩ := at_block P2 0 _ rfl
    obtain ⟨z1, y1⟩ := at_block P2 1 _ rfl
    obtain ⟨z2, y2⟩ := at_block P2 2 _ rfl
    obtain ⟨x0, _⟩ := at_block M2 0 _ rfl
    obtain ⟨x1, _⟩ := at_block M2 1 _ rfl
    obtain ⟨x2, _⟩ := at_block M2 2 _ rfl
    clear P2 M2
    go_wp2
    exact bodyPost_ret (v := .agg #[.int .i64 mi, .int .i64 ms, .int .i64 ml]) (by simp [results, Try.results8, go_sem, *]) rfl (HEND.out w2 mi ms ml HM.out HC2.out HG2.out HM2.out HP2.out)
  go_wp2_with fail
  refine (belowC B g 3 w2 HC2.out (by omega)).mono ?_
  rintro e w3 ⟨r, hr0, hr1, _, rfl, hc3, hg3⟩
  have hr2 : r < 3 := hr1 (by omega)
  have HC3 : Hid (Cur w3 B g) := hc3
  have HG3 : Hid (w.grownBy w3 (some g)) := HG2.out.trans hg3
  have HP3 : Hid (w3.heap[w.heap.size]? = some (.cells #[.int .i64 0, .int .i64 0, .int .i64 0] 24 (0, 0))) := grown_blk hg3 (by omega) P2
  have HM3 : Hid (w3.heap[bm]? = some (.cells #[.int .i64 mi, .int .i64 ms, .int .i64 ml] 24 (0, 0))) := grown_blk hg3 hn2 M2
  have s3 : w3.heap.size ≠ g := by have := (cur_in hc3).1; omega
  clear hr1 hc3 hg3 P2 M2 HC2 HG2 HP2 HM2
  have HPK : Hid (∀ (zs : List Int) (cs : Array Value), cs.toList = zs.map (Value.int .i64) → (∀ z ∈ zs, IsInt z) → 0 < zs.length → zs.length ≤ 100 → Calls Try.prog 13 #[.pointer (some ⟨g, 0, none⟩), .slice (some ⟨w3.heap.size, 0, none⟩) zs.length zs.length] (w3.alloc (.cells cs 3)) fun e w' => ∃ q, IsInt q ∧ e = .returned (.int .i64 q) ∧ Cur w' B g ∧ w.grownBy w' (some g) ∧ w'.heap[w.heap.size]? = some (.cells #[.int .i64 0, .int .i64 0, .int .i64 0] 24 (0, 0)) ∧ w'.heap[bm]? = some (.cells #[.int .i64 mi, .int .i64 ms, .int .i64 ml] 24 (0, 0))) := fun zs cs h1 h2 h3 h4 => (pickC B g w3.heap.size zs.length _ (HC3.out.ext (hE _ _)) h3 h4 s3 (lit_cells w3 zs cs 3 h1 h2)).mono fun e w' ⟨q, hq, he, hc, hg⟩ => ⟨q, hq, he, hc, (HG3.out.trans (ext_row (hE _ _) _)).trans hg, grown_blk hg (by omega) (ext_blk (hE _ _) HP3.out), grown_blk hg hn2 (ext_blk (hE _ _) HM3.out)⟩
  have HSET : Hid (∀ (W : World) (a b c : Int) (j : Nat) (q : Int), W.heap[w.heap.size]? = some (.cells #[.int .i64 0, .int .i64 0, .int .i64 0] 24 (0, 0)) → W.heap[bm]? = some (.cells #[.int .i64 a, .int .i64 b, .int .i64 c] 24 (0, 0)) → Cur W B g → w.grownBy W (some g) → w.heap.size ≤ bm → Cur (W.setCell ⟨bm, j, none⟩ (.int .i64 q)) B g ∧ w.grownBy (W.setCell ⟨bm, j, none⟩ (.int .i64 q)) (some g) ∧ (W.setCell ⟨bm, j, none⟩ (.int .i64 q)).heap[w.heap.size]? = some (.cells #[.int .i64 0, .int .i64 0, .int .i64 0] 24 (0, 0)) ∧ (W.setCell ⟨bm, j, none⟩ (.int .i64 q)).heap[bm]? = some (.cells ((#[.int .i64 a, .int .i64 b, .int .i64 c] : Array Value).setIfInBounds j (.int .i64 q)) 24 (0, 0))) := fun W a b c j q p1 p2 c1 g1 hb => ⟨c1.off (set_grown _ _ _ _) (by omega), grown_both g1 (set_grown _ _ _ _) hb, set_other bm _ _ (Ne.symm hn1) p1, set_block p2 j _⟩
  have hbm : w.heap.size ≤ bm := by omega
  by_cases e0 : r = 0
  · subst e0
    go_wp2_with fail
    refine (HPK.out [-1, 11, 12] _ rfl (by intro z hz; simp only [List.mem_cons, List.not_mem_nil, or_false] at hz; unfold IsInt; omega) (by simp) (by simp)).mono ?_
    rintro e w4 ⟨q, hq, rfl, hc4, hg4, P4, M4⟩
    obtain ⟨x0, f0⟩ := at_block M4 0 _ rfl
    obtain ⟨c5, g5, P5, M5⟩ := HSET.out w4 mi ms ml 0 q P4 M4 hc4 hg4 hbm
    have HE := HEND.out _ q ms ml ⟨hq, HM.out.2⟩ c5 g5 M5 P5
    have HE' : Hid _ := HE
    obtain ⟨z0, y0⟩ := at_block P5 0 _ rfl
    obtain ⟨z1, y1⟩ := at_block P5 1 _ rfl
    obtain ⟨z2, y2⟩ := at_block P5 2 _ rfl
    obtain ⟨v0, _⟩ := at_block M5 0 _ rfl
    obtain ⟨v1, _⟩ := at_block M5 1 _ rfl
    obtain ⟨v2, _⟩ := at_block M5 2 _ rfl
    clear P4 M4 P5 M5 c5 g5 HE HPK HSET HEND
    go_wp2
    exact bodyPost_ret (v := .agg #[.int .i64 q, .int .i64 ms, .int .i64 ml]) (by simp [results, Try.results8, go_sem, *]) rfl HE'.out
  have e0' : (r == 0) = false := by simpa using e0
  by_cases e1 : r = 1
  · subst e1
    go_wp2_with fail
    refine (HPK.out [-1, 4] _ rfl (by intro z hz; simp only [List.mem_cons, List.not_mem_nil, or_false] at hz; unfold IsInt; omega) (by simp) (by simp)).mono ?_
    rintro e w4 ⟨q, hq, rfl, hc4, hg4, P4, M4⟩
    obtain ⟨x0, f0⟩ := at_block M4 1 _ rfl
    obtain ⟨c5, g5, P5, M5⟩ := HSET.out w4 mi ms ml 1 q P4 M4 hc4 hg4 hbm
    have HE := HEND.out _ mi q ml ⟨HM.out.1, hq, HM.out.2.2⟩ c5 g5 M5 P5
    have HE' : Hid _ := HE
    obtain ⟨z0, y0⟩ := at_block P5 0 _ rfl
    obtain ⟨z1, y1⟩ := at_block P5 1 _ rfl
    obtain ⟨z2, y2⟩ := at_block P5 2 _ rfl
    obtain ⟨v0, _⟩ := at_block M5 0 _ rfl
    obtain ⟨v1, _⟩ := at_block M5 1 _ rfl
    obtain ⟨v2, _⟩ := at_block M5 2 _ rfl
    clear P4 M4 P5 M5 c5 g5 HE HPK HSET HEND
    go_wp2
    exact bodyPost_ret (v := .agg #[.int .i64 mi, .int .i64 q, .int .i64 ml]) (by simp [results, Try.results8, go_sem, *]) rfl HE'.out
  have e1' : (r == 1) = false := by simpa using e1
  clear e0 e1
  go_wp2_with fail
  refine (HPK.out [-1, 1000, 999, 1001] _ rfl (by intro z hz; simp only [List.mem_cons, List.not_mem_nil, or_false] at hz; unfold IsInt; omega) (by simp) (by simp)).mono ?_
  rintro e w4 ⟨q, hq, rfl, hc4, hg4, P4, M4⟩
  obtain ⟨x0, f0⟩ := at_block M4 2 _ rfl
  obtain ⟨c5, g5, P5, M5⟩ := HSET.out w4 mi ms ml 2 q P4 M4 hc4 hg4 hbm
  have HE := HEND.out _ mi ms q ⟨HM.out.1, HM.out.2.1, hq⟩ c5 g5 M5 P5
  have HE' : Hid _ := HE
  obtain ⟨z0, y0⟩ := at_block P5 0 _ rfl
  obtain ⟨z1, y1⟩ := at_block P5 1 _ rfl
  obtain ⟨z2, y2⟩ := at_block P5 2 _ rfl
  obtain ⟨v0, _⟩ := at_block M5 0 _ rfl
  obtain ⟨v1, _⟩ := at_block M5 1 _ rfl
  obtain ⟨v2, _⟩ := at_block M5 2 _ rfl
  clear P4 M4 P5 M5 c5 g5 HE HPK HSET HEND
  go_wp2
  exact bodyPost_ret (v := .agg #[.int .i64 mi, .int .i64 ms, .int .i64 q]) (by simp [results, Try.results8, go_sem, *]) rfl HE'.out

end Go.Proofs.Ytocloajmkeicjaa
