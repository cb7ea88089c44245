/- The contract of the specification's WheelStop. -/
import Derived.Test.YtiinknnnpcikgaaHpS
namespace Go.Proofs.Ytiinknnnpcikgaa
open Go.RowKit

/-- A wheel and a bool, to be read. -/
def SResW (R : DWheel × Bool) (w : World) (e : Ending) (w' : World) : Prop := ∃ tv, e = .returned (.tuple #[.agg #[.int .i64 R.1.now, tv], .bool R.2]) ∧ VTims w' tv R.1.tms ∧ Below w.heap.size w w'

set_option maxHeartbeats 4000000 in
theorem sStopV (v : Value) (D : DWheel) (id : Int) (w : World) (h : VWheel w v D) (hl : D.tms.length ≤ 1048576) : Calls Try.prog 13 #[v, .int .i64 id] w (SResW (stopD (tB (WheelP D)) D id) w) := by
  have HV0 : Hid (VWheel w v D) := h
  obtain ⟨tv, rfl, h⟩ := h
  obtain ⟨ta, tc', rfl⟩ := h.shape
  obtain ⟨n, hn⟩ : ∃ n, n = D.tms.length := ⟨_, rfl⟩
  rw [← hn] at HV0 ⊢
  clear h hn
  cases hok : tB (WheelP D) with
  | false =>
    have HOK : Hid (tB (WheelP D) = false) := hok
    clear hok
    go_enter Try.func13, Try.ntmps13
    go_wp2_with fail
    generalize hW : World.alloc (World.alloc w _) _ = W
    have BW : Below w.heap.size w W := by rw [← hW]; exact ((Below.refl _ w).alloc (Nat.le_refl _) _).alloc (by simp) _
    have PR : W.heap[w.heap.size + 1]? = some (.cells #[.int .i64 0, .slice none 0 0] 28 (0, 0)) := by rw [← hW]; simpa using heap_alloc_new (World.alloc w (.cells #[.int .i64 D.now, .slice ta n tc'] 28)) (.cells #[.int .i64 0, .slice none 0 0] 28)
    clear hW
    refine (sWheelOkV _ D W (HV0.out.ext (ext_below BW))).mono ?_
    rintro e w1 ⟨rfl, b1⟩
    rw [HOK.out]
    have PR1 := below_blk b1 (Array.getElem?_eq_some_iff.1 PR).1 PR
    have HB1 : Hid (Below w.heap.size w w1) := BW.trans (b1.mono BW.size)
    obtain ⟨z0, y0⟩ := at_block PR1 0 _ rfl
    obtain ⟨z1, y1⟩ := at_block PR1 1 _ rfl
    clear b1 PR PR1 BW
    go_wp2
    refine bodyPost_ret (v := .tuple #[.agg #[.int .i64 0, .slice none 0 0], .bool false]) (by simp [results, Try.results13, go_sem, *]) rfl ?_
    refine ⟨_, rfl, OwT.v (base := 0) (ts := []) (World.ownsRow_nil _ _ _ _), ?_⟩
    first | exact HB1.out | exact HB1.out.setCell (by simp) _ | exact (HB1.out.setCell (by simp) _).setCell (by simp) _
  | true =>
    have HOK : Hid (tB (WheelP D) = true) := hok
    have HD : Hid (WheelP D) := tB_iff.1 hok
    have HL : Hid (D.tms.length ≤ 1048576) := hl
    clear hok
    go_enter Try.func13, Try.ntmps13
    go_wp2_with fail
    generalize hW : World.alloc (World.alloc w _) _ = W
    have BW : Below w.heap.size w W := by rw [← hW]; exact ((Below.refl _ w).alloc (Nat.le_refl _) _).alloc (by simp) _
    have PB : W.heap[w.heap.size]? = some (.cells #[.int .i64 D.now, .slice ta n tc'] 28 (0, 0)) := by rw [← hW, Below.heap_alloc _ _ _ (by simp)]; exact heap_alloc_new w _
    have PR : W.heap[w.heap.size + 1]? = some (.cells #[.int .i64 0, .slice none 0 0] 28 (0, 0)) := by rw [← hW]; simpa using heap_alloc_new (World.alloc w (.cells #[.int .i64 D.now, .slice ta n tc'] 28)) (.cells #[.int .i64 0, .slice none 0 0] 28)
    clear hW
    refine (sWheelOkV _ D W (HV0.out.ext (ext_below BW))).mono ?_
    rintro e w1 ⟨rfl, b1⟩
    rw [HOK.out]
    have hbl := (Array.getElem?_eq_some_iff.1 PB).1
    have hrl := (Array.getElem?_eq_some_iff.1 PR).1
    have PB1 := below_blk b1 hbl PB
    have PR1 := below_blk b1 hrl PR
    have hrl1 := (Array.getElem?_eq_some_iff.1 PR1).1
    have HB1 : Hid (Below w.heap.size w w1) := BW.trans (b1.mono BW.size)
    obtain ⟨z0, y0⟩ := at_block PB1 0 _ rfl
    obtain ⟨z1, y1⟩ := at_block PB1 1 _ rfl
    clear b1 PR PB BW hbl hrl
    go_wp2_with fail
    refine (ownV _ D w1 (HV0.out.ext (ext_below HB1.out)) HL.out).mono ?_
    rintro e w2 ⟨tv2, rfl, o2, b2⟩
    obtain ⟨a2, c2, rfl⟩ := o2.v.shape
    have PR2 := below_blk b2 hrl1 PR1
    have HB2 : Hid (Below w.heap.size w w2) := HB1.out.trans (b2.mono HB1.out.size)
    have HSB : Hid (∀ x, WB (w2.alloc x) w1.heap.size w2.heap.size D.now a2 c2 D.tms ∨ x ≠ .cells #[.int .i64 D.now, .slice a2 D.tms.length c2] 28 (0, 0)) := fun x => by
      by_cases hx : x = .cells #[.int .i64 D.now, .slice a2 D.tms.length c2] 28 (0, 0)
      · left
        subst hx
        exact ⟨heap_alloc_new w2 _, o2.alloc _, b2.size⟩
      · exact .inr hx
    have HS2 : Hid (w1.heap.size ≤ w2.heap.size) := b2.size
    clear z0 y0 z1 y1 b2 o2
    go_wp2_with fail
    generalize hV : w2.alloc _ = V
    have WV : WB V w1.heap.size w2.heap.size D.now a2 c2 D.tms := by
      rcases HSB.out (.cells #[.int .i64 D.now, .slice a2 D.tms.length c2] 28 (0, 0)) with h | h
      · rw [← hV]; exact h
      · exact absurd rfl h
    have BV : Below w2.heap.size w2 V := by rw [← hV]; exact (Below.refl _ _).alloc (Nat.le_refl _) _
    have PRV := below_blk BV (by have := HS2.out; omega) PR2
    clear hV
    refine (sstopV w2.heap.size w1.heap.size c2 D.now a2 D.tms id V WV (by have := HD.out.2.1; omega) (Nat.le_trans HS2.out BV.size)).mono ?_
    rintro e w3 ⟨q, a3, c3, ts', rfl, hq, p3, g3⟩
    have hrl2 : w.heap.size + 1 < V.heap.size := (Array.getElem?_eq_some_iff.1 PRV).1
    have PR3 : w3.heap[w.heap.size + 1]? = some (.cells #[.int .i64 0, .slice none 0 0] 28 (0, 0)) := (g3.block _ hrl2 (by have := HS2.out; simp; omega)).trans PRV
    have HEQ : Hid (stopD true D id = (⟨D.now, ts'⟩, q)) := by
      rcases hq with ⟨rfl, hp, rfl⟩ | ⟨rfl, i, hp, hi, rfl⟩
      · unfold stopD
        rw [if_pos rfl, hp, if_pos (by omega)]
        exact rfl
      · unfold stopD
        rw [if_pos rfl, hp, if_neg (by omega)]
        simp [Hid]
    have HP3 : Hid (WB w3 w1.heap.size w2.heap.size D.now a3 c3 ts') := p3
    have HB3 : Hid (Below w.heap.size w w3) := (HB2.out.trans (BV.mono HB2.out.size)).grown g3 (Nat.le_trans HB2.out.size BV.size) (fun k hk => by cases hk; exact HB2.out.size)
    obtain ⟨z0, z1, _⟩ := p3.cells
    obtain ⟨x0, f0⟩ := at_block PR3 0 _ rfl
    obtain ⟨x1, f1⟩ := at_block PR3 1 _ rfl
    have hne : w2.heap.size ≠ w.heap.size + 1 := by have := HS2.out; omega
    have hne' : w.heap.size + 1 ≠ w2.heap.size := by omega
    clear hq p3 g3 PR3 PRV PR2 PR1 WV BV
    go_wp2
    refine bodyPost_ret (v := .tuple #[.agg #[.int .i64 D.now, .slice a3 ts'.length c3], .bool q]) (by simp [results, Try.results13, go_sem, *]) rfl ?_
    rw [HEQ.out]
    have HNV : (Value.slice a3 ts'.length c3).ownBlock = none ∨ (Value.slice a3 ts'.length c3).ownBlock ≠ some (w.heap.size + 1) := by
      right
      intro e
      have := (World.ownsRow.lt HP3.out.row _ e).1
      omega
    exact ⟨_, rfl, OwT.v ((HP3.out.row.kept (set_grown _ _ _ _) HNV).kept (set_grown _ _ _ _) HNV), (HB3.out.setCell (by simp) _).setCell (by simp) _⟩

end Go.Proofs.Ytiinknnnpcikgaa
