
/- The contracts of Len, Less and Swap of the timers that are worked on. -/
import Derived.Test.YtnklnhnjmikooaaGreatHpB
import Derived.Test.YtnklnhnjmikooaaGreatWhP
import Derived.Deep.RegionHeld3
namespace Go.Proofs.YtnklnhnjmikooaaGreat
open Go.RowKit

theorem grown_drew {w w' : World} {row : Option Nat} (h : w.grownBy w' row) : w.grownBy w'.drew row := ⟨h.os, h.tape, h.output, h.size, h.block⟩

set_option maxHeartbeats 1000000 in
theorem lenV (a : Option Addr) (n cap : Nat) (w : World) (hn : n ≤ 1048576) : Calls Tryz.prog 119 #[.slice a n cap] w fun e w' => e = .returned (.int .i64 n) ∧ w' = w := by
  have hn' : (n : Int) ≤ 1048576 := by omega
  go_enter Tryz.func119, Tryz.ntmps119
  go_wp2
  go_ret
  exact ⟨rfl, rfl⟩

set_option maxHeartbeats 1000000 in
theorem lessV (g n cap i j : Nat) (ts : List DTim) (s t : DTim) (base : Nat) (w : World) (h : OwT w base (.slice (some ⟨g, 0, none⟩) n cap) ts) (hn : n = ts.length) (hm : n ≤ 1048576) (hi : ts[i]? = some s) (hj : ts[j]? = some t) :
    Calls Tryz.prog 143 #[.slice (some ⟨g, 0, none⟩) n cap, .int .i64 i, .int .i64 j] w fun e w' => e = .returned (.bool (aheadB s t)) ∧ Below w.heap.size w w' := by
  obtain ⟨c0, c1, _, _⟩ := h.cells hn hi
  obtain ⟨d0, d1, _, _⟩ := h.cells hn hj
  have hin : (i : Int) < n := by have := (List.getElem?_eq_some_iff.1 hi).1; omega
  have hjn : (j : Int) < n := by have := (List.getElem?_eq_some_iff.1 hj).1; omega
  have hm' : (n : Int) ≤ 1048576 := by omega
  obtain ⟨q, hq⟩ : ∃ q, q = aheadB s t := ⟨_, rfl⟩
  have HQ : Hid (q = aheadB s t) := hq
  rw [← hq]
  clear hq hn hi hj h
  have HAH : Hid (∀ z : BW w, Calls Tryz.prog 101 #[.agg #[.int .i64 s.id, .int .i64 s.due], .agg #[.int .i64 t.id, .int .i64 t.due]] z.u fun e w' => e = .returned (.bool q) ∧ Below z.u.heap.size z.u w') := fun z => by
    rw [HQ.out]
    exact iaheadV _ _ _
  have zc0 := bw_cell c0
  have zc1 := bw_cell c1
  have zd0 := bw_cell d0
  have zd1 := bw_cell d1
  have nonV := bw_ne w
  go_enter Tryz.func143, Tryz.ntmps143
  go_wp2_with fail
  refine wp_region_bw (by kernel_rfl) (by kernel_rfl) ?_
  repeat (go_big_quiet_step ((go_at_call 101; exact bw_below (HAH.out _))))
  refine wpQuiet_nil ?_
  intro _ hw'
  obtain ⟨z, hw''⟩ := hw'
  subst hw''
  go_wp2
  go_ret
  exact ⟨rfl, z.h⟩

set_option maxHeartbeats 2000000 in
theorem swapV (g n cap i j : Nat) (ts : List DTim) (s t : DTim) (base : Nat) (w : World) (h : OwT w base (.slice (some ⟨g, 0, none⟩) n cap) ts) (hn : n = ts.length) (hm : n ≤ 1048576) (hi : ts[i]? = some s) (hj : ts[j]? = some t) :
    Calls Tryz.prog 146 #[.slice (some ⟨g, 0, none⟩) n cap, .int .i64 i, .int .i64 j] w fun e w' => e = .returned (.tuple #[]) ∧ OwT w' base (.slice (some ⟨g, 0, none⟩) n cap) ((ts.set i t).set j s) ∧ w.grownBy w' (some g) := by
  obtain ⟨c0, c1, f0, f1⟩ := h.cells hn hi
  obtain ⟨d0, d1, e0, e1⟩ := h.cells hn hj
  have hin : (i : Int) < n := by have := (List.getElem?_eq_some_iff.1 hi).1; omega
  have hjn : (j : Int) < n := by have := (List.getElem?_eq_some_iff.1 hj).1; omega
  have hm' : (n : Int) ≤ 1048576 := by omega
  have hil : i < n := by omega
  have hjl : j < n := by omega
  have HF : Hid (OwT ((((w.setCell ⟨g, i * 2, none⟩ (.int .i64 t.id)).setCell ⟨g, i * 2 + 1, none⟩ (.int .i64 t.due)).setCell ⟨g, j * 2, none⟩ (.int .i64 s.id)).setCell ⟨g, j * 2 + 1, none⟩ (.int .i64 s.due)) base (.slice (some ⟨g, 0, none⟩) n cap) ((ts.set i t).set j s)) := (h.set hn i hil t).set (by simpa using hn) j hjl s
  have h2 := h.set hn i hil t
  have hjj : (ts.set i t)[j]? = some t := by
    rw [List.getElem?_set]
    split
    · rw [if_pos (by omega)]
    · exact hj
  obtain ⟨x0, x1, y0, y1⟩ := h2.cells (by simpa using hn) hjj
  obtain ⟨_, z1, _, y2⟩ := (OwT.cells (ts := ts.set i t) (n := n) (base := base) (cap := cap) h2 (by simpa using hn) hjj)
  have z3 : (((w.setCell ⟨g, i * 2, none⟩ (.int .i64 t.id)).setCell ⟨g, i * 2 + 1, none⟩ (.int .i64 t.due)).setCell ⟨g, j * 2, none⟩ (.int .i64 s.id)).cell? ⟨g, j * 2 + 1, none⟩ = some (.int .i64 t.due) := by
    simp [go_sem, z1]
  have z4 : (((w.setCell ⟨g, i * 2, none⟩ (.int .i64 t.id)).setCell ⟨g, i * 2 + 1, none⟩ (.int .i64 t.due)).setCell ⟨g, j * 2, none⟩ (.int .i64 s.id)).frozen? ⟨g, j * 2 + 1, none⟩ = false := by
    simp [go_sem, *]
  have HG : Hid (w.grownBy ((((w.setCell ⟨g, i * 2, none⟩ (.int .i64 t.id)).setCell ⟨g, i * 2 + 1, none⟩ (.int .i64 t.due)).setCell ⟨g, j * 2, none⟩ (.int .i64 s.id)).setCell ⟨g, j * 2 + 1, none⟩ (.int .i64 s.due)) (some g)) := (((set_grown w g _ _).trans (set_grown _ g _ _)).trans (set_grown _ g _ _)).trans (set_grown _ g _ _)
  clear h h2 hn hi hj hjj
  go_enter Tryz.func146, Tryz.ntmps146
  go_wp2_with fail
  go_region
  all_goals
    go_wp2
    go_end0
    exact ⟨rfl, HF.out, grown_drew HG.out⟩

end Go.Proofs.YtnklnhnjmikooaaGreat
