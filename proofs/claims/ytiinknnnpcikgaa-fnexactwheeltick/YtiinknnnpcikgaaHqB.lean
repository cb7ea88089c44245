/- What the walk of WheelTick's law carries besides: lists of numbers. -/
import Derived.Test.YtiinknnnpcikgaaHqA
import Derived.Test.YtiinknnnpcikgaaHpL
namespace Go.Proofs.Ytiinknnnpcikgaa
open Go.RowKit

theorem tickD_len (D : DWheel) (n : Int) (h : D.tms.length ≤ 1048576) : (tickD (tB (WheelP D)) D n).1.tms.length ≤ 1048576 ∧ (tickD (tB (WheelP D)) D n).2.length ≤ 1048576 := by
  unfold tickD
  split
  · split
    · refine ⟨?_, ?_⟩
      · have := List.length_filter_le (fun t : DTim => decide (D.now + n < t.due)) D.tms
        simp only
        omega
      · have := List.length_filter_le (fun t : DTim => decide (t.due ≤ D.now + n)) D.tms
        simp only [List.length_map]
        omega
    · exact ⟨h, by simp⟩
  · simp

/-- The specification's numbers (of the world Ws), and the program's own. -/
structure LI (Ws W : World) (sr gr : Value) (RI GI : List Int) (base : Nat) : Prop where
  sR : VL fI Ws sr RI
  gR : OwI W base gr GI
variable {w Ws W W' : World} {D R : DWheel} {av sv xv gv sr gr : Value} {s x g base : Nat} {G : List DTim} {RI GI GI' : List Int}
theorem LI.grow (h : LI Ws W sr gr RI GI base) (b : Below W.heap.size W W') : LI Ws W' sr gr RI GI base := ⟨h.sR, h.gR.ext (ext_below b)⟩
theorem LI.turnT {row : Value} {rb : Nat} {T : List DTim} (h : LI Ws W sr gr RI GI base) (o : OwT W rb row T) (hg : W.grownBy W' row.ownBlock) : LI Ws W' sr gr RI GI base := ⟨h.sR, World.ownsRow.kept h.gR hg (rows_ne' o h.gR)⟩
theorem LW.turnI {row : Value} {rb : Nat} {T : List Int} (h : LW w Ws W D R av sv xv gv s x g base G) (o : OwI W rb row T) (hb : Ws.heap.size ≤ rb) (hg : W.grownBy W' row.ownBlock) : LW w Ws W' D R av sv xv gv s x g base G := by
  have kp : ∀ (b : Nat) (cs : Array Value) (t : TypeId), W.heap[b]? = some (.cells cs t (0, 0)) → t ≠ 3 → W'.heap[b]? = some (.cells cs t (0, 0)) := fun b cs t hbb ht => (hg.block b (Array.getElem?_eq_some_iff.1 hbb).1 (ne_rowI o hbb ht)).trans hbb
  have hr : ∀ k, row.ownBlock = some k → rb ≤ k := fun k hk => (World.ownsRow.lt o k hk).1
  exact ⟨h.low.grown hg h.low.size (fun k hk => Nat.le_trans (Nat.le_trans h.ws hb) (hr k hk)), h.sB.grown hg h.sB.size (fun k hk => Nat.le_trans hb (hr k hk)), h.sV, kp _ _ _ h.a (by decide), kp _ _ _ h.s (by decide), kp _ _ _ h.x (by decide), kp _ _ _ h.g (by decide), h.gO.kept hg (rows_ne h.gO o), h.bs, h.ws⟩
theorem below_q (w : World) (q : Nat) : Below w.heap.size w (w.drewN q) := below_drewN (Below.refl _ w) q

end Go.Proofs.Ytiinknnnpcikgaa
