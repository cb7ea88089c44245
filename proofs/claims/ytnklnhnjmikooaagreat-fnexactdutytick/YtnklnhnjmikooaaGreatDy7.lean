
/- The program's DutyRenew. -/
import Derived.Test.YtnklnhnjmikooaaGreatDy6
namespace Go.Proofs.YtnklnhnjmikooaaGreat
open Go.RowKit

set_option maxHeartbeats 2000000 in
theorem dutyV (h base cap : Nat) (ttl now : Int) (a : Option Addr) (ts : List DTim) (w : World) (p : KB w base h ttl now a cap ts) :
    Calls Tryz.prog 39 #[.pointer (some ⟨h, 0, none⟩)] w fun e w' => e = .returned (.agg #[.int .i64 ttl, .int .i64 now, .slice a ts.length cap]) ∧ Below w.heap.size w w' := by
  obtain ⟨c0, c1, c2, _, _⟩ := p.cells
  have hh : h < w.heap.size := (Array.getElem?_eq_some_iff.1 p.box).1
  obtain ⟨n, hn⟩ : ∃ n, n = ts.length := ⟨_, rfl⟩
  rw [← hn] at c1 ⊢
  clear p hn
  have hne := World.new_ne w _ c0
  go_enter Tryz.func39, Tryz.ntmps39
  go_wp2_with fail
  go_region
  all_goals
    go_wp2
    refine bodyPost_ret (v := .agg #[.int .i64 ttl, .int .i64 now, .slice a n cap]) (by simp [results, Tryz.results39, go_sem, *]) rfl ?_
    refine ⟨rfl, ?_⟩
    repeat (first | exact below_drewN ((Below.refl _ w).alloc (Nat.le_refl _) _) 1 | exact (Below.refl _ w).alloc (Nat.le_refl _) _ | (refine Below.setCell ?_ (by simp) _))

/-- The duty renewed for this one, and whether there was such a timer (c: it may be a duty). -/
def renewD (c : Bool) (D : DDuty) (id : Int) : DDuty × Bool := if c then (if placeT D.wh.tms id < 0 then (D, false) else (⟨D.ttl, (setD true D.wh id D.ttl).1⟩, true)) else (⟨0, ⟨0, []⟩⟩, false)

end Go.Proofs.YtnklnhnjmikooaaGreat
