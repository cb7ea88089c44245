
/- DutyNew of both sides. -/
import Derived.Test.YtgafnajnndbofaaDy2
import Derived.Test.YtgafnajnndbofaaDy3
import Derived.Test.YtgafnajnndbofaaHpJ
namespace Go.Proofs.Ytgafnajnndbofaa
open Go.RowKit

/-- A new duty, and whether it may be (told by c). -/
def newDu (c : Bool) (ttl : Int) : DDuty × Bool := if c then (⟨ttl, ⟨0, []⟩⟩, true) else (⟨0, ⟨0, []⟩⟩, false)
/-- What a call that answers a duty and a bool leaves. -/
def ResD (R : DDuty × Bool) (w : World) (e : Ending) (w' : World) : Prop := ∃ tv, e = .returned (.tuple #[.agg #[.int .i64 R.1.ttl, .int .i64 R.1.wh.now, tv], .bool R.2]) ∧ OwT w' w.heap.size tv R.1.wh.tms ∧ Below w.heap.size w w'

theorem nilT (w : World) : VTims w (.slice none 0 0) [] := OwT.v (base := 0) (ts := []) (World.ownsRow_nil _ _ _ _)

set_option maxRecDepth 20000 in
set_option maxHeartbeats 2000000 in
theorem sDutyNewV (ttl : Int) (w : World) : Calls Try.prog 11 #[.int .i64 ttl] w (ResD (newDu (tB (DutyP ⟨ttl, ⟨0, []⟩⟩)) ttl) w) := by
  obtain ⟨R, hR⟩ : ∃ R, R = tB (DutyP ⟨ttl, ⟨0, []⟩⟩) := ⟨_, rfl⟩
  have HR : Hid (R = tB (DutyP ⟨ttl, ⟨0, []⟩⟩)) := hR
  rw [← hR]
  clear hR
  go_enter Try.func11, Try.ntmps11
  go_wp2_with fail
  generalize hV : World.alloc (World.alloc w _) _ = V
  have HB0 : Below w.heap.size w V := by rw [← hV]; exact ((Below.refl _ w).alloc (Nat.le_refl _) _).alloc (by simp) _
  have PR : V.heap[w.heap.size]? = some (.cells #[.int .i64 0, .int .i64 0, .slice none 0 0] 33 (0, 0)) := by rw [← hV, Below.heap_alloc _ _ _ (by simp)]; exact heap_alloc_new w _
  have PD : V.heap[w.heap.size + 1]? = some (.cells #[.int .i64 ttl, .int .i64 0, .slice none 0 0] 33 (0, 0)) := by rw [← hV]; simpa using heap_alloc_new (World.alloc w (.cells #[.int .i64 0, .int .i64 0, .slice none 0 0] 33)) (.cells #[.int .i64 ttl, .int .i64 0, .slice none 0 0] 33)
  clear hV
  refine (sDutyOkV _ ⟨ttl, ⟨0, []⟩⟩ _ ⟨_, rfl, nilT _⟩).mono ?_
  rintro e w1 ⟨rfl, b1⟩
  rw [← HR.out]
  have P1 := below_blk b1 (Array.getElem?_eq_some_iff.1 PR).1 PR
  have P2 := below_blk b1 (Array.getElem?_eq_some_iff.1 PD).1 PD
  have HB1 : Hid (Below w.heap.size w w1) := HB0.trans (b1.mono HB0.size)
  clear b1 PR PD HB0
  obtain ⟨p0, f0⟩ := at_block P1 0 _ rfl
  obtain ⟨p1, f1⟩ := at_block P1 1 _ rfl
  obtain ⟨p2, f2⟩ := at_block P1 2 _ rfl
  obtain ⟨q0, _⟩ := at_block P2 0 _ rfl
  obtain ⟨q1, _⟩ := at_block P2 1 _ rfl
  obtain ⟨q2, _⟩ := at_block P2 2 _ rfl
  clear P1 P2
  cases R
  · go_wp2
    refine bodyPost_ret (v := .tuple #[.agg #[.int .i64 0, .int .i64 0, .slice none 0 0], .bool false]) (by simp [results, Try.results11, go_sem, *]) rfl ?_
    exact ⟨_, rfl, World.ownsRow_nil _ _ _ _, by repeat (first | exact HB1.out | (refine Below.setCell ?_ (by simp) _))⟩
  · go_wp2
    refine bodyPost_ret (v := .tuple #[.agg #[.int .i64 ttl, .int .i64 0, .slice none 0 0], .bool true]) (by simp [results, Try.results11, go_sem, *]) rfl ?_
    exact ⟨_, rfl, World.ownsRow_nil _ _ _ _, by repeat (first | exact HB1.out | (refine Below.setCell ?_ (by simp) _))⟩

set_option maxRecDepth 20000 in
set_option maxHeartbeats 2000000 in
theorem iDutyNewV (ttl : Int) (w : World) : Calls Try.prog 12 #[.int .i64 ttl] w (ResD (newDu (tB (DutyP ⟨ttl, ⟨0, []⟩⟩)) ttl) w) := by
  obtain ⟨R, hR⟩ : ∃ R, R = tB (DutyP ⟨ttl, ⟨0, []⟩⟩) := ⟨_, rfl⟩
  have HR : Hid (R = tB (DutyP ⟨ttl, ⟨0, []⟩⟩)) := hR
  rw [← hR]
  clear hR
  go_enter Try.func12, Try.ntmps12
  go_wp2_with fail
  generalize hV : World.alloc (World.alloc w _) _ = V
  have HB0 : Below w.heap.size w V := by rw [← hV]; exact ((Below.refl _ w).alloc (Nat.le_refl _) _).alloc (by simp) _
  have PR : V.heap[w.heap.size]? = some (.cells #[.int .i64 0, .int .i64 0, .slice none 0 0] 33 (0, 0)) := by rw [← hV, Below.heap_alloc _ _ _ (by simp)]; exact heap_alloc_new w _
  have PD : V.heap[w.heap.size + 1]? = some (.cells #[.int .i64 ttl, .int .i64 0, .slice none 0 0] 33 (0, 0)) := by rw [← hV]; simpa using heap_alloc_new (World.alloc w (.cells #[.int .i64 0, .int .i64 0, .slice none 0 0] 33)) (.cells #[.int .i64 ttl, .int .i64 0, .slice none 0 0] 33)
  clear hV
  refine (iDutyOkV _ ⟨ttl, ⟨0, []⟩⟩ _ ⟨_, rfl, nilT _⟩).mono ?_
  rintro e w1 ⟨rfl, b1⟩
  rw [← HR.out]
  have P1 := below_blk b1 (Array.getElem?_eq_some_iff.1 PR).1 PR
  have P2 := below_blk b1 (Array.getElem?_eq_some_iff.1 PD).1 PD
  have HB1 : Hid (Below w.heap.size w w1) := HB0.trans (b1.mono HB0.size)
  clear b1 PR PD HB0
  obtain ⟨p0, f0⟩ := at_block P1 0 _ rfl
  obtain ⟨p1, f1⟩ := at_block P1 1 _ rfl
  obtain ⟨p2, f2⟩ := at_block P1 2 _ rfl
  obtain ⟨q0, _⟩ := at_block P2 0 _ rfl
  obtain ⟨q1, _⟩ := at_block P2 1 _ rfl
  obtain ⟨q2, _⟩ := at_block P2 2 _ rfl
  clear P1 P2
  cases R
  · go_wp2
    refine bodyPost_ret (v := .tuple #[.agg #[.int .i64 0, .int .i64 0, .slice none 0 0], .bool false]) (by simp [results, Try.results12, go_sem, *]) rfl ?_
    exact ⟨_, rfl, World.ownsRow_nil _ _ _ _, by repeat (first | exact HB1.out | (refine Below.setCell ?_ (by simp) _))⟩
  · go_wp2
    refine bodyPost_ret (v := .tuple #[.agg #[.int .i64 ttl, .int .i64 0, .slice none 0 0], .bool true]) (by simp [results, Try.results12, go_sem, *]) rfl ?_
    exact ⟨_, rfl, World.ownsRow_nil _ _ _ _, by repeat (first | exact HB1.out | (refine Below.setCell ?_ (by simp) _))⟩

end Go.Proofs.Ytgafnajnndbofaa
