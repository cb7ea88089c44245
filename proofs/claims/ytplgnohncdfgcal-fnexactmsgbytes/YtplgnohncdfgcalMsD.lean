/- The program's words on messages: where a log may stand, heads, bodies. -/
import Derived.Test.YtplgnohncdfgcalMsB
import Derived.Test.YtplgnohncdfgcalIt2
namespace Go.Proofs.Ytplgnohncdfgcal
open Go.RowKit

/-- A log whose greatest term is t may have pt at p. -/
def prevB (p pt t : Int) : Bool := if p = 0 then decide (pt = 0) else inB p 1 400 && inB pt 1 t

set_option maxHeartbeats 2000000 in
theorem prevOkV (p pt t : Int) (w : World) : Calls Try.prog 150 #[.int .i64 p, .int .i64 pt, .int .i64 t] w fun e w' => e = .returned (.bool (prevB p pt t)) ∧ w' = w := by
  by_cases h0 : p = 0
  · have HC : Hid (prevB p pt t = decide (pt = 0)) := if_pos h0
    subst h0
    have hex : (pt == 0) = decide (pt = 0) := rfl
    go_enter Try.func150, Try.ntmps150
    go_wp2
    go_ret
    exact ⟨by rw [HC.out]; rfl, rfl⟩
  · have HC : Hid (prevB p pt t = (inB p 1 400 && inB pt 1 t)) := if_neg h0
    have hp : (p == 0) = false := by simpa using h0
    clear h0
    cases h1 : inB p 1 400
    · go_enter Try.func150, Try.ntmps150
      go_wp2_with (go_at_call 62; refine (withinV _ _ _ _).mono ?_; rintro e w2 ⟨rfl, rfl⟩; rw [h1])
      go_ret
      exact ⟨by rw [HC.out, h1]; rfl, rfl⟩
    · cases h2 : inB pt 1 t
      · go_enter Try.func150, Try.ntmps150
        go_wp2_with (go_at_call 62; refine (withinV _ _ _ _).mono ?_; rintro e w2 ⟨rfl, rfl⟩; first | rw [h1] | rw [h2])
        go_ret
        exact ⟨by rw [HC.out, h1, h2]; rfl, rfl⟩
      · go_enter Try.func150, Try.ntmps150
        go_wp2_with (go_at_call 62; refine (withinV _ _ _ _).mono ?_; rintro e w2 ⟨rfl, rfl⟩; first | rw [h1] | rw [h2])
        go_ret
        exact ⟨by rw [HC.out, h1, h2]; rfl, rfl⟩

set_option maxHeartbeats 2000000 in
theorem askOkV (p pt t : Int) (w : World) : Calls Try.prog 149 #[.agg #[.int .i64 p, .int .i64 pt], .int .i64 t] w fun e w' => e = .returned (.bool (prevB p pt t)) ∧ Below w.heap.size w w' := by
  have hB : ∀ w : World, ∀ o, Below w.heap.size w (w.alloc o) := fun w o => (Below.refl _ w).alloc (Nat.le_refl _) _
  go_enter Try.func149, Try.ntmps149
  go_wp2_with (go_at_call 150; refine (prevOkV _ _ _ _).mono ?_; rintro e w2 ⟨rfl, rfl⟩)
  go_ret
  exact ⟨rfl, hB _ _⟩

set_option maxHeartbeats 2000000 in
theorem ackOkV (p t : Int) (y : Bool) (w : World) : Calls Try.prog 153 #[.agg #[.int .i64 p, .bool y], .int .i64 t] w fun e w' => e = .returned (.bool (inB p 0 400)) ∧ Below w.heap.size w w' := by
  have hB : ∀ w : World, ∀ o, Below w.heap.size w (w.alloc o) := fun w o => (Below.refl _ w).alloc (Nat.le_refl _) _
  go_enter Try.func153, Try.ntmps153
  go_wp2_with (go_at_call 62; refine (withinV _ _ _ _).mono ?_; rintro e w2 ⟨rfl, rfl⟩)
  go_ret
  exact ⟨rfl, hB _ _⟩

/- PART TWO -/
theorem ta00 (v : Value) (w : World) : (Instr.typeAssert (.iface 161 v) 119 161 true).run Try.prog w = .ok (.tuple #[v, .bool true]) w := by kernel_rfl
theorem ta10 (v : Value) (w : World) : (Instr.typeAssert (.iface 163 v) 119 161 true).run Try.prog w = .ok (.tuple #[.agg #[.int .i64 0, .int .i64 0], .bool false]) w := by kernel_rfl
theorem ta11 (v : Value) (w : World) : (Instr.typeAssert (.iface 163 v) 119 163 true).run Try.prog w = .ok (.tuple #[v, .bool true]) w := by kernel_rfl
theorem ta20 (v : Value) (w : World) : (Instr.typeAssert (.iface 165 v) 119 161 true).run Try.prog w = .ok (.tuple #[.agg #[.int .i64 0, .int .i64 0], .bool false]) w := by kernel_rfl
theorem ta21 (v : Value) (w : World) : (Instr.typeAssert (.iface 165 v) 119 163 true).run Try.prog w = .ok (.tuple #[.agg #[.bool false], .bool false]) w := by kernel_rfl
theorem ta22 (v : Value) (w : World) : (Instr.typeAssert (.iface 165 v) 119 165 true).run Try.prog w = .ok (.tuple #[v, .bool true]) w := by kernel_rfl
theorem ta30 (v : Value) (w : World) : (Instr.typeAssert (.iface 167 v) 119 161 true).run Try.prog w = .ok (.tuple #[.agg #[.int .i64 0, .int .i64 0], .bool false]) w := by kernel_rfl
theorem ta31 (v : Value) (w : World) : (Instr.typeAssert (.iface 167 v) 119 163 true).run Try.prog w = .ok (.tuple #[.agg #[.bool false], .bool false]) w := by kernel_rfl
theorem ta32 (v : Value) (w : World) : (Instr.typeAssert (.iface 167 v) 119 165 true).run Try.prog w = .ok (.tuple #[.agg #[.int .i64 0, .int .i64 0, .slice none 0 0, .int .i64 0], .bool false]) w := by kernel_rfl
theorem ta33 (v : Value) (w : World) : (Instr.typeAssert (.iface 167 v) 119 167 true).run Try.prog w = .ok (.tuple #[v, .bool true]) w := by kernel_rfl

set_option maxHeartbeats 2000000 in
theorem bodyAsk (M : DMsg) (iv : Value) (hi : ∃ a c, iv = .slice a M.items.length c) (w : World) :
    Calls Try.prog 70 #[.agg #[.int .i64 0, .int .i64 M.from_, .int .i64 M.to, .int .i64 M.term, .int .i64 M.prev, .int .i64 M.prevTerm, iv, .int .i64 M.commit, .bool M.yes]] w fun e w' => e = .returned (.iface 161 (.agg #[.int .i64 M.prev, .int .i64 M.prevTerm])) ∧ Below w.heap.size w w' := by
  have hB : ∀ w : World, ∀ o, Below w.heap.size w (w.alloc o) := fun w o => (Below.refl _ w).alloc (Nat.le_refl _) _
  obtain ⟨ia, ic, rfl⟩ := hi
  go_enter Try.func70, Try.ntmps70
  go_wp2
  go_ret
  exact ⟨rfl, hB _ _⟩

set_option maxHeartbeats 4000000 in
set_option maxRecDepth 100000 in
theorem messageAsk (M : DMsg) (iv : Value) (hi : ∃ a c, iv = .slice a M.items.length c) (w : World) :
    Calls Try.prog 113 #[.int .i64 0, .int .i64 M.from_, .int .i64 M.to, .int .i64 M.term, .iface 161 (.agg #[.int .i64 M.prev, .int .i64 M.prevTerm])] w fun e w' => e = .returned (.agg #[.int .i64 0, .int .i64 M.from_, .int .i64 M.to, .int .i64 M.term, .int .i64 M.prev, .int .i64 M.prevTerm, .slice none 0 0, .int .i64 0, .bool false]) ∧ Below w.heap.size w w' := by
  have hB : ∀ w : World, ∀ o, Below w.heap.size w (w.alloc o) := fun w o => (Below.refl _ w).alloc (Nat.le_refl _) _
  obtain ⟨ia, ic, rfl⟩ := hi
  have hta := ta00
  skip
  go_enter Try.func113, Try.ntmps113
  go_wp2
  go_region
  all_goals
    try go_wp2
    refine bodyPost_ret (v := .agg #[.int .i64 0, .int .i64 M.from_, .int .i64 M.to, .int .i64 M.term, .int .i64 M.prev, .int .i64 M.prevTerm, .slice none 0 0, .int .i64 0, .bool false]) (by simp [results, Try.results113, go_sem]) rfl ?_
    refine ⟨rfl, ?_⟩
    have B0 : ∀ a b, Below w.heap.size w ((w.alloc a).alloc b) := fun a b => ((Below.refl _ w).alloc (Nat.le_refl _) _).alloc (by simp) _
    first | exact B0 _ _ | (repeat (first | exact B0 _ _ | refine below_set ?_ (by simp; done) | refine below_set ?_ (by simp; omega) | refine Below.alloc ?_ (by simp; omega) _ | refine below_drewN ?_ _))

set_option maxHeartbeats 2000000 in
theorem bodyVote (M : DMsg) (iv : Value) (hi : ∃ a c, iv = .slice a M.items.length c) (w : World) :
    Calls Try.prog 70 #[.agg #[.int .i64 1, .int .i64 M.from_, .int .i64 M.to, .int .i64 M.term, .int .i64 M.prev, .int .i64 M.prevTerm, iv, .int .i64 M.commit, .bool M.yes]] w fun e w' => e = .returned (.iface 163 (.agg #[.bool M.yes])) ∧ Below w.heap.size w w' := by
  have hB : ∀ w : World, ∀ o, Below w.heap.size w (w.alloc o) := fun w o => (Below.refl _ w).alloc (Nat.le_refl _) _
  obtain ⟨ia, ic, rfl⟩ := hi
  go_enter Try.func70, Try.ntmps70
  go_wp2
  go_ret
  exact ⟨rfl, hB _ _⟩

set_option maxHeartbeats 4000000 in
set_option maxRecDepth 100000 in
theorem messageVote (M : DMsg) (iv : Value) (hi : ∃ a c, iv = .slice a M.items.length c) (w : World) :
    Calls Try.prog 113 #[.int .i64 1, .int .i64 M.from_, .int .i64 M.to, .int .i64 M.term, .iface 163 (.agg #[.bool M.yes])] w fun e w' => e = .returned (.agg #[.int .i64 1, .int .i64 M.from_, .int .i64 M.to, .int .i64 M.term, .int .i64 0, .int .i64 0, .slice none 0 0, .int .i64 0, .bool M.yes]) ∧ Below w.heap.size w w' := by
  have hB : ∀ w : World, ∀ o, Below w.heap.size w (w.alloc o) := fun w o => (Below.refl _ w).alloc (Nat.le_refl _) _
  obtain ⟨ia, ic, rfl⟩ := hi
  have hta := ta11
  have hta0 := ta10
  go_enter Try.func113, Try.ntmps113
  go_wp2
  all_goals
    try go_wp2
    refine bodyPost_ret (v := .agg #[.int .i64 1, .int .i64 M.from_, .int .i64 M.to, .int .i64 M.term, .int .i64 0, .int .i64 0, .slice none 0 0, .int .i64 0, .bool M.yes]) (by simp [results, Try.results113, go_sem]) rfl ?_
    refine ⟨rfl, ?_⟩
    have B0 : ∀ a b, Below w.heap.size w ((w.alloc a).alloc b) := fun a b => ((Below.refl _ w).alloc (Nat.le_refl _) _).alloc (by simp) _
    first | exact B0 _ _ | (repeat (first | exact B0 _ _ | refine below_set ?_ (by simp; done) | refine below_set ?_ (by simp; omega) | refine Below.alloc ?_ (by simp; omega) _ | refine below_drewN ?_ _))

set_option maxHeartbeats 2000000 in
theorem bodyAdd (M : DMsg) (iv : Value) (hi : ∃ a c, iv = .slice a M.items.length c) (w : World) :
    Calls Try.prog 70 #[.agg #[.int .i64 2, .int .i64 M.from_, .int .i64 M.to, .int .i64 M.term, .int .i64 M.prev, .int .i64 M.prevTerm, iv, .int .i64 M.commit, .bool M.yes]] w fun e w' => e = .returned (.iface 165 (.agg #[.int .i64 M.prev, .int .i64 M.prevTerm, iv, .int .i64 M.commit])) ∧ Below w.heap.size w w' := by
  have hB : ∀ w : World, ∀ o, Below w.heap.size w (w.alloc o) := fun w o => (Below.refl _ w).alloc (Nat.le_refl _) _
  obtain ⟨ia, ic, rfl⟩ := hi
  go_enter Try.func70, Try.ntmps70
  go_wp2
  go_ret
  exact ⟨rfl, hB _ _⟩

set_option maxHeartbeats 4000000 in
set_option maxRecDepth 100000 in
theorem messageAdd (M : DMsg) (iv : Value) (hi : ∃ a c, iv = .slice a M.items.length c) (w : World) :
    Calls Try.prog 113 #[.int .i64 2, .int .i64 M.from_, .int .i64 M.to, .int .i64 M.term, .iface 165 (.agg #[.int .i64 M.prev, .int .i64 M.prevTerm, iv, .int .i64 M.commit])] w fun e w' => e = .returned (.agg #[.int .i64 2, .int .i64 M.from_, .int .i64 M.to, .int .i64 M.term, .int .i64 M.prev, .int .i64 M.prevTerm, iv, .int .i64 M.commit, .bool false]) ∧ Below w.heap.size w w' := by
  have hB : ∀ w : World, ∀ o, Below w.heap.size w (w.alloc o) := fun w o => (Below.refl _ w).alloc (Nat.le_refl _) _
  obtain ⟨ia, ic, rfl⟩ := hi
  have hta := ta22
  have hta0 := ta20
  have hta1 := ta21
  go_enter Try.func113, Try.ntmps113
  go_wp2
  go_region
  all_goals
    try go_wp2
    refine bodyPost_ret (v := .agg #[.int .i64 2, .int .i64 M.from_, .int .i64 M.to, .int .i64 M.term, .int .i64 M.prev, .int .i64 M.prevTerm, .slice ia M.items.length ic, .int .i64 M.commit, .bool false]) (by simp [results, Try.results113, go_sem]) rfl ?_
    refine ⟨rfl, ?_⟩
    have B0 : ∀ a b, Below w.heap.size w ((w.alloc a).alloc b) := fun a b => ((Below.refl _ w).alloc (Nat.le_refl _) _).alloc (by simp) _
    first | exact B0 _ _ | (repeat (first | exact B0 _ _ | refine below_set ?_ (by simp; done) | refine below_set ?_ (by simp; omega) | refine Below.alloc ?_ (by simp; omega) _ | refine below_drewN ?_ _))

set_option maxHeartbeats 2000000 in
theorem bodyAck (M : DMsg) (iv : Value) (hi : ∃ a c, iv = .slice a M.items.length c) (w : World) :
    Calls Try.prog 70 #[.agg #[.int .i64 3, .int .i64 M.from_, .int .i64 M.to, .int .i64 M.term, .int .i64 M.prev, .int .i64 M.prevTerm, iv, .int .i64 M.commit, .bool M.yes]] w fun e w' => e = .returned (.iface 167 (.agg #[.int .i64 M.prev, .bool M.yes])) ∧ Below w.heap.size w w' := by
  have hB : ∀ w : World, ∀ o, Below w.heap.size w (w.alloc o) := fun w o => (Below.refl _ w).alloc (Nat.le_refl _) _
  obtain ⟨ia, ic, rfl⟩ := hi
  go_enter Try.func70, Try.ntmps70
  go_wp2
  go_ret
  exact ⟨rfl, hB _ _⟩

set_option maxHeartbeats 4000000 in
set_option maxRecDepth 100000 in
theorem messageAck (M : DMsg) (iv : Value) (hi : ∃ a c, iv = .slice a M.items.length c) (w : World) :
    Calls Try.prog 113 #[.int .i64 3, .int .i64 M.from_, .int .i64 M.to, .int .i64 M.term, .iface 167 (.agg #[.int .i64 M.prev, .bool M.yes])] w fun e w' => e = .returned (.agg #[.int .i64 3, .int .i64 M.from_, .int .i64 M.to, .int .i64 M.term, .int .i64 M.prev, .int .i64 0, .slice none 0 0, .int .i64 0, .bool M.yes]) ∧ Below w.heap.size w w' := by
  have hB : ∀ w : World, ∀ o, Below w.heap.size w (w.alloc o) := fun w o => (Below.refl _ w).alloc (Nat.le_refl _) _
  obtain ⟨ia, ic, rfl⟩ := hi
  have hta := ta33
  have hta0 := ta30
  have hta1 := ta31
  have hta2 := ta32
  go_enter Try.func113, Try.ntmps113
  go_wp2
  go_region
  all_goals
    try go_wp2
    refine bodyPost_ret (v := .agg #[.int .i64 3, .int .i64 M.from_, .int .i64 M.to, .int .i64 M.term, .int .i64 M.prev, .int .i64 0, .slice none 0 0, .int .i64 0, .bool M.yes]) (by simp [results, Try.results113, go_sem]) rfl ?_
    refine ⟨rfl, ?_⟩
    have B0 : ∀ a b, Below w.heap.size w ((w.alloc a).alloc b) := fun a b => ((Below.refl _ w).alloc (Nat.le_refl _) _).alloc (by simp) _
    first | exact B0 _ _ | (repeat (first | exact B0 _ _ | refine below_set ?_ (by simp; done) | refine below_set ?_ (by simp; omega) | refine Below.alloc ?_ (by simp; omega) _ | refine below_drewN ?_ _))

end Go.Proofs.Ytplgnohncdfgcal
