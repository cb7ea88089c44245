/- The program's words on messages, further: a head, what a message has beside its kind's own. -/
import Derived.Test.YtplgnohncdfgcalMsD
namespace Go.Proofs.Ytplgnohncdfgcal
open Go.RowKit

set_option maxHeartbeats 2000000 in
theorem voteOkV (t : Int) (y : Bool) (w : World) : Calls Try.prog 151 #[.agg #[.bool y], .int .i64 t] w fun e w' => e = .returned (.bool true) ∧ Below w.heap.size w w' := by
  have hB : ∀ w : World, ∀ o, Below w.heap.size w (w.alloc o) := fun w o => (Below.refl _ w).alloc (Nat.le_refl _) _
  go_enter Try.func151, Try.ntmps151
  go_wp2
  go_ret
  exact ⟨rfl, hB _ _⟩

def headB (f t m : Int) : Bool := inB f 0 4 && (inB t 0 4 && ((f != t) && inB m 1 100000))

set_option maxHeartbeats 4000000 in
theorem headOkV (M : DMsg) (iv : Value) (hi : ∃ a c, iv = .slice a M.items.length c) (w : World) :
    Calls Try.prog 71 #[.agg #[.int .i64 M.kind, .int .i64 M.from_, .int .i64 M.to, .int .i64 M.term, .int .i64 M.prev, .int .i64 M.prevTerm, iv, .int .i64 M.commit, .bool M.yes]] w fun e w' => e = .returned (.bool (headB M.from_ M.to M.term)) ∧ Below w.heap.size w w' := by
  have hB : ∀ w : World, ∀ o, Below w.heap.size w (w.alloc o) := fun w o => (Below.refl _ w).alloc (Nat.le_refl _) _
  obtain ⟨ia, ic, rfl⟩ := hi
  cases h1 : (inB M.from_ 0 4)
  · go_enter Try.func71, Try.ntmps71
    go_wp2_with (go_at_call 62; refine (withinV _ _ _ _).mono ?_; rintro e w2 ⟨rfl, rfl⟩; first | rw [h1] | rw [h2] | rw [h4])
    go_ret
    exact ⟨by unfold headB; rw [h1]; rfl, hB _ _⟩
  · cases h2 : (inB M.to 0 4)
    · go_enter Try.func71, Try.ntmps71
      go_wp2_with (go_at_call 62; refine (withinV _ _ _ _).mono ?_; rintro e w2 ⟨rfl, rfl⟩; first | rw [h1] | rw [h2] | rw [h4])
      go_ret
      exact ⟨by unfold headB; rw [h1, h2]; rfl, hB _ _⟩
    · cases h3 : (M.from_ != M.to)
      · go_enter Try.func71, Try.ntmps71
        go_wp2_with (go_at_call 62; refine (withinV _ _ _ _).mono ?_; rintro e w2 ⟨rfl, rfl⟩; first | rw [h1] | rw [h2] | rw [h4])
        go_ret
        exact ⟨by unfold headB; rw [h1, h2, h3]; rfl, hB _ _⟩
      · cases h4 : (inB M.term 1 100000)
        · go_enter Try.func71, Try.ntmps71
          go_wp2_with (go_at_call 62; refine (withinV _ _ _ _).mono ?_; rintro e w2 ⟨rfl, rfl⟩; first | rw [h1] | rw [h2] | rw [h4])
          go_ret
          exact ⟨by unfold headB; rw [h1, h2, h3, h4]; rfl, hB _ _⟩
        · go_enter Try.func71, Try.ntmps71
          go_wp2_with (go_at_call 62; refine (withinV _ _ _ _).mono ?_; rintro e w2 ⟨rfl, rfl⟩; first | rw [h1] | rw [h2] | rw [h4])
          go_ret
          exact ⟨by unfold headB; rw [h1, h2, h3, h4]; rfl, hB _ _⟩

def onlyAsk (M : DMsg) : Bool := ((M.items.length : Int) == 0) && ((M.commit == 0) && ((M.yes == false)))
set_option maxHeartbeats 4000000 in
theorem hasOnlyAsk (M : DMsg) (iv : Value) (hi : ∃ a c, iv = .slice a M.items.length c) (w : World) :
    Calls Try.prog 72 #[.agg #[.int .i64 0, .int .i64 M.from_, .int .i64 M.to, .int .i64 M.term, .int .i64 M.prev, .int .i64 M.prevTerm, iv, .int .i64 M.commit, .bool M.yes], .iface 161 (.agg #[.int .i64 M.prev, .int .i64 M.prevTerm])] w fun e w' => e = .returned (.bool (onlyAsk M)) ∧ Below w.heap.size w w' := by
  have hB : ∀ w : World, ∀ o, Below w.heap.size w (w.alloc o) := fun w o => (Below.refl _ w).alloc (Nat.le_refl _) _
  obtain ⟨ia, ic, rfl⟩ := hi
  cases g6 : ((M.items.length : Int) == 0)
  · go_enter Try.func72, Try.ntmps72
    go_wp2_with (go_at_call 113; refine (messageAsk M (.slice ia M.items.length ic) ⟨_, _, rfl⟩ _).mono ?_; rintro e w2 ⟨rfl, hb2⟩; have R1 := below_blk hb2 (by simp) (heap_alloc_new w _); have hs1 : w.heap.size + 1 ≤ w2.heap.size := (by have := hb2.size; simpa using this); have B1 : Below w.heap.size w w2 := (hB _ _).trans (hb2.mono (by simp)); clear hb2; have hne : ¬ w.heap.size = w2.heap.size := (by omega); have hne2 : ¬ w2.heap.size = w.heap.size := (by omega); have hlt : w.heap.size < w2.heap.size := hs1; obtain ⟨r4, q4⟩ := at_block R1 4 _ rfl; obtain ⟨r5, q5⟩ := at_block R1 5 _ rfl; obtain ⟨r6, q6⟩ := at_block R1 6 _ rfl; obtain ⟨r7, q7⟩ := at_block R1 7 _ rfl; obtain ⟨r8, q8⟩ := at_block R1 8 _ rfl; clear R1)
    go_ret
    exact ⟨by unfold onlyAsk; rw [g6]; rfl, B1.alloc (by omega) _⟩
  · cases g7 : (M.commit == 0)
    · go_enter Try.func72, Try.ntmps72
      go_wp2_with (go_at_call 113; refine (messageAsk M (.slice ia M.items.length ic) ⟨_, _, rfl⟩ _).mono ?_; rintro e w2 ⟨rfl, hb2⟩; have R1 := below_blk hb2 (by simp) (heap_alloc_new w _); have hs1 : w.heap.size + 1 ≤ w2.heap.size := (by have := hb2.size; simpa using this); have B1 : Below w.heap.size w w2 := (hB _ _).trans (hb2.mono (by simp)); clear hb2; have hne : ¬ w.heap.size = w2.heap.size := (by omega); have hne2 : ¬ w2.heap.size = w.heap.size := (by omega); have hlt : w.heap.size < w2.heap.size := hs1; obtain ⟨r4, q4⟩ := at_block R1 4 _ rfl; obtain ⟨r5, q5⟩ := at_block R1 5 _ rfl; obtain ⟨r6, q6⟩ := at_block R1 6 _ rfl; obtain ⟨r7, q7⟩ := at_block R1 7 _ rfl; obtain ⟨r8, q8⟩ := at_block R1 8 _ rfl; clear R1)
      go_ret
      exact ⟨by unfold onlyAsk; rw [g6, g7]; rfl, B1.alloc (by omega) _⟩
    · cases g8 : (M.yes == false)
      · go_enter Try.func72, Try.ntmps72
        go_wp2_with (go_at_call 113; refine (messageAsk M (.slice ia M.items.length ic) ⟨_, _, rfl⟩ _).mono ?_; rintro e w2 ⟨rfl, hb2⟩; have R1 := below_blk hb2 (by simp) (heap_alloc_new w _); have hs1 : w.heap.size + 1 ≤ w2.heap.size := (by have := hb2.size; simpa using this); have B1 : Below w.heap.size w w2 := (hB _ _).trans (hb2.mono (by simp)); clear hb2; have hne : ¬ w.heap.size = w2.heap.size := (by omega); have hne2 : ¬ w2.heap.size = w.heap.size := (by omega); have hlt : w.heap.size < w2.heap.size := hs1; obtain ⟨r4, q4⟩ := at_block R1 4 _ rfl; obtain ⟨r5, q5⟩ := at_block R1 5 _ rfl; obtain ⟨r6, q6⟩ := at_block R1 6 _ rfl; obtain ⟨r7, q7⟩ := at_block R1 7 _ rfl; obtain ⟨r8, q8⟩ := at_block R1 8 _ rfl; clear R1)
        go_ret
        exact ⟨by unfold onlyAsk; rw [g6, g7, g8]; rfl, B1.alloc (by omega) _⟩
      · go_enter Try.func72, Try.ntmps72
        go_wp2_with (go_at_call 113; refine (messageAsk M (.slice ia M.items.length ic) ⟨_, _, rfl⟩ _).mono ?_; rintro e w2 ⟨rfl, hb2⟩; have R1 := below_blk hb2 (by simp) (heap_alloc_new w _); have hs1 : w.heap.size + 1 ≤ w2.heap.size := (by have := hb2.size; simpa using this); have B1 : Below w.heap.size w w2 := (hB _ _).trans (hb2.mono (by simp)); clear hb2; have hne : ¬ w.heap.size = w2.heap.size := (by omega); have hne2 : ¬ w2.heap.size = w.heap.size := (by omega); have hlt : w.heap.size < w2.heap.size := hs1; obtain ⟨r4, q4⟩ := at_block R1 4 _ rfl; obtain ⟨r5, q5⟩ := at_block R1 5 _ rfl; obtain ⟨r6, q6⟩ := at_block R1 6 _ rfl; obtain ⟨r7, q7⟩ := at_block R1 7 _ rfl; obtain ⟨r8, q8⟩ := at_block R1 8 _ rfl; clear R1)
        go_ret
        exact ⟨by unfold onlyAsk; rw [g6, g7, g8]; rfl, B1.alloc (by omega) _⟩

def onlyVote (M : DMsg) : Bool := (M.prev == 0) && ((M.prevTerm == 0) && (((M.items.length : Int) == 0) && ((M.commit == 0))))
set_option maxHeartbeats 4000000 in
theorem hasOnlyVote (M : DMsg) (iv : Value) (hi : ∃ a c, iv = .slice a M.items.length c) (w : World) :
    Calls Try.prog 72 #[.agg #[.int .i64 1, .int .i64 M.from_, .int .i64 M.to, .int .i64 M.term, .int .i64 M.prev, .int .i64 M.prevTerm, iv, .int .i64 M.commit, .bool M.yes], .iface 163 (.agg #[.bool M.yes])] w fun e w' => e = .returned (.bool (onlyVote M)) ∧ Below w.heap.size w w' := by
  have hB : ∀ w : World, ∀ o, Below w.heap.size w (w.alloc o) := fun w o => (Below.refl _ w).alloc (Nat.le_refl _) _
  obtain ⟨ia, ic, rfl⟩ := hi
  cases g4 : (M.prev == 0)
  · go_enter Try.func72, Try.ntmps72
    go_wp2_with (go_at_call 113; refine (messageVote M (.slice ia M.items.length ic) ⟨_, _, rfl⟩ _).mono ?_; rintro e w2 ⟨rfl, hb2⟩; have R1 := below_blk hb2 (by simp) (heap_alloc_new w _); have hs1 : w.heap.size + 1 ≤ w2.heap.size := (by have := hb2.size; simpa using this); have B1 : Below w.heap.size w w2 := (hB _ _).trans (hb2.mono (by simp)); clear hb2; have hne : ¬ w.heap.size = w2.heap.size := (by omega); have hne2 : ¬ w2.heap.size = w.heap.size := (by omega); have hlt : w.heap.size < w2.heap.size := hs1; obtain ⟨r4, q4⟩ := at_block R1 4 _ rfl; obtain ⟨r5, q5⟩ := at_block R1 5 _ rfl; obtain ⟨r6, q6⟩ := at_block R1 6 _ rfl; obtain ⟨r7, q7⟩ := at_block R1 7 _ rfl; obtain ⟨r8, q8⟩ := at_block R1 8 _ rfl; clear R1)
    go_ret
    exact ⟨by unfold onlyVote; rw [g4]; rfl, B1.alloc (by omega) _⟩
  · cases g5 : (M.prevTerm == 0)
    · go_enter Try.func72, Try.ntmps72
      go_wp2_with (go_at_call 113; refine (messageVote M (.slice ia M.items.length ic) ⟨_, _, rfl⟩ _).mono ?_; rintro e w2 ⟨rfl, hb2⟩; have R1 := below_blk hb2 (by simp) (heap_alloc_new w _); have hs1 : w.heap.size + 1 ≤ w2.heap.size := (by have := hb2.size; simpa using this); have B1 : Below w.heap.size w w2 := (hB _ _).trans (hb2.mono (by simp)); clear hb2; have hne : ¬ w.heap.size = w2.heap.size := (by omega); have hne2 : ¬ w2.heap.size = w.heap.size := (by omega); have hlt : w.heap.size < w2.heap.size := hs1; obtain ⟨r4, q4⟩ := at_block R1 4 _ rfl; obtain ⟨r5, q5⟩ := at_block R1 5 _ rfl; obtain ⟨r6, q6⟩ := at_block R1 6 _ rfl; obtain ⟨r7, q7⟩ := at_block R1 7 _ rfl; obtain ⟨r8, q8⟩ := at_block R1 8 _ rfl; clear R1)
      go_ret
      exact ⟨by unfold onlyVote; rw [g4, g5]; rfl, B1.alloc (by omega) _⟩
    · cases g6 : ((M.items.length : Int) == 0)
      · go_enter Try.func72, Try.ntmps72
        go_wp2_with (go_at_call 113; refine (messageVote M (.slice ia M.items.length ic) ⟨_, _, rfl⟩ _).mono ?_; rintro e w2 ⟨rfl, hb2⟩; have R1 := below_blk hb2 (by simp) (heap_alloc_new w _); have hs1 : w.heap.size + 1 ≤ w2.heap.size := (by have := hb2.size; simpa using this); have B1 : Below w.heap.size w w2 := (hB _ _).trans (hb2.mono (by simp)); clear hb2; have hne : ¬ w.heap.size = w2.heap.size := (by omega); have hne2 : ¬ w2.heap.size = w.heap.size := (by omega); have hlt : w.heap.size < w2.heap.size := hs1; obtain ⟨r4, q4⟩ := at_block R1 4 _ rfl; obtain ⟨r5, q5⟩ := at_block R1 5 _ rfl; obtain ⟨r6, q6⟩ := at_block R1 6 _ rfl; obtain ⟨r7, q7⟩ := at_block R1 7 _ rfl; obtain ⟨r8, q8⟩ := at_block R1 8 _ rfl; clear R1)
        go_ret
        exact ⟨by unfold onlyVote; rw [g4, g5, g6]; rfl, B1.alloc (by omega) _⟩
      · cases g7 : (M.commit == 0)
        · go_enter Try.func72, Try.ntmps72
          go_wp2_with (go_at_call 113; refine (messageVote M (.slice ia M.items.length ic) ⟨_, _, rfl⟩ _).mono ?_; rintro e w2 ⟨rfl, hb2⟩; have R1 := below_blk hb2 (by simp) (heap_alloc_new w _); have hs1 : w.heap.size + 1 ≤ w2.heap.size := (by have := hb2.size; simpa using this); have B1 : Below w.heap.size w w2 := (hB _ _).trans (hb2.mono (by simp)); clear hb2; have hne : ¬ w.heap.size = w2.heap.size := (by omega); have hne2 : ¬ w2.heap.size = w.heap.size := (by omega); have hlt : w.heap.size < w2.heap.size := hs1; obtain ⟨r4, q4⟩ := at_block R1 4 _ rfl; obtain ⟨r5, q5⟩ := at_block R1 5 _ rfl; obtain ⟨r6, q6⟩ := at_block R1 6 _ rfl; obtain ⟨r7, q7⟩ := at_block R1 7 _ rfl; obtain ⟨r8, q8⟩ := at_block R1 8 _ rfl; clear R1)
          go_ret
          exact ⟨by unfold onlyVote; rw [g4, g5, g6, g7]; rfl, B1.alloc (by omega) _⟩
        · go_enter Try.func72, Try.ntmps72
          go_wp2_with (go_at_call 113; refine (messageVote M (.slice ia M.items.length ic) ⟨_, _, rfl⟩ _).mono ?_; rintro e w2 ⟨rfl, hb2⟩; have R1 := below_blk hb2 (by simp) (heap_alloc_new w _); have hs1 : w.heap.size + 1 ≤ w2.heap.size := (by have := hb2.size; simpa using this); have B1 : Below w.heap.size w w2 := (hB _ _).trans (hb2.mono (by simp)); clear hb2; have hne : ¬ w.heap.size = w2.heap.size := (by omega); have hne2 : ¬ w2.heap.size = w.heap.size := (by omega); have hlt : w.heap.size < w2.heap.size := hs1; obtain ⟨r4, q4⟩ := at_block R1 4 _ rfl; obtain ⟨r5, q5⟩ := at_block R1 5 _ rfl; obtain ⟨r6, q6⟩ := at_block R1 6 _ rfl; obtain ⟨r7, q7⟩ := at_block R1 7 _ rfl; obtain ⟨r8, q8⟩ := at_block R1 8 _ rfl; clear R1)
          go_ret
          exact ⟨by unfold onlyVote; rw [g4, g5, g6, g7]; rfl, B1.alloc (by omega) _⟩

def onlyAdd (M : DMsg) : Bool := (M.yes == false)
set_option maxHeartbeats 4000000 in
theorem hasOnlyAdd (M : DMsg) (iv : Value) (hi : ∃ a c, iv = .slice a M.items.length c) (w : World) :
    Calls Try.prog 72 #[.agg #[.int .i64 2, .int .i64 M.from_, .int .i64 M.to, .int .i64 M.term, .int .i64 M.prev, .int .i64 M.prevTerm, iv, .int .i64 M.commit, .bool M.yes], .iface 165 (.agg #[.int .i64 M.prev, .int .i64 M.prevTerm, iv, .int .i64 M.commit])] w fun e w' => e = .returned (.bool (onlyAdd M)) ∧ Below w.heap.size w w' := by
  have hB : ∀ w : World, ∀ o, Below w.heap.size w (w.alloc o) := fun w o => (Below.refl _ w).alloc (Nat.le_refl _) _
  obtain ⟨ia, ic, rfl⟩ := hi
  cases g8 : (M.yes == false)
  · go_enter Try.func72, Try.ntmps72
    go_wp2_with (go_at_call 113; refine (messageAdd M (.slice ia M.items.length ic) ⟨_, _, rfl⟩ _).mono ?_; rintro e w2 ⟨rfl, hb2⟩; have R1 := below_blk hb2 (by simp) (heap_alloc_new w _); have hs1 : w.heap.size + 1 ≤ w2.heap.size := (by have := hb2.size; simpa using this); have B1 : Below w.heap.size w w2 := (hB _ _).trans (hb2.mono (by simp)); clear hb2; have hne : ¬ w.heap.size = w2.heap.size := (by omega); have hne2 : ¬ w2.heap.size = w.heap.size := (by omega); have hlt : w.heap.size < w2.heap.size := hs1; obtain ⟨r4, q4⟩ := at_block R1 4 _ rfl; obtain ⟨r5, q5⟩ := at_block R1 5 _ rfl; obtain ⟨r6, q6⟩ := at_block R1 6 _ rfl; obtain ⟨r7, q7⟩ := at_block R1 7 _ rfl; obtain ⟨r8, q8⟩ := at_block R1 8 _ rfl; clear R1)
    go_ret
    exact ⟨by unfold onlyAdd; rw [g8]; rfl, B1.alloc (by omega) _⟩
  · go_enter Try.func72, Try.ntmps72
    go_wp2_with (go_at_call 113; refine (messageAdd M (.slice ia M.items.length ic) ⟨_, _, rfl⟩ _).mono ?_; rintro e w2 ⟨rfl, hb2⟩; have R1 := below_blk hb2 (by simp) (heap_alloc_new w _); have hs1 : w.heap.size + 1 ≤ w2.heap.size := (by have := hb2.size; simpa using this); have B1 : Below w.heap.size w w2 := (hB _ _).trans (hb2.mono (by simp)); clear hb2; have hne : ¬ w.heap.size = w2.heap.size := (by omega); have hne2 : ¬ w2.heap.size = w.heap.size := (by omega); have hlt : w.heap.size < w2.heap.size := hs1; obtain ⟨r4, q4⟩ := at_block R1 4 _ rfl; obtain ⟨r5, q5⟩ := at_block R1 5 _ rfl; obtain ⟨r6, q6⟩ := at_block R1 6 _ rfl; obtain ⟨r7, q7⟩ := at_block R1 7 _ rfl; obtain ⟨r8, q8⟩ := at_block R1 8 _ rfl; clear R1)
    go_ret
    exact ⟨by unfold onlyAdd; rw [g8]; rfl, B1.alloc (by omega) _⟩

def onlyAck (M : DMsg) : Bool := (M.prevTerm == 0) && (((M.items.length : Int) == 0) && ((M.commit == 0)))
set_option maxHeartbeats 4000000 in
theorem hasOnlyAck (M : DMsg) (iv : Value) (hi : ∃ a c, iv = .slice a M.items.length c) (w : World) :
    Calls Try.prog 72 #[.agg #[.int .i64 3, .int .i64 M.from_, .int .i64 M.to, .int .i64 M.term, .int .i64 M.prev, .int .i64 M.prevTerm, iv, .int .i64 M.commit, .bool M.yes], .iface 167 (.agg #[.int .i64 M.prev, .bool M.yes])] w fun e w' => e = .returned (.bool (onlyAck M)) ∧ Below w.heap.size w w' := by
  have hB : ∀ w : World, ∀ o, Below w.heap.size w (w.alloc o) := fun w o => (Below.refl _ w).alloc (Nat.le_refl _) _
  obtain ⟨ia, ic, rfl⟩ := hi
  cases g5 : (M.prevTerm == 0)
  · go_enter Try.func72, Try.ntmps72
    go_wp2_with (go_at_call 113; refine (messageAck M (.slice ia M.items.length ic) ⟨_, _, rfl⟩ _).mono ?_; rintro e w2 ⟨rfl, hb2⟩; have R1 := below_blk hb2 (by simp) (heap_alloc_new w _); have hs1 : w.heap.size + 1 ≤ w2.heap.size := (by have := hb2.size; simpa using this); have B1 : Below w.heap.size w w2 := (hB _ _).trans (hb2.mono (by simp)); clear hb2; have hne : ¬ w.heap.size = w2.heap.size := (by omega); have hne2 : ¬ w2.heap.size = w.heap.size := (by omega); have hlt : w.heap.size < w2.heap.size := hs1; obtain ⟨r4, q4⟩ := at_block R1 4 _ rfl; obtain ⟨r5, q5⟩ := at_block R1 5 _ rfl; obtain ⟨r6, q6⟩ := at_block R1 6 _ rfl; obtain ⟨r7, q7⟩ := at_block R1 7 _ rfl; obtain ⟨r8, q8⟩ := at_block R1 8 _ rfl; clear R1)
    go_ret
    exact ⟨by unfold onlyAck; rw [g5]; rfl, B1.alloc (by omega) _⟩
  · cases g6 : ((M.items.length : Int) == 0)
    · go_enter Try.func72, Try.ntmps72
      go_wp2_with (go_at_call 113; refine (messageAck M (.slice ia M.items.length ic) ⟨_, _, rfl⟩ _).mono ?_; rintro e w2 ⟨rfl, hb2⟩; have R1 := below_blk hb2 (by simp) (heap_alloc_new w _); have hs1 : w.heap.size + 1 ≤ w2.heap.size := (by have := hb2.size; simpa using this); have B1 : Below w.heap.size w w2 := (hB _ _).trans (hb2.mono (by simp)); clear hb2; have hne : ¬ w.heap.size = w2.heap.size := (by omega); have hne2 : ¬ w2.heap.size = w.heap.size := (by omega); have hlt : w.heap.size < w2.heap.size := hs1; obtain ⟨r4, q4⟩ := at_block R1 4 _ rfl; obtain ⟨r5, q5⟩ := at_block R1 5 _ rfl; obtain ⟨r6, q6⟩ := at_block R1 6 _ rfl; obtain ⟨r7, q7⟩ := at_block R1 7 _ rfl; obtain ⟨r8, q8⟩ := at_block R1 8 _ rfl; clear R1)
      go_ret
      exact ⟨by unfold onlyAck; rw [g5, g6]; rfl, B1.alloc (by omega) _⟩
    · cases g7 : (M.commit == 0)
      · go_enter Try.func72, Try.ntmps72
        go_wp2_with (go_at_call 113; refine (messageAck M (.slice ia M.items.length ic) ⟨_, _, rfl⟩ _).mono ?_; rintro e w2 ⟨rfl, hb2⟩; have R1 := below_blk hb2 (by simp) (heap_alloc_new w _); have hs1 : w.heap.size + 1 ≤ w2.heap.size := (by have := hb2.size; simpa using this); have B1 : Below w.heap.size w w2 := (hB _ _).trans (hb2.mono (by simp)); clear hb2; have hne : ¬ w.heap.size = w2.heap.size := (by omega); have hne2 : ¬ w2.heap.size = w.heap.size := (by omega); have hlt : w.heap.size < w2.heap.size := hs1; obtain ⟨r4, q4⟩ := at_block R1 4 _ rfl; obtain ⟨r5, q5⟩ := at_block R1 5 _ rfl; obtain ⟨r6, q6⟩ := at_block R1 6 _ rfl; obtain ⟨r7, q7⟩ := at_block R1 7 _ rfl; obtain ⟨r8, q8⟩ := at_block R1 8 _ rfl; clear R1)
        go_ret
        exact ⟨by unfold onlyAck; rw [g5, g6, g7]; rfl, B1.alloc (by omega) _⟩
      · go_enter Try.func72, Try.ntmps72
        go_wp2_with (go_at_call 113; refine (messageAck M (.slice ia M.items.length ic) ⟨_, _, rfl⟩ _).mono ?_; rintro e w2 ⟨rfl, hb2⟩; have R1 := below_blk hb2 (by simp) (heap_alloc_new w _); have hs1 : w.heap.size + 1 ≤ w2.heap.size := (by have := hb2.size; simpa using this); have B1 : Below w.heap.size w w2 := (hB _ _).trans (hb2.mono (by simp)); clear hb2; have hne : ¬ w.heap.size = w2.heap.size := (by omega); have hne2 : ¬ w2.heap.size = w.heap.size := (by omega); have hlt : w.heap.size < w2.heap.size := hs1; obtain ⟨r4, q4⟩ := at_block R1 4 _ rfl; obtain ⟨r5, q5⟩ := at_block R1 5 _ rfl; obtain ⟨r6, q6⟩ := at_block R1 6 _ rfl; obtain ⟨r7, q7⟩ := at_block R1 7 _ rfl; obtain ⟨r8, q8⟩ := at_block R1 8 _ rfl; clear R1)
        go_ret
        exact ⟨by unfold onlyAck; rw [g5, g6, g7]; rfl, B1.alloc (by omega) _⟩

end Go.Proofs.Ytplgnohncdfgcal
