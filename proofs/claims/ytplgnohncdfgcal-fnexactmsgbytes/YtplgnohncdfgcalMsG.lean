/- The contract of the program's MsgOk. -/
import Derived.Test.YtplgnohncdfgcalMsF
namespace Go.Proofs.Ytplgnohncdfgcal
open Go.RowKit

theorem cells9 {w w' : World} {g : Nat} {v0 v1 v2 v3 v4 v5 v6 v7 v8 : Value} {t : TypeId} (h : w.heap[g]? = some (.cells #[v0, v1, v2, v3, v4, v5, v6, v7, v8] t (0, 0))) (b : Below (g + 1) w w') :
    w'.heap[g]? = some (.cells #[v0, v1, v2, v3, v4, v5, v6, v7, v8] t (0, 0)) ∧ w'.cell? ⟨g, 0, none⟩ = some v0 ∧ w'.cell? ⟨g, 1, none⟩ = some v1 ∧ w'.cell? ⟨g, 2, none⟩ = some v2 ∧ w'.cell? ⟨g, 3, none⟩ = some v3 ∧ w'.cell? ⟨g, 4, none⟩ = some v4 ∧ w'.cell? ⟨g, 5, none⟩ = some v5 ∧ w'.cell? ⟨g, 6, none⟩ = some v6 ∧ w'.cell? ⟨g, 7, none⟩ = some v7 ∧ w'.cell? ⟨g, 8, none⟩ = some v8 := by
  have R := below_blk b (by omega) h
  exact ⟨R, (at_block R 0 _ rfl).1, (at_block R 1 _ rfl).1, (at_block R 2 _ rfl).1, (at_block R 3 _ rfl).1, (at_block R 4 _ rfl).1, (at_block R 5 _ rfl).1, (at_block R 6 _ rfl).1, (at_block R 7 _ rfl).1, (at_block R 8 _ rfl).1⟩

theorem mth0 (v : Value) (w : World) : (method 301 161 v "loop.example/g00365/impl.ok").run Try.prog w = .ok (149, v) w := by kernel_rfl
def saysAsk (M : DMsg) : Bool := headB M.from_ M.to M.term && (prevB M.prev M.prevTerm M.term && onlyAsk M)
set_option maxHeartbeats 4000000 in
set_option maxRecDepth 100000 in
theorem iMsgOkAsk (M : DMsg) (iv : Value) (w : World) (h : VItems w iv M.items) :
    Calls Try.prog 25 #[.agg #[.int .i64 0, .int .i64 M.from_, .int .i64 M.to, .int .i64 M.term, .int .i64 M.prev, .int .i64 M.prevTerm, iv, .int .i64 M.commit, .bool M.yes]] w fun e w' => e = .returned (.bool (saysAsk M)) ∧ Below w.heap.size w w' := by
  have HV : Hid (∀ w', Ext w w' → VItems w' iv M.items) := fun w' x => h.ext x
  obtain ⟨ia, ic, rfl⟩ : ∃ a c, iv = .slice a M.items.length c := by
    obtain ⟨C, ⟨a, cap, e, _⟩, _⟩ := h
    exact ⟨a, cap, e⟩
  have hm := mth0
  have hB : ∀ w : World, ∀ o, Below w.heap.size w (w.alloc o) := fun w o => (Below.refl _ w).alloc (Nat.le_refl _) _
  cases J1 : headB M.from_ M.to M.term
  · go_enter Try.func25, Try.ntmps25
    go_wp2_with (first | (go_at_call 70; refine (bodyAsk M (.slice ia M.items.length ic) ⟨_, _, rfl⟩ _).mono ?_; rintro e w2 ⟨rfl, b2⟩; have s2 : w.heap.size + 1 ≤ w2.heap.size := (by have := b2.size; (try simp at this); omega); have H2 : Hid (Below w.heap.size w w2) := (hB _ _).trans (b2.mono (by simp)); obtain ⟨R2, r20, r21, r22, r23, r24, r25, r26, r27, r28⟩ := cells9 (heap_alloc_new w _) (b2.mono (by simp)); clear b2) | (go_at_call 71; refine (headOkV { M with kind := 0 } (.slice ia M.items.length ic) ⟨_, _, rfl⟩ _).mono ?_; rintro e w3 ⟨rfl, b3⟩; have s3 : w.heap.size + 1 ≤ w3.heap.size := (by have := b3.size; (try simp at this); omega); have H3 : Hid (Below w.heap.size w w3) := H2.out.trans (b3.mono (by omega)); obtain ⟨R3, r30, r31, r32, r33, r34, r35, r36, r37, r38⟩ := cells9 R2 (b3.mono (by omega)); clear b3; rw [J1]) | (go_at_call 149; refine (askOkV M.prev M.prevTerm M.term _).mono ?_; rintro e w4 ⟨rfl, b4⟩; have s4 : w.heap.size + 1 ≤ w4.heap.size := (by have := b4.size; (try simp at this); omega); have H4 : Hid (Below w.heap.size w w4) := H3.out.trans (b4.mono (by omega)); obtain ⟨R4, r40, r41, r42, r43, r44, r45, r46, r47, r48⟩ := cells9 R3 (b4.mono (by omega)); clear b4; rw [J2]) | (go_at_call 72; refine (hasOnlyAsk M (.slice ia M.items.length ic) ⟨_, _, rfl⟩ _).mono ?_; rintro e w5 ⟨rfl, b5⟩; have H5 : Hid (Below w.heap.size w w5) := H4.out.trans (b5.mono (by omega)); clear b5))
    go_ret
    exact ⟨by unfold saysAsk; rw [J1]; rfl, H3.out⟩
  cases J2 : prevB M.prev M.prevTerm M.term
  · go_enter Try.func25, Try.ntmps25
    go_wp2_with (first | (go_at_call 70; refine (bodyAsk M (.slice ia M.items.length ic) ⟨_, _, rfl⟩ _).mono ?_; rintro e w2 ⟨rfl, b2⟩; have s2 : w.heap.size + 1 ≤ w2.heap.size := (by have := b2.size; (try simp at this); omega); have H2 : Hid (Below w.heap.size w w2) := (hB _ _).trans (b2.mono (by simp)); obtain ⟨R2, r20, r21, r22, r23, r24, r25, r26, r27, r28⟩ := cells9 (heap_alloc_new w _) (b2.mono (by simp)); clear b2) | (go_at_call 71; refine (headOkV { M with kind := 0 } (.slice ia M.items.length ic) ⟨_, _, rfl⟩ _).mono ?_; rintro e w3 ⟨rfl, b3⟩; have s3 : w.heap.size + 1 ≤ w3.heap.size := (by have := b3.size; (try simp at this); omega); have H3 : Hid (Below w.heap.size w w3) := H2.out.trans (b3.mono (by omega)); obtain ⟨R3, r30, r31, r32, r33, r34, r35, r36, r37, r38⟩ := cells9 R2 (b3.mono (by omega)); clear b3; rw [J1]) | (go_at_call 149; refine (askOkV M.prev M.prevTerm M.term _).mono ?_; rintro e w4 ⟨rfl, b4⟩; have s4 : w.heap.size + 1 ≤ w4.heap.size := (by have := b4.size; (try simp at this); omega); have H4 : Hid (Below w.heap.size w w4) := H3.out.trans (b4.mono (by omega)); obtain ⟨R4, r40, r41, r42, r43, r44, r45, r46, r47, r48⟩ := cells9 R3 (b4.mono (by omega)); clear b4; rw [J2]) | (go_at_call 72; refine (hasOnlyAsk M (.slice ia M.items.length ic) ⟨_, _, rfl⟩ _).mono ?_; rintro e w5 ⟨rfl, b5⟩; have H5 : Hid (Below w.heap.size w w5) := H4.out.trans (b5.mono (by omega)); clear b5))
    go_ret
    exact ⟨by unfold saysAsk; rw [J1, J2]; rfl, H4.out⟩
  · go_enter Try.func25, Try.ntmps25
    go_wp2_with (first | (go_at_call 70; refine (bodyAsk M (.slice ia M.items.length ic) ⟨_, _, rfl⟩ _).mono ?_; rintro e w2 ⟨rfl, b2⟩; have s2 : w.heap.size + 1 ≤ w2.heap.size := (by have := b2.size; (try simp at this); omega); have H2 : Hid (Below w.heap.size w w2) := (hB _ _).trans (b2.mono (by simp)); obtain ⟨R2, r20, r21, r22, r23, r24, r25, r26, r27, r28⟩ := cells9 (heap_alloc_new w _) (b2.mono (by simp)); clear b2) | (go_at_call 71; refine (headOkV { M with kind := 0 } (.slice ia M.items.length ic) ⟨_, _, rfl⟩ _).mono ?_; rintro e w3 ⟨rfl, b3⟩; have s3 : w.heap.size + 1 ≤ w3.heap.size := (by have := b3.size; (try simp at this); omega); have H3 : Hid (Below w.heap.size w w3) := H2.out.trans (b3.mono (by omega)); obtain ⟨R3, r30, r31, r32, r33, r34, r35, r36, r37, r38⟩ := cells9 R2 (b3.mono (by omega)); clear b3; rw [J1]) | (go_at_call 149; refine (askOkV M.prev M.prevTerm M.term _).mono ?_; rintro e w4 ⟨rfl, b4⟩; have s4 : w.heap.size + 1 ≤ w4.heap.size := (by have := b4.size; (try simp at this); omega); have H4 : Hid (Below w.heap.size w w4) := H3.out.trans (b4.mono (by omega)); obtain ⟨R4, r40, r41, r42, r43, r44, r45, r46, r47, r48⟩ := cells9 R3 (b4.mono (by omega)); clear b4; rw [J2]) | (go_at_call 72; refine (hasOnlyAsk M (.slice ia M.items.length ic) ⟨_, _, rfl⟩ _).mono ?_; rintro e w5 ⟨rfl, b5⟩; have H5 : Hid (Below w.heap.size w w5) := H4.out.trans (b5.mono (by omega)); clear b5))
    go_ret
    exact ⟨by unfold saysAsk; rw [J1, J2]; rfl, H5.out⟩

theorem mth1 (v : Value) (w : World) : (method 301 163 v "loop.example/g00365/impl.ok").run Try.prog w = .ok (151, v) w := by kernel_rfl
def saysVote (M : DMsg) : Bool := headB M.from_ M.to M.term && (true && onlyVote M)
set_option maxHeartbeats 4000000 in
set_option maxRecDepth 100000 in
theorem iMsgOkVote (M : DMsg) (iv : Value) (w : World) (h : VItems w iv M.items) :
    Calls Try.prog 25 #[.agg #[.int .i64 1, .int .i64 M.from_, .int .i64 M.to, .int .i64 M.term, .int .i64 M.prev, .int .i64 M.prevTerm, iv, .int .i64 M.commit, .bool M.yes]] w fun e w' => e = .returned (.bool (saysVote M)) ∧ Below w.heap.size w w' := by
  have HV : Hid (∀ w', Ext w w' → VItems w' iv M.items) := fun w' x => h.ext x
  obtain ⟨ia, ic, rfl⟩ : ∃ a c, iv = .slice a M.items.length c := by
    obtain ⟨C, ⟨a, cap, e, _⟩, _⟩ := h
    exact ⟨a, cap, e⟩
  have hm := mth1
  have hB : ∀ w : World, ∀ o, Below w.heap.size w (w.alloc o) := fun w o => (Below.refl _ w).alloc (Nat.le_refl _) _
  cases J1 : headB M.from_ M.to M.term
  · go_enter Try.func25, Try.ntmps25
    go_wp2_with (first | (go_at_call 70; refine (bodyVote M (.slice ia M.items.length ic) ⟨_, _, rfl⟩ _).mono ?_; rintro e w2 ⟨rfl, b2⟩; have s2 : w.heap.size + 1 ≤ w2.heap.size := (by have := b2.size; (try simp at this); omega); have H2 : Hid (Below w.heap.size w w2) := (hB _ _).trans (b2.mono (by simp)); obtain ⟨R2, r20, r21, r22, r23, r24, r25, r26, r27, r28⟩ := cells9 (heap_alloc_new w _) (b2.mono (by simp)); clear b2) | (go_at_call 71; refine (headOkV { M with kind := 1 } (.slice ia M.items.length ic) ⟨_, _, rfl⟩ _).mono ?_; rintro e w3 ⟨rfl, b3⟩; have s3 : w.heap.size + 1 ≤ w3.heap.size := (by have := b3.size; (try simp at this); omega); have H3 : Hid (Below w.heap.size w w3) := H2.out.trans (b3.mono (by omega)); obtain ⟨R3, r30, r31, r32, r33, r34, r35, r36, r37, r38⟩ := cells9 R2 (b3.mono (by omega)); clear b3; rw [J1]) | (go_at_call 151; refine (voteOkV M.term M.yes _).mono ?_; rintro e w4 ⟨rfl, b4⟩; have s4 : w.heap.size + 1 ≤ w4.heap.size := (by have := b4.size; (try simp at this); omega); have H4 : Hid (Below w.heap.size w w4) := H3.out.trans (b4.mono (by omega)); obtain ⟨R4, r40, r41, r42, r43, r44, r45, r46, r47, r48⟩ := cells9 R3 (b4.mono (by omega)); clear b4) | (go_at_call 72; refine (hasOnlyVote M (.slice ia M.items.length ic) ⟨_, _, rfl⟩ _).mono ?_; rintro e w5 ⟨rfl, b5⟩; have H5 : Hid (Below w.heap.size w w5) := H4.out.trans (b5.mono (by omega)); clear b5))
    go_ret
    exact ⟨by unfold saysVote; rw [J1]; rfl, H3.out⟩
  · go_enter Try.func25, Try.ntmps25
    go_wp2_with (first | (go_at_call 70; refine (bodyVote M (.slice ia M.items.length ic) ⟨_, _, rfl⟩ _).mono ?_; rintro e w2 ⟨rfl, b2⟩; have s2 : w.heap.size + 1 ≤ w2.heap.size := (by have := b2.size; (try simp at this); omega); have H2 : Hid (Below w.heap.size w w2) := (hB _ _).trans (b2.mono (by simp)); obtain ⟨R2, r20, r21, r22, r23, r24, r25, r26, r27, r28⟩ := cells9 (heap_alloc_new w _) (b2.mono (by simp)); clear b2) | (go_at_call 71; refine (headOkV { M with kind := 1 } (.slice ia M.items.length ic) ⟨_, _, rfl⟩ _).mono ?_; rintro e w3 ⟨rfl, b3⟩; have s3 : w.heap.size + 1 ≤ w3.heap.size := (by have := b3.size; (try simp at this); omega); have H3 : Hid (Below w.heap.size w w3) := H2.out.trans (b3.mono (by omega)); obtain ⟨R3, r30, r31, r32, r33, r34, r35, r36, r37, r38⟩ := cells9 R2 (b3.mono (by omega)); clear b3; rw [J1]) | (go_at_call 151; refine (voteOkV M.term M.yes _).mono ?_; rintro e w4 ⟨rfl, b4⟩; have s4 : w.heap.size + 1 ≤ w4.heap.size := (by have := b4.size; (try simp at this); omega); have H4 : Hid (Below w.heap.size w w4) := H3.out.trans (b4.mono (by omega)); obtain ⟨R4, r40, r41, r42, r43, r44, r45, r46, r47, r48⟩ := cells9 R3 (b4.mono (by omega)); clear b4) | (go_at_call 72; refine (hasOnlyVote M (.slice ia M.items.length ic) ⟨_, _, rfl⟩ _).mono ?_; rintro e w5 ⟨rfl, b5⟩; have H5 : Hid (Below w.heap.size w w5) := H4.out.trans (b5.mono (by omega)); clear b5))
    go_ret
    exact ⟨by unfold saysVote; rw [J1]; rfl, H5.out⟩

theorem mth2 (v : Value) (w : World) : (method 301 165 v "loop.example/g00365/impl.ok").run Try.prog w = .ok (152, v) w := by kernel_rfl
def saysAdd (M : DMsg) : Bool := headB M.from_ M.to M.term && (addB M.prev M.prevTerm M.term M.commit M.items && onlyAdd M)
set_option maxHeartbeats 4000000 in
set_option maxRecDepth 100000 in
theorem iMsgOkAdd (M : DMsg) (iv : Value) (w : World) (h : VItems w iv M.items) :
    Calls Try.prog 25 #[.agg #[.int .i64 2, .int .i64 M.from_, .int .i64 M.to, .int .i64 M.term, .int .i64 M.prev, .int .i64 M.prevTerm, iv, .int .i64 M.commit, .bool M.yes]] w fun e w' => e = .returned (.bool (saysAdd M)) ∧ Below w.heap.size w w' := by
  have HV : Hid (∀ w', Ext w w' → VItems w' iv M.items) := fun w' x => h.ext x
  obtain ⟨ia, ic, rfl⟩ : ∃ a c, iv = .slice a M.items.length c := by
    obtain ⟨C, ⟨a, cap, e, _⟩, _⟩ := h
    exact ⟨a, cap, e⟩
  have hm := mth2
  have hB : ∀ w : World, ∀ o, Below w.heap.size w (w.alloc o) := fun w o => (Below.refl _ w).alloc (Nat.le_refl _) _
  cases J1 : headB M.from_ M.to M.term
  · go_enter Try.func25, Try.ntmps25
    go_wp2_with (first | (go_at_call 70; refine (bodyAdd M (.slice ia M.items.length ic) ⟨_, _, rfl⟩ _).mono ?_; rintro e w2 ⟨rfl, b2⟩; have s2 : w.heap.size + 1 ≤ w2.heap.size := (by have := b2.size; (try simp at this); omega); have H2 : Hid (Below w.heap.size w w2) := (hB _ _).trans (b2.mono (by simp)); obtain ⟨R2, r20, r21, r22, r23, r24, r25, r26, r27, r28⟩ := cells9 (heap_alloc_new w _) (b2.mono (by simp)); clear b2) | (go_at_call 71; refine (headOkV { M with kind := 2 } (.slice ia M.items.length ic) ⟨_, _, rfl⟩ _).mono ?_; rintro e w3 ⟨rfl, b3⟩; have s3 : w.heap.size + 1 ≤ w3.heap.size := (by have := b3.size; (try simp at this); omega); have H3 : Hid (Below w.heap.size w w3) := H2.out.trans (b3.mono (by omega)); obtain ⟨R3, r30, r31, r32, r33, r34, r35, r36, r37, r38⟩ := cells9 R2 (b3.mono (by omega)); clear b3; rw [J1]) | (go_at_call 152; refine (addOkV M.prev M.prevTerm M.term M.commit _ M.items _ (HV.out _ (ext_below H3.out))).mono ?_; rintro e w4 ⟨rfl, b4⟩; have s4 : w.heap.size + 1 ≤ w4.heap.size := (by have := b4.size; (try simp at this); omega); have H4 : Hid (Below w.heap.size w w4) := H3.out.trans (b4.mono (by omega)); obtain ⟨R4, r40, r41, r42, r43, r44, r45, r46, r47, r48⟩ := cells9 R3 (b4.mono (by omega)); clear b4; rw [J2]) | (go_at_call 72; refine (hasOnlyAdd M (.slice ia M.items.length ic) ⟨_, _, rfl⟩ _).mono ?_; rintro e w5 ⟨rfl, b5⟩; have H5 : Hid (Below w.heap.size w w5) := H4.out.trans (b5.mono (by omega)); clear b5))
    go_ret
    exact ⟨by unfold saysAdd; rw [J1]; rfl, H3.out⟩
  cases J2 : addB M.prev M.prevTerm M.term M.commit M.items
  · go_enter Try.func25, Try.ntmps25
    go_wp2_with (first | (go_at_call 70; refine (bodyAdd M (.slice ia M.items.length ic) ⟨_, _, rfl⟩ _).mono ?_; rintro e w2 ⟨rfl, b2⟩; have s2 : w.heap.size + 1 ≤ w2.heap.size := (by have := b2.size; (try simp at this); omega); have H2 : Hid (Below w.heap.size w w2) := (hB _ _).trans (b2.mono (by simp)); obtain ⟨R2, r20, r21, r22, r23, r24, r25, r26, r27, r28⟩ := cells9 (heap_alloc_new w _) (b2.mono (by simp)); clear b2) | (go_at_call 71; refine (headOkV { M with kind := 2 } (.slice ia M.items.length ic) ⟨_, _, rfl⟩ _).mono ?_; rintro e w3 ⟨rfl, b3⟩; have s3 : w.heap.size + 1 ≤ w3.heap.size := (by have := b3.size; (try simp at this); omega); have H3 : Hid (Below w.heap.size w w3) := H2.out.trans (b3.mono (by omega)); obtain ⟨R3, r30, r31, r32, r33, r34, r35, r36, r37, r38⟩ := cells9 R2 (b3.mono (by omega)); clear b3; rw [J1]) | (go_at_call 152; refine (addOkV M.prev M.prevTerm M.term M.commit _ M.items _ (HV.out _ (ext_below H3.out))).mono ?_; rintro e w4 ⟨rfl, b4⟩; have s4 : w.heap.size + 1 ≤ w4.heap.size := (by have := b4.size; (try simp at this); omega); have H4 : Hid (Below w.heap.size w w4) := H3.out.trans (b4.mono (by omega)); obtain ⟨R4, r40, r41, r42, r43, r44, r45, r46, r47, r48⟩ := cells9 R3 (b4.mono (by omega)); clear b4; rw [J2]) | (go_at_call 72; refine (hasOnlyAdd M (.slice ia M.items.length ic) ⟨_, _, rfl⟩ _).mono ?_; rintro e w5 ⟨rfl, b5⟩; have H5 : Hid (Below w.heap.size w w5) := H4.out.trans (b5.mono (by omega)); clear b5))
    go_ret
    exact ⟨by unfold saysAdd; rw [J1, J2]; rfl, H4.out⟩
  · go_enter Try.func25, Try.ntmps25
    go_wp2_with (first | (go_at_call 70; refine (bodyAdd M (.slice ia M.items.length ic) ⟨_, _, rfl⟩ _).mono ?_; rintro e w2 ⟨rfl, b2⟩; have s2 : w.heap.size + 1 ≤ w2.heap.size := (by have := b2.size; (try simp at this); omega); have H2 : Hid (Below w.heap.size w w2) := (hB _ _).trans (b2.mono (by simp)); obtain ⟨R2, r20, r21, r22, r23, r24, r25, r26, r27, r28⟩ := cells9 (heap_alloc_new w _) (b2.mono (by simp)); clear b2) | (go_at_call 71; refine (headOkV { M with kind := 2 } (.slice ia M.items.length ic) ⟨_, _, rfl⟩ _).mono ?_; rintro e w3 ⟨rfl, b3⟩; have s3 : w.heap.size + 1 ≤ w3.heap.size := (by have := b3.size; (try simp at this); omega); have H3 : Hid (Below w.heap.size w w3) := H2.out.trans (b3.mono (by omega)); obtain ⟨R3, r30, r31, r32, r33, r34, r35, r36, r37, r38⟩ := cells9 R2 (b3.mono (by omega)); clear b3; rw [J1]) | (go_at_call 152; refine (addOkV M.prev M.prevTerm M.term M.commit _ M.items _ (HV.out _ (ext_below H3.out))).mono ?_; rintro e w4 ⟨rfl, b4⟩; have s4 : w.heap.size + 1 ≤ w4.heap.size := (by have := b4.size; (try simp at this); omega); have H4 : Hid (Below w.heap.size w w4) := H3.out.trans (b4.mono (by omega)); obtain ⟨R4, r40, r41, r42, r43, r44, r45, r46, r47, r48⟩ := cells9 R3 (b4.mono (by omega)); clear b4; rw [J2]) | (go_at_call 72; refine (hasOnlyAdd M (.slice ia M.items.length ic) ⟨_, _, rfl⟩ _).mono ?_; rintro e w5 ⟨rfl, b5⟩; have H5 : Hid (Below w.heap.size w w5) := H4.out.trans (b5.mono (by omega)); clear b5))
    go_ret
    exact ⟨by unfold saysAdd; rw [J1, J2]; rfl, H5.out⟩

theorem mth3 (v : Value) (w : World) : (method 301 167 v "loop.example/g00365/impl.ok").run Try.prog w = .ok (153, v) w := by kernel_rfl
def saysAck (M : DMsg) : Bool := headB M.from_ M.to M.term && (inB M.prev 0 400 && onlyAck M)
set_option maxHeartbeats 4000000 in
set_option maxRecDepth 100000 in
theorem iMsgOkAck (M : DMsg) (iv : Value) (w : World) (h : VItems w iv M.items) :
    Calls Try.prog 25 #[.agg #[.int .i64 3, .int .i64 M.from_, .int .i64 M.to, .int .i64 M.term, .int .i64 M.prev, .int .i64 M.prevTerm, iv, .int .i64 M.commit, .bool M.yes]] w fun e w' => e = .returned (.bool (saysAck M)) ∧ Below w.heap.size w w' := by
  have HV : Hid (∀ w', Ext w w' → VItems w' iv M.items) := fun w' x => h.ext x
  obtain ⟨ia, ic, rfl⟩ : ∃ a c, iv = .slice a M.items.length c := by
    obtain ⟨C, ⟨a, cap, e, _⟩, _⟩ := h
    exact ⟨a, cap, e⟩
  have hm := mth3
  have hB : ∀ w : World, ∀ o, Below w.heap.size w (w.alloc o) := fun w o => (Below.refl _ w).alloc (Nat.le_refl _) _
  cases J1 : headB M.from_ M.to M.term
  · go_enter Try.func25, Try.ntmps25
    go_wp2_with (first | (go_at_call 70; refine (bodyAck M (.slice ia M.items.length ic) ⟨_, _, rfl⟩ _).mono ?_; rintro e w2 ⟨rfl, b2⟩; have s2 : w.heap.size + 1 ≤ w2.heap.size := (by have := b2.size; (try simp at this); omega); have H2 : Hid (Below w.heap.size w w2) := (hB _ _).trans (b2.mono (by simp)); obtain ⟨R2, r20, r21, r22, r23, r24, r25, r26, r27, r28⟩ := cells9 (heap_alloc_new w _) (b2.mono (by simp)); clear b2) | (go_at_call 71; refine (headOkV { M with kind := 3 } (.slice ia M.items.length ic) ⟨_, _, rfl⟩ _).mono ?_; rintro e w3 ⟨rfl, b3⟩; have s3 : w.heap.size + 1 ≤ w3.heap.size := (by have := b3.size; (try simp at this); omega); have H3 : Hid (Below w.heap.size w w3) := H2.out.trans (b3.mono (by omega)); obtain ⟨R3, r30, r31, r32, r33, r34, r35, r36, r37, r38⟩ := cells9 R2 (b3.mono (by omega)); clear b3; rw [J1]) | (go_at_call 153; refine (ackOkV M.prev M.term M.yes _).mono ?_; rintro e w4 ⟨rfl, b4⟩; have s4 : w.heap.size + 1 ≤ w4.heap.size := (by have := b4.size; (try simp at this); omega); have H4 : Hid (Below w.heap.size w w4) := H3.out.trans (b4.mono (by omega)); obtain ⟨R4, r40, r41, r42, r43, r44, r45, r46, r47, r48⟩ := cells9 R3 (b4.mono (by omega)); clear b4; rw [J2]) | (go_at_call 72; refine (hasOnlyAck M (.slice ia M.items.length ic) ⟨_, _, rfl⟩ _).mono ?_; rintro e w5 ⟨rfl, b5⟩; have H5 : Hid (Below w.heap.size w w5) := H4.out.trans (b5.mono (by omega)); clear b5))
    go_ret
    exact ⟨by unfold saysAck; rw [J1]; rfl, H3.out⟩
  cases J2 : inB M.prev 0 400
  · go_enter Try.func25, Try.ntmps25
    go_wp2_with (first | (go_at_call 70; refine (bodyAck M (.slice ia M.items.length ic) ⟨_, _, rfl⟩ _).mono ?_; rintro e w2 ⟨rfl, b2⟩; have s2 : w.heap.size + 1 ≤ w2.heap.size := (by have := b2.size; (try simp at this); omega); have H2 : Hid (Below w.heap.size w w2) := (hB _ _).trans (b2.mono (by simp)); obtain ⟨R2, r20, r21, r22, r23, r24, r25, r26, r27, r28⟩ := cells9 (heap_alloc_new w _) (b2.mono (by simp)); clear b2) | (go_at_call 71; refine (headOkV { M with kind := 3 } (.slice ia M.items.length ic) ⟨_, _, rfl⟩ _).mono ?_; rintro e w3 ⟨rfl, b3⟩; have s3 : w.heap.size + 1 ≤ w3.heap.size := (by have := b3.size; (try simp at this); omega); have H3 : Hid (Below w.heap.size w w3) := H2.out.trans (b3.mono (by omega)); obtain ⟨R3, r30, r31, r32, r33, r34, r35, r36, r37, r38⟩ := cells9 R2 (b3.mono (by omega)); clear b3; rw [J1]) | (go_at_call 153; refine (ackOkV M.prev M.term M.yes _).mono ?_; rintro e w4 ⟨rfl, b4⟩; have s4 : w.heap.size + 1 ≤ w4.heap.size := (by have := b4.size; (try simp at this); omega); have H4 : Hid (Below w.heap.size w w4) := H3.out.trans (b4.mono (by omega)); obtain ⟨R4, r40, r41, r42, r43, r44, r45, r46, r47, r48⟩ := cells9 R3 (b4.mono (by omega)); clear b4; rw [J2]) | (go_at_call 72; refine (hasOnlyAck M (.slice ia M.items.length ic) ⟨_, _, rfl⟩ _).mono ?_; rintro e w5 ⟨rfl, b5⟩; have H5 : Hid (Below w.heap.size w w5) := H4.out.trans (b5.mono (by omega)); clear b5))
    go_ret
    exact ⟨by unfold saysAck; rw [J1, J2]; rfl, H4.out⟩
  · go_enter Try.func25, Try.ntmps25
    go_wp2_with (first | (go_at_call 70; refine (bodyAck M (.slice ia M.items.length ic) ⟨_, _, rfl⟩ _).mono ?_; rintro e w2 ⟨rfl, b2⟩; have s2 : w.heap.size + 1 ≤ w2.heap.size := (by have := b2.size; (try simp at this); omega); have H2 : Hid (Below w.heap.size w w2) := (hB _ _).trans (b2.mono (by simp)); obtain ⟨R2, r20, r21, r22, r23, r24, r25, r26, r27, r28⟩ := cells9 (heap_alloc_new w _) (b2.mono (by simp)); clear b2) | (go_at_call 71; refine (headOkV { M with kind := 3 } (.slice ia M.items.length ic) ⟨_, _, rfl⟩ _).mono ?_; rintro e w3 ⟨rfl, b3⟩; have s3 : w.heap.size + 1 ≤ w3.heap.size := (by have := b3.size; (try simp at this); omega); have H3 : Hid (Below w.heap.size w w3) := H2.out.trans (b3.mono (by omega)); obtain ⟨R3, r30, r31, r32, r33, r34, r35, r36, r37, r38⟩ := cells9 R2 (b3.mono (by omega)); clear b3; rw [J1]) | (go_at_call 153; refine (ackOkV M.prev M.term M.yes _).mono ?_; rintro e w4 ⟨rfl, b4⟩; have s4 : w.heap.size + 1 ≤ w4.heap.size := (by have := b4.size; (try simp at this); omega); have H4 : Hid (Below w.heap.size w w4) := H3.out.trans (b4.mono (by omega)); obtain ⟨R4, r40, r41, r42, r43, r44, r45, r46, r47, r48⟩ := cells9 R3 (b4.mono (by omega)); clear b4; rw [J2]) | (go_at_call 72; refine (hasOnlyAck M (.slice ia M.items.length ic) ⟨_, _, rfl⟩ _).mono ?_; rintro e w5 ⟨rfl, b5⟩; have H5 : Hid (Below w.heap.size w w5) := H4.out.trans (b5.mono (by omega)); clear b5))
    go_ret
    exact ⟨by unfold saysAck; rw [J1, J2]; rfl, H5.out⟩

end Go.Proofs.Ytplgnohncdfgcal
