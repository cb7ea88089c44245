/- A new server: the program's and the specification's. -/
import Derived.Test.YtpmkmnniccbljalNmA
import Derived.Test.YtpmkmnniccbljalIKey
import Derived.Laws.MakeOwn
namespace Go.Proofs.Ytpmkmnniccbljal
open Go.RowKit

theorem info3 : (Try.prog.info? 3).map (fun i => (i.zero, i.size, i.bytes)) = some (some (.int .i64 0), 1, 8) := by kernel_rfl
theorem info4 : (Try.prog.info? 4).map (fun i => (i.zero, i.size, i.bytes)) = some (some (.bool false), 1, 1) := by kernel_rfl
theorem made_one (z : Value) (n : Nat) (h : z.cells = #[z]) : madeCells z.cells (n * 1) = (List.replicate n z).toArray := by
  apply Array.toList_inj.1
  rw [h, Nat.mul_one, toList_madeCells_one]
theorem mkB (n : Nat) (hn5 : n ≤ 5) (W : World) : (Instr.makeSlice 77 (.int .i64 n) (.int .i64 n)).run Try.prog W = .ok (.slice (some ⟨W.heap.size, 0, none⟩) n n) (W.alloc (.cells (List.replicate n (Value.bool false)).toArray 4)) := by
  obtain ⟨i, hi, hz, hs, hb⟩ := info_parts info4
  have := run_makeSlice (P := Try.prog) W 77 4 i (.bool false) Try.underlying77 hi hz .i64 .i64 n n (by omega) (Int.le_refl _) (by rw [hs]; omega) (by rw [hb]; omega) (by omega)
  rw [hs, Int.toNat_natCast, made_one _ n rfl] at this
  exact this
theorem mkI (n : Nat) (hn5 : n ≤ 5) (W : World) : (Instr.makeSlice 78 (.int .i64 n) (.int .i64 n)).run Try.prog W = .ok (.slice (some ⟨W.heap.size, 0, none⟩) n n) (W.alloc (.cells (List.replicate n (Value.int .i64 0)).toArray 3)) := by
  obtain ⟨i, hi, hz, hs, hb⟩ := info_parts info3
  have := run_makeSlice (P := Try.prog) W 78 3 i (.int .i64 0) Try.underlying78 hi hz .i64 .i64 n n (by omega) (Int.le_refl _) (by rw [hs]; omega) (by rw [hb]; omega) (by omega)
  rw [hs, Int.toNat_natCast, made_one _ n rfl] at this
  exact this

def srvB (i s : Int) : Bool := inB s 1 5 && inB i 0 (s - 1)
set_option maxHeartbeats 4000000 in
theorem serverOkV (i s : Int) (w : World) : Calls Try.prog 80 #[.int .i64 i, .int .i64 s] w fun e w' => e = .returned (.bool (srvB i s)) ∧ w' = w := by
  cases k1 : inB s 1 5
  case false =>
    go_enter Try.func80, Try.ntmps80
    go_wp2_with (go_at_call 62; refine (withinV _ _ _ _).mono ?_; rintro e w2 ⟨rfl, rfl⟩; rw [k1])
    go_ret
    exact ⟨by unfold srvB; rw [k1]; rfl, rfl⟩
  obtain ⟨hs1, hs5⟩ : 1 ≤ s ∧ s ≤ 5 := by simpa [inB] using k1
  obtain ⟨t2, k2⟩ : ∃ t, inB i 0 (s - 1) = t := ⟨_, rfl⟩
  go_enter Try.func80, Try.ntmps80
  go_wp2_with (go_at_call 62; refine (withinV _ _ _ _).mono ?_; rintro e w2 ⟨rfl, rfl⟩; first | rw [k1] | rw [k2])
  go_ret
  exact ⟨by unfold srvB; rw [k1, k2]; rfl, rfl⟩

/-- The value of a new server whose lists lie in these blocks. -/
def nodeV (i : Int) (n gb gn gm : Nat) : Value := .agg #[.int .i64 i, .int .i64 0, .int .i64 (-1), .slice none 0 0, .int .i64 0, .int .i64 0, .int .i64 (-1), .int .i64 0, .slice (some ⟨gb, 0, none⟩) n n, .slice (some ⟨gn, 0, none⟩) n n, .slice (some ⟨gm, 0, none⟩) n n]
/-- v is a new server, whose lists lie in blocks of their own, from lo on. -/
def NewN (lo : Nat) (w : World) (v : Value) (i : Int) (n : Nat) : Prop := ∃ gb gn gm, v = nodeV i n gb gn gm ∧ lo ≤ gb ∧ lo ≤ gn ∧ lo ≤ gm ∧ gb ≠ gn ∧ gb ≠ gm ∧ gn ≠ gm ∧ w.heap[gb]? = some (.cells (List.replicate n (Value.bool false)).toArray 4 (0, 0)) ∧ w.heap[gn]? = some (.cells (List.replicate n (Value.int .i64 0)).toArray 3 (0, 0)) ∧ w.heap[gm]? = some (.cells (List.replicate n (Value.int .i64 0)).toArray 3 (0, 0))
theorem h4_1 (w : World) (a b c d : Obj) : (((w.alloc a).alloc b).alloc c |>.alloc d).drew.heap[w.heap.size + 1]? = some b := by
  show (((w.alloc a).alloc b).alloc c |>.alloc d).heap[w.heap.size + 1]? = some b
  rw [Below.heap_alloc _ _ _ (by simp <;> omega)]
  exact h3_1 w a b c
theorem h4_2 (w : World) (a b c d : Obj) : (((w.alloc a).alloc b).alloc c |>.alloc d).drew.heap[w.heap.size + 1 + 1]? = some c := by
  show (((w.alloc a).alloc b).alloc c |>.alloc d).heap[w.heap.size + 1 + 1]? = some c
  rw [Below.heap_alloc _ _ _ (by simp)]
  exact h3_2 w a b c
theorem h4_3 (w : World) (a b c d : Obj) : (((w.alloc a).alloc b).alloc c |>.alloc d).drew.heap[w.heap.size + 1 + 1 + 1]? = some d := by
  show (((w.alloc a).alloc b).alloc c |>.alloc d).heap[w.heap.size + 1 + 1 + 1]? = some d
  have := heap_alloc_new (((w.alloc a).alloc b).alloc c) d
  simpa using this

set_option maxHeartbeats 4000000 in
theorem l4newV (i : Int) (n : Nat) (w : World) (hn5 : n ≤ 5) :
    Calls Try.prog 79 #[.int .i64 i, .int .i64 n] w fun e w' => ∃ v, e = .returned v ∧ NewN w.heap.size w' v i n ∧ Below w.heap.size w w' := by
  have hB := mkB n hn5
  have hI := mkI n hn5
  have hB4 : ∀ a b c d, Below w.heap.size w ((((w.alloc a).alloc b).alloc c).alloc d).drew := fun a b c d => (((((Below.refl _ w).alloc (Nat.le_refl _) _).alloc (by simp) _).alloc (by simp; omega) _).alloc (by simp; omega) _).drew
  unfold NewN
  generalize (List.replicate n (Value.bool false)).toArray = zb at hB ⊢
  generalize (List.replicate n (Value.int .i64 0)).toArray = zi at hI ⊢
  go_enter Try.func79, Try.ntmps79
  go_wp2
  go_region
  all_goals try go_wp2
  all_goals first
      | (refine bodyPost_ret (v := nodeV i n (w.heap.size + 1) (w.heap.size + 1 + 1) (w.heap.size + 1 + 1 + 1)) ?_ rfl ?_ <;> first | (simp [nodeV, results, Try.results79, go_sem]; done) | exact ⟨nodeV i n (w.heap.size + 1) (w.heap.size + 1 + 1) (w.heap.size + 1 + 1 + 1), rfl, ⟨_, _, _, rfl, by omega, by omega, by omega, by omega, by omega, by omega, h4_1 w _ _ _ _, h4_2 w _ _ _ _, h4_3 w _ _ _ _⟩, hB4 _ _ _ _⟩)
      | (refine bodyPost_ret (v := nodeV i n (w.heap.size + 1) (w.heap.size + 1 + 1 + 1) (w.heap.size + 1 + 1)) ?_ rfl ?_ <;> first | (simp [nodeV, results, Try.results79, go_sem]; done) | exact ⟨nodeV i n (w.heap.size + 1) (w.heap.size + 1 + 1 + 1) (w.heap.size + 1 + 1), rfl, ⟨_, _, _, rfl, by omega, by omega, by omega, by omega, by omega, by omega, h4_1 w _ _ _ _, h4_3 w _ _ _ _, h4_2 w _ _ _ _⟩, hB4 _ _ _ _⟩)
      | (refine bodyPost_ret (v := nodeV i n (w.heap.size + 1 + 1) (w.heap.size + 1) (w.heap.size + 1 + 1 + 1)) ?_ rfl ?_ <;> first | (simp [nodeV, results, Try.results79, go_sem]; done) | exact ⟨nodeV i n (w.heap.size + 1 + 1) (w.heap.size + 1) (w.heap.size + 1 + 1 + 1), rfl, ⟨_, _, _, rfl, by omega, by omega, by omega, by omega, by omega, by omega, h4_2 w _ _ _ _, h4_1 w _ _ _ _, h4_3 w _ _ _ _⟩, hB4 _ _ _ _⟩)
      | (refine bodyPost_ret (v := nodeV i n (w.heap.size + 1 + 1) (w.heap.size + 1 + 1 + 1) (w.heap.size + 1)) ?_ rfl ?_ <;> first | (simp [nodeV, results, Try.results79, go_sem]; done) | exact ⟨nodeV i n (w.heap.size + 1 + 1) (w.heap.size + 1 + 1 + 1) (w.heap.size + 1), rfl, ⟨_, _, _, rfl, by omega, by omega, by omega, by omega, by omega, by omega, h4_2 w _ _ _ _, h4_3 w _ _ _ _, h4_1 w _ _ _ _⟩, hB4 _ _ _ _⟩)
      | (refine bodyPost_ret (v := nodeV i n (w.heap.size + 1 + 1 + 1) (w.heap.size + 1) (w.heap.size + 1 + 1)) ?_ rfl ?_ <;> first | (simp [nodeV, results, Try.results79, go_sem]; done) | exact ⟨nodeV i n (w.heap.size + 1 + 1 + 1) (w.heap.size + 1) (w.heap.size + 1 + 1), rfl, ⟨_, _, _, rfl, by omega, by omega, by omega, by omega, by omega, by omega, h4_3 w _ _ _ _, h4_1 w _ _ _ _, h4_2 w _ _ _ _⟩, hB4 _ _ _ _⟩)
      | (refine bodyPost_ret (v := nodeV i n (w.heap.size + 1 + 1 + 1) (w.heap.size + 1 + 1) (w.heap.size + 1)) ?_ rfl ?_ <;> first | (simp [nodeV, results, Try.results79, go_sem]; done) | exact ⟨nodeV i n (w.heap.size + 1 + 1 + 1) (w.heap.size + 1 + 1) (w.heap.size + 1), rfl, ⟨_, _, _, rfl, by omega, by omega, by omega, by omega, by omega, by omega, h4_3 w _ _ _ _, h4_2 w _ _ _ _, h4_1 w _ _ _ _⟩, hB4 _ _ _ _⟩)

set_option maxHeartbeats 4000000 in
theorem iNodeNewV (i : Int) (n : Nat) (w : World) (hn1 : 1 ≤ n) (hn5 : n ≤ 5) (hi0 : 0 ≤ i) (hi1 : i < n) :
    Calls Try.prog 34 #[.int .i64 i, .int .i64 n] w fun e w' => ∃ v, e = .returned (.tuple #[v, .bool true]) ∧ NewN w.heap.size w' v i n ∧ Below w.heap.size w w' := by
  have hB := mkB n hn5
  have hI := mkI n hn5
  have hB4 : ∀ a b c d, Below w.heap.size w ((((w.alloc a).alloc b).alloc c).alloc d).drew := fun a b c d => (((((Below.refl _ w).alloc (Nat.le_refl _) _).alloc (by simp) _).alloc (by simp; omega) _).alloc (by simp; omega) _).drew
  have k1 : srvB i n = true := by unfold srvB inB; simp; omega
  unfold NewN
  generalize (List.replicate n (Value.bool false)).toArray = zb at hB ⊢
  generalize (List.replicate n (Value.int .i64 0)).toArray = zi at hI ⊢
  go_enter Try.func34, Try.ntmps34
  go_wp2_with (go_at_call 80; refine (serverOkV _ _ _).mono ?_; rintro e w2 ⟨rfl, rfl⟩; rw [k1])
  go_region
  all_goals try go_wp2
  all_goals first
      | (refine bodyPost_ret (v := .tuple #[nodeV i n (w.heap.size + 1) (w.heap.size + 1 + 1) (w.heap.size + 1 + 1 + 1), .bool true]) ?_ rfl ?_ <;> first | (simp [nodeV, results, Try.results34, go_sem]; done) | exact ⟨nodeV i n (w.heap.size + 1) (w.heap.size + 1 + 1) (w.heap.size + 1 + 1 + 1), rfl, ⟨_, _, _, rfl, by omega, by omega, by omega, by omega, by omega, by omega, h4_1 w _ _ _ _, h4_2 w _ _ _ _, h4_3 w _ _ _ _⟩, hB4 _ _ _ _⟩)
      | (refine bodyPost_ret (v := .tuple #[nodeV i n (w.heap.size + 1) (w.heap.size + 1 + 1 + 1) (w.heap.size + 1 + 1), .bool true]) ?_ rfl ?_ <;> first | (simp [nodeV, results, Try.results34, go_sem]; done) | exact ⟨nodeV i n (w.heap.size + 1) (w.heap.size + 1 + 1 + 1) (w.heap.size + 1 + 1), rfl, ⟨_, _, _, rfl, by omega, by omega, by omega, by omega, by omega, by omega, h4_1 w _ _ _ _, h4_3 w _ _ _ _, h4_2 w _ _ _ _⟩, hB4 _ _ _ _⟩)
      | (refine bodyPost_ret (v := .tuple #[nodeV i n (w.heap.size + 1 + 1) (w.heap.size + 1) (w.heap.size + 1 + 1 + 1), .bool true]) ?_ rfl ?_ <;> first | (simp [nodeV, results, Try.results34, go_sem]; done) | exact ⟨nodeV i n (w.heap.size + 1 + 1) (w.heap.size + 1) (w.heap.size + 1 + 1 + 1), rfl, ⟨_, _, _, rfl, by omega, by omega, by omega, by omega, by omega, by omega, h4_2 w _ _ _ _, h4_1 w _ _ _ _, h4_3 w _ _ _ _⟩, hB4 _ _ _ _⟩)
      | (refine bodyPost_ret (v := .tuple #[nodeV i n (w.heap.size + 1 + 1) (w.heap.size + 1 + 1 + 1) (w.heap.size + 1), .bool true]) ?_ rfl ?_ <;> first | (simp [nodeV, results, Try.results34, go_sem]; done) | exact ⟨nodeV i n (w.heap.size + 1 + 1) (w.heap.size + 1 + 1 + 1) (w.heap.size + 1), rfl, ⟨_, _, _, rfl, by omega, by omega, by omega, by omega, by omega, by omega, h4_2 w _ _ _ _, h4_3 w _ _ _ _, h4_1 w _ _ _ _⟩, hB4 _ _ _ _⟩)
      | (refine bodyPost_ret (v := .tuple #[nodeV i n (w.heap.size + 1 + 1 + 1) (w.heap.size + 1) (w.heap.size + 1 + 1), .bool true]) ?_ rfl ?_ <;> first | (simp [nodeV, results, Try.results34, go_sem]; done) | exact ⟨nodeV i n (w.heap.size + 1 + 1 + 1) (w.heap.size + 1) (w.heap.size + 1 + 1), rfl, ⟨_, _, _, rfl, by omega, by omega, by omega, by omega, by omega, by omega, h4_3 w _ _ _ _, h4_1 w _ _ _ _, h4_2 w _ _ _ _⟩, hB4 _ _ _ _⟩)
      | (refine bodyPost_ret (v := .tuple #[nodeV i n (w.heap.size + 1 + 1 + 1) (w.heap.size + 1 + 1) (w.heap.size + 1), .bool true]) ?_ rfl ?_ <;> first | (simp [nodeV, results, Try.results34, go_sem]; done) | exact ⟨nodeV i n (w.heap.size + 1 + 1 + 1) (w.heap.size + 1 + 1) (w.heap.size + 1), rfl, ⟨_, _, _, rfl, by omega, by omega, by omega, by omega, by omega, by omega, h4_3 w _ _ _ _, h4_2 w _ _ _ _, h4_1 w _ _ _ _⟩, hB4 _ _ _ _⟩)

end Go.Proofs.Ytpmkmnniccbljal
