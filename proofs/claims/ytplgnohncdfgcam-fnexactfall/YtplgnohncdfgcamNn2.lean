/- A new server: the program's and the specification's (as NnA, NnB, NnC, beside the copies of servers). -/
import Derived.Test.YtplgnohncdfgcamNmB
import Derived.Test.YtplgnohncdfgcamNdI1
import Derived.Test.YtplgnohncdfgcamNdC0
import Derived.Test.YtplgnohncdfgcamNdA
import Derived.Laws.MakeOwn
namespace Go.Proofs.Ytplgnohncdfgcam
open Go.RowKit


theorem made_one (z : Value) (n : Nat) (h : z.cells = #[z]) : madeCells z.cells (n * 1) = (List.replicate n z).toArray := by
  apply Array.toList_inj.1
  rw [h, Nat.mul_one, toList_madeCells_one]
theorem mkB (n : Nat) (hn5 : n ≤ 5) (W : World) : (Instr.makeSlice 23 (.int .i64 n) (.int .i64 n)).run Try.prog W = .ok (.slice (some ⟨W.heap.size, 0, none⟩) n n) (W.alloc (.cells (List.replicate n (Value.bool false)).toArray 4)) := by
  obtain ⟨i, hi, hz, hs, hb⟩ := info_parts info4
  have := run_makeSlice (P := Try.prog) W 23 4 i (.bool false) Try.underlying23 hi hz .i64 .i64 n n (by omega) (Int.le_refl _) (by rw [hs]; omega) (by rw [hb]; omega) (by omega)
  rw [hs, Int.toNat_natCast, made_one _ n rfl] at this
  exact this
theorem mkI (n : Nat) (hn5 : n ≤ 5) (W : World) : (Instr.makeSlice 24 (.int .i64 n) (.int .i64 n)).run Try.prog W = .ok (.slice (some ⟨W.heap.size, 0, none⟩) n n) (W.alloc (.cells (List.replicate n (Value.int .i64 0)).toArray 3)) := by
  obtain ⟨i, hi, hz, hs, hb⟩ := info_parts info3
  have := run_makeSlice (P := Try.prog) W 24 3 i (.int .i64 0) Try.underlying24 hi hz .i64 .i64 n n (by omega) (Int.le_refl _) (by rw [hs]; omega) (by rw [hb]; omega) (by omega)
  rw [hs, Int.toNat_natCast, made_one _ n rfl] at this
  exact this

/-- The value of a new server whose lists lie in these blocks. -/
def nodeV (i : Int) (n gb gn gm : Nat) : Value := .agg #[.int .i64 i, .int .i64 0, .int .i64 (-1), .slice none 0 0, .int .i64 0, .int .i64 0, .int .i64 (-1), .int .i64 0, .slice (some ⟨gb, 0, none⟩) n n, .slice (some ⟨gn, 0, none⟩) n n, .slice (some ⟨gm, 0, none⟩) n n]
/-- v is a new server, whose lists lie in blocks of their own, from lo on. -/
def NewN (lo : Nat) (w : World) (v : Value) (i : Int) (n : Nat) : Prop := ∃ gb gn gm, v = nodeV i n gb gn gm ∧ lo ≤ gb ∧ lo ≤ gn ∧ lo ≤ gm ∧ gb ≠ gn ∧ gb ≠ gm ∧ gn ≠ gm ∧ w.heap[gb]? = some (.cells (List.replicate n (Value.bool false)).toArray 4 (0, 0)) ∧ w.heap[gn]? = some (.cells (List.replicate n (Value.int .i64 0)).toArray 3 (0, 0)) ∧ w.heap[gm]? = some (.cells (List.replicate n (Value.int .i64 0)).toArray 3 (0, 0))
theorem h4_1 (w : World) (a b c d : Obj) : (((w.alloc a).alloc b).alloc c |>.alloc d).drew.heap[w.heap.size + 1]? = some b := by
  show (((w.alloc a).alloc b).alloc c |>.alloc d).heap[w.heap.size + 1]? = some b
  rw [Below.heap_alloc _ _ _ (by simp <;> omega)]
  exact h3_1 w a b c
theorem h4_2 (w : World) (a b c d : Obj) : (((w.alloc a).alloc b).alloc c |>.alloc d).drew.heap[w.heap.size + 1 + 1]? = some c := by
  show (((w.alloc a).alloc b).alloc c |>.alloc d).heap[w.heap.size + 1 + 1]? = some c
  rw [Below.heap_alloc _ _ _ (by simp)]
  exact h3_2 w a b c
theorem h4_3 (w : World) (a b c d : Obj) : (((w.alloc a).alloc b).alloc c |>.alloc d).drew.heap[w.heap.size + 1 + 1 + 1]? = some d := by
  show (((w.alloc a).alloc b).alloc c |>.alloc d).heap[w.heap.size + 1 + 1 + 1]? = some d
  have := heap_alloc_new (((w.alloc a).alloc b).alloc c) d
  simpa using this

set_option maxHeartbeats 4000000 in
theorem l4newV (i : Int) (n : Nat) (w : World) (hn5 : n ≤ 5) :
    Calls Try.prog 34 #[.int .i64 i, .int .i64 n] w fun e w' => ∃ v, e = .returned v ∧ NewN w.heap.size w' v i n ∧ Below w.heap.size w w' := by
  have hB := mkB n hn5
  have hI := mkI n hn5
  have hB4 : ∀ a b c d, Below w.heap.size w ((((w.alloc a).alloc b).alloc c).alloc d).drew := fun a b c d => (((((Below.refl _ w).alloc (Nat.le_refl _) _).alloc (by simp) _).alloc (by simp; omega) _).alloc (by simp; omega) _).drew
  unfold NewN
  generalize (List.replicate n (Value.bool false)).toArray = zb at hB ⊢
  generalize (List.replicate n (Value.int .i64 0)).toArray = zi at hI ⊢
  go_enter Try.func34, Try.ntmps34
  go_wp2
  go_region
  all_goals try go_wp2
  all_goals first
      | (refine bodyPost_ret (v := nodeV i n (w.heap.size + 1) (w.heap.size + 1 + 1) (w.heap.size + 1 + 1 + 1)) ?_ rfl ?_ <;> first | (simp [nodeV, results, Try.results34, go_sem]; done) | exact ⟨nodeV i n (w.heap.size + 1) (w.heap.size + 1 + 1) (w.heap.size + 1 + 1 + 1), rfl, ⟨_, _, _, rfl, by omega, by omega, by omega, by omega, by omega, by omega, h4_1 w _ _ _ _, h4_2 w _ _ _ _, h4_3 w _ _ _ _⟩, hB4 _ _ _ _⟩)
      | (refine bodyPost_ret (v := nodeV i n (w.heap.size + 1) (w.heap.size + 1 + 1 + 1) (w.heap.size + 1 + 1)) ?_ rfl ?_ <;> first | (simp [nodeV, results, Try.results34, go_sem]; done) | exact ⟨nodeV i n (w.heap.size + 1) (w.heap.size + 1 + 1 + 1) (w.heap.size + 1 + 1), rfl, ⟨_, _, _, rfl, by omega, by omega, by omega, by omega, by omega, by omega, h4_1 w _ _ _ _, h4_3 w _ _ _ _, h4_2 w _ _ _ _⟩, hB4 _ _ _ _⟩)
      | (refine bodyPost_ret (v := nodeV i n (w.heap.size + 1 + 1) (w.heap.size + 1) (w.heap.size + 1 + 1 + 1)) ?_ rfl ?_ <;> first | (simp [nodeV, results, Try.results34, go_sem]; done) | exact ⟨nodeV i n (w.heap.size + 1 + 1) (w.heap.size + 1) (w.heap.size + 1 + 1 + 1), rfl, ⟨_, _, _, rfl, by omega, by omega, by omega, by omega, by omega, by omega, h4_2 w _ _ _ _, h4_1 w _ _ _ _, h4_3 w _ _ _ _⟩, hB4 _ _ _ _⟩)
      | (refine bodyPost_ret (v := nodeV i n (w.heap.size + 1 + 1) (w.heap.size + 1 + 1 + 1) (w.heap.size + 1)) ?_ rfl ?_ <;> first | (simp [nodeV, results, Try.results34, go_sem]; done) | exact ⟨nodeV i n (w.heap.size + 1 + 1) (w.heap.size + 1 + 1 + 1) (w.heap.size + 1), rfl, ⟨_, _, _, rfl, by omega, by omega, by omega, by omega, by omega, by omega, h4_2 w _ _ _ _, h4_3 w _ _ _ _, h4_1 w _ _ _ _⟩, hB4 _ _ _ _⟩)
      | (refine bodyPost_ret (v := nodeV i n (w.heap.size + 1 + 1 + 1) (w.heap.size + 1) (w.heap.size + 1 + 1)) ?_ rfl ?_ <;> first | (simp [nodeV, results, Try.results34, go_sem]; done) | exact ⟨nodeV i n (w.heap.size + 1 + 1 + 1) (w.heap.size + 1) (w.heap.size + 1 + 1), rfl, ⟨_, _, _, rfl, by omega, by omega, by omega, by omega, by omega, by omega, h4_3 w _ _ _ _, h4_1 w _ _ _ _, h4_2 w _ _ _ _⟩, hB4 _ _ _ _⟩)
      | (refine bodyPost_ret (v := nodeV i n (w.heap.size + 1 + 1 + 1) (w.heap.size + 1 + 1) (w.heap.size + 1)) ?_ rfl ?_ <;> first | (simp [nodeV, results, Try.results34, go_sem]; done) | exact ⟨nodeV i n (w.heap.size + 1 + 1 + 1) (w.heap.size + 1 + 1) (w.heap.size + 1), rfl, ⟨_, _, _, rfl, by omega, by omega, by omega, by omega, by omega, by omega, h4_3 w _ _ _ _, h4_2 w _ _ _ _, h4_1 w _ _ _ _⟩, hB4 _ _ _ _⟩)

set_option maxHeartbeats 4000000 in
theorem iNodeNewV (i : Int) (n : Nat) (w : World) (hn1 : 1 ≤ n) (hn5 : n ≤ 5) (hi0 : 0 ≤ i) (hi1 : i < n) :
    Calls Try.prog 36 #[.int .i64 i, .int .i64 n] w fun e w' => ∃ v, e = .returned (.tuple #[v, .bool true]) ∧ NewN w.heap.size w' v i n ∧ Below w.heap.size w w' := by
  have hB := mkB n hn5
  have hI := mkI n hn5
  have hB4 : ∀ a b c d, Below w.heap.size w ((((w.alloc a).alloc b).alloc c).alloc d).drew := fun a b c d => (((((Below.refl _ w).alloc (Nat.le_refl _) _).alloc (by simp) _).alloc (by simp; omega) _).alloc (by simp; omega) _).drew
  have k1 : srvB i n = true := by unfold srvB inB; simp; omega
  unfold NewN
  generalize (List.replicate n (Value.bool false)).toArray = zb at hB ⊢
  generalize (List.replicate n (Value.int .i64 0)).toArray = zi at hI ⊢
  go_enter Try.func36, Try.ntmps36
  go_wp2_with (go_at_call 27; refine (serverOkV _ _ _).mono ?_; rintro e w2 ⟨rfl, rfl⟩; rw [k1])
  go_region
  all_goals try go_wp2
  all_goals first
      | (refine bodyPost_ret (v := .tuple #[nodeV i n (w.heap.size + 1) (w.heap.size + 1 + 1) (w.heap.size + 1 + 1 + 1), .bool true]) ?_ rfl ?_ <;> first | (simp [nodeV, results, Try.results36, go_sem]; done) | exact ⟨nodeV i n (w.heap.size + 1) (w.heap.size + 1 + 1) (w.heap.size + 1 + 1 + 1), rfl, ⟨_, _, _, rfl, by omega, by omega, by omega, by omega, by omega, by omega, h4_1 w _ _ _ _, h4_2 w _ _ _ _, h4_3 w _ _ _ _⟩, hB4 _ _ _ _⟩)
      | (refine bodyPost_ret (v := .tuple #[nodeV i n (w.heap.size + 1) (w.heap.size + 1 + 1 + 1) (w.heap.size + 1 + 1), .bool true]) ?_ rfl ?_ <;> first | (simp [nodeV, results, Try.results36, go_sem]; done) | exact ⟨nodeV i n (w.heap.size + 1) (w.heap.size + 1 + 1 + 1) (w.heap.size + 1 + 1), rfl, ⟨_, _, _, rfl, by omega, by omega, by omega, by omega, by omega, by omega, h4_1 w _ _ _ _, h4_3 w _ _ _ _, h4_2 w _ _ _ _⟩, hB4 _ _ _ _⟩)
      | (refine bodyPost_ret (v := .tuple #[nodeV i n (w.heap.size + 1 + 1) (w.heap.size + 1) (w.heap.size + 1 + 1 + 1), .bool true]) ?_ rfl ?_ <;> first | (simp [nodeV, results, Try.results36, go_sem]; done) | exact ⟨nodeV i n (w.heap.size + 1 + 1) (w.heap.size + 1) (w.heap.size + 1 + 1 + 1), rfl, ⟨_, _, _, rfl, by omega, by omega, by omega, by omega, by omega, by omega, h4_2 w _ _ _ _, h4_1 w _ _ _ _, h4_3 w _ _ _ _⟩, hB4 _ _ _ _⟩)
      | (refine bodyPost_ret (v := .tuple #[nodeV i n (w.heap.size + 1 + 1) (w.heap.size + 1 + 1 + 1) (w.heap.size + 1), .bool true]) ?_ rfl ?_ <;> first | (simp [nodeV, results, Try.results36, go_sem]; done) | exact ⟨nodeV i n (w.heap.size + 1 + 1) (w.heap.size + 1 + 1 + 1) (w.heap.size + 1), rfl, ⟨_, _, _, rfl, by omega, by omega, by omega, by omega, by omega, by omega, h4_2 w _ _ _ _, h4_3 w _ _ _ _, h4_1 w _ _ _ _⟩, hB4 _ _ _ _⟩)
      | (refine bodyPost_ret (v := .tuple #[nodeV i n (w.heap.size + 1 + 1 + 1) (w.heap.size + 1) (w.heap.size + 1 + 1), .bool true]) ?_ rfl ?_ <;> first | (simp [nodeV, results, Try.results36, go_sem]; done) | exact ⟨nodeV i n (w.heap.size + 1 + 1 + 1) (w.heap.size + 1) (w.heap.size + 1 + 1), rfl, ⟨_, _, _, rfl, by omega, by omega, by omega, by omega, by omega, by omega, h4_3 w _ _ _ _, h4_1 w _ _ _ _, h4_2 w _ _ _ _⟩, hB4 _ _ _ _⟩)
      | (refine bodyPost_ret (v := .tuple #[nodeV i n (w.heap.size + 1 + 1 + 1) (w.heap.size + 1 + 1) (w.heap.size + 1), .bool true]) ?_ rfl ?_ <;> first | (simp [nodeV, results, Try.results36, go_sem]; done) | exact ⟨nodeV i n (w.heap.size + 1 + 1 + 1) (w.heap.size + 1 + 1) (w.heap.size + 1), rfl, ⟨_, _, _, rfl, by omega, by omega, by omega, by omega, by omega, by omega, h4_3 w _ _ _ _, h4_2 w _ _ _ _, h4_1 w _ _ _ _⟩, hB4 _ _ _ _⟩)



def zeroV : Value := .agg #[.int .i64 0, .int .i64 0, .int .i64 0, .slice none 0 0, .int .i64 0, .int .i64 0, .int .i64 0, .int .i64 0, .slice none 0 0, .slice none 0 0, .slice none 0 0]
theorem NewN.set {lo x j : Nat} {w : World} {u v : Value} {i : Int} {n : Nat} (h : NewN lo w v i n) (hx : x < lo) : NewN lo (w.setCell ⟨x, j, none⟩ u) v i n := by
  obtain ⟨gb, gn, gm, hv, h1, h2, h3, h4, h5, h6, b1, b2, b3⟩ := h
  exact ⟨gb, gn, gm, hv, h1, h2, h3, h4, h5, h6, set_other x j u (by omega) b1, set_other x j u (by omega) b2, set_other x j u (by omega) b3⟩
theorem NewN.ext {lo : Nat} {w w' : World} {v : Value} {i : Int} {n : Nat} (h : NewN lo w v i n) (e : Ext w w') : NewN lo w' v i n := by
  obtain ⟨gb, gn, gm, hv, h1, h2, h3, h4, h5, h6, b1, b2, b3⟩ := h
  have k : ∀ {g : Nat} {o : Obj}, w.heap[g]? = some o → w'.heap[g]? = some o := fun {g o} hb => (e.block g (Array.getElem?_eq_some_iff.1 hb).1 (by simp)).trans hb
  exact ⟨gb, gn, gm, hv, h1, h2, h3, h4, h5, h6, k b1, k b2, k b3⟩
theorem NewN.mono {lo lo' : Nat} {w : World} {v : Value} {i : Int} {n : Nat} (h : NewN lo w v i n) (hl : lo' ≤ lo) : NewN lo' w v i n := by
  obtain ⟨gb, gn, gm, hv, h1, h2, h3, rest⟩ := h
  exact ⟨gb, gn, gm, hv, by omega, by omega, by omega, rest⟩

theorem hsrv (i s : Int) : srvB i s = true ↔ (1 ≤ s ∧ s ≤ 5) ∧ 0 ≤ i ∧ i < s := by
  unfold srvB inB
  simp only [Bool.and_eq_true, decide_eq_true_eq]
  omega

set_option maxHeartbeats 4000000 in
theorem iNodeNewZ (i s : Int) (w : World) (h : srvB i s = false) :
    Calls Try.prog 36 #[.int .i64 i, .int .i64 s] w fun e w' => e = .returned (.tuple #[zeroV, .bool false]) ∧ Below w.heap.size w w' := by
  have hB : ∀ w : World, ∀ o, Below w.heap.size w (w.alloc o) := fun w o => (Below.refl _ w).alloc (Nat.le_refl _) _
  go_enter Try.func36, Try.ntmps36
  go_wp2_with (go_at_call 27; refine (serverOkV _ _ _).mono ?_; rintro e w2 ⟨rfl, rfl⟩; rw [h])
  refine bodyPost_ret (v := .tuple #[zeroV, .bool false]) (by simp [zeroV, results, Try.results36, go_sem]) rfl ?_
  exact ⟨rfl, hB _ _⟩

/-- A new server as data. -/
def newD (i : Int) (n : Nat) : DNode := ⟨i, 0, -1, [], 0, 0, -1, 0, List.replicate n false, List.replicate n 0, List.replicate n 0⟩
def zeroD : DNode := ⟨0, 0, 0, [], 0, 0, 0, 0, [], [], []⟩
theorem vItems_nil (w : World) : VItems w (.slice none 0 0) [] := ⟨fun _ _ => .int .i64 0, ⟨none, 0, rfl, Nat.le_refl _, Nat.zero_le _, fun h => absurd h (by simp)⟩, fun i d h => by simp at h⟩
theorem vl_nil {α : Type} (f : α → Value) (w : World) : VL f w (.slice none 0 0) [] := ⟨none, 0, rfl, Nat.le_refl _, Nat.zero_le _, fun h => absurd h (by simp)⟩
theorem zero_v (w : World) : VNode w zeroV zeroD := ⟨_, _, _, _, rfl, vItems_nil w, vl_nil _ w, vl_nil _ w, vl_nil _ w⟩
theorem NewN.v {lo : Nat} {w : World} {v : Value} {i : Int} {n : Nat} (h : NewN lo w v i n) (hn : n ≤ 5) : VNode w v (newD i n) := by
  obtain ⟨gb, gn, gm, rfl, h1, h2, h3, h4, h5, h6, b1, b2, b3⟩ := h
  have e1 : OVL fB 4 w gb (List.replicate n false) := by unfold OVL; rw [List.map_replicate]; exact b1
  have e2 : OVL fI 3 w gn (List.replicate n 0) := by unfold OVL; rw [List.map_replicate]; exact b2
  have e3 : OVL fI 3 w gm (List.replicate n 0) := by unfold OVL; rw [List.map_replicate]; exact b3
  have v1 := e1.v (by simp; omega)
  have v2 := e2.v (by simp; omega)
  have v3 := e3.v (by simp; omega)
  rw [List.length_replicate] at v1 v2 v3
  exact ⟨_, _, _, _, rfl, vItems_nil w, v1, v2, v3⟩
theorem len_new (i : Int) (n : Nat) (hn : n ≤ 5) : LenN (newD i n) 1048576 := by
  refine ⟨by simp [newD], fun i s h => by simp [newD] at h, ?_, ?_, ?_⟩ <;> simp [newD] <;> omega
theorem len_zero : LenN zeroD 1048576 := by
  refine ⟨by simp [zeroD], fun i s h => by simp [zeroD] at h, ?_, ?_, ?_⟩ <;> simp [zeroD]

set_option maxHeartbeats 4000000 in
theorem markZero (w : World) : Calls Try.prog 13 #[zeroV, .int .i64 1] w fun e w' => e = .returned (.int .i64 1) ∧ Below w.heap.size w w' := by
  have hB : ∀ w : World, ∀ o, Below w.heap.size w (w.alloc o) := fun w o => (Below.refl _ w).alloc (Nat.le_refl _) _
  unfold zeroV
  go_enter Try.func13, Try.ntmps13
  go_wp2_with (first
    | (go_at_call 38; refine (markNil_T _ _).mono ?_; rintro e w1 ⟨rfl, rfl⟩)
    | (go_at_call 39; refine (markNil_B _ _).mono ?_; rintro e w1 ⟨rfl, rfl⟩)
    | (go_at_call 40; refine (markNil_I _ _).mono ?_; rintro e w1 ⟨rfl, rfl⟩))
  go_ret
  exact ⟨rfl, hB _ _⟩
set_option maxHeartbeats 4000000 in
theorem heldZero (w : World) : Calls Try.prog 14 #[zeroV, .int .i64 1] w fun e w' => e = .returned (.int .i64 1) ∧ Below w.heap.size w w' := by
  have hB : ∀ w : World, ∀ o, Below w.heap.size w (w.alloc o) := fun w o => (Below.refl _ w).alloc (Nat.le_refl _) _
  unfold zeroV
  go_enter Try.func14, Try.ntmps14
  go_wp2_with (first
    | (go_at_call 41; refine (heldNil_T _ _).mono ?_; rintro e w1 ⟨rfl, rfl⟩)
    | (go_at_call 42; refine (heldNil_B _ _).mono ?_; rintro e w1 ⟨rfl, rfl⟩)
    | (go_at_call 43; refine (heldNil_I _ _).mono ?_; rintro e w1 ⟨rfl, rfl⟩))
  go_ret
  exact ⟨rfl, hB _ _⟩

end Go.Proofs.Ytplgnohncdfgcam
