/- A new server: what both functions answer, and what becomes of it when it is marked. -/
import Derived.Test.YtpmkmnniccbljalNnA
namespace Go.Proofs.Ytpmkmnniccbljal
open Go.RowKit

set_option maxHeartbeats 2000000 in
theorem l4serversV (n : Int) (w : World) : Calls Try.prog 78 #[.int .i64 n] w fun e w' => e = .returned (.bool (decide (1 ≤ n) && decide (n ≤ 5))) ∧ w' = w := by
  by_cases h1 : 1 ≤ n
  · go_enter Try.func78, Try.ntmps78
    go_wp2
    go_ret
    exact ⟨by simp [h1], rfl⟩
  · have d1 : decide (1 ≤ n) = false := decide_eq_false h1
    go_enter Try.func78, Try.ntmps78
    go_wp2
    go_ret
    exact ⟨rfl, rfl⟩

def zeroV : Value := .agg #[.int .i64 0, .int .i64 0, .int .i64 0, .slice none 0 0, .int .i64 0, .int .i64 0, .int .i64 0, .int .i64 0, .slice none 0 0, .slice none 0 0, .slice none 0 0]
theorem NewN.set {lo x j : Nat} {w : World} {u v : Value} {i : Int} {n : Nat} (h : NewN lo w v i n) (hx : x < lo) : NewN lo (w.setCell ⟨x, j, none⟩ u) v i n := by
  obtain ⟨gb, gn, gm, hv, h1, h2, h3, h4, h5, h6, b1, b2, b3⟩ := h
  exact ⟨gb, gn, gm, hv, h1, h2, h3, h4, h5, h6, set_other x j u (by omega) b1, set_other x j u (by omega) b2, set_other x j u (by omega) b3⟩
theorem NewN.ext {lo : Nat} {w w' : World} {v : Value} {i : Int} {n : Nat} (h : NewN lo w v i n) (e : Ext w w') : NewN lo w' v i n := by
  obtain ⟨gb, gn, gm, hv, h1, h2, h3, h4, h5, h6, b1, b2, b3⟩ := h
  have k : ∀ {g : Nat} {o : Obj}, w.heap[g]? = some o → w'.heap[g]? = some o := fun {g o} hb => (e.block g (Array.getElem?_eq_some_iff.1 hb).1 (by simp)).trans hb
  exact ⟨gb, gn, gm, hv, h1, h2, h3, h4, h5, h6, k b1, k b2, k b3⟩
theorem NewN.mono {lo lo' : Nat} {w : World} {v : Value} {i : Int} {n : Nat} (h : NewN lo w v i n) (hl : lo' ≤ lo) : NewN lo' w v i n := by
  obtain ⟨gb, gn, gm, hv, h1, h2, h3, rest⟩ := h
  exact ⟨gb, gn, gm, hv, by omega, by omega, by omega, rest⟩

set_option maxHeartbeats 4000000 in
theorem sNodeNewV (i : Int) (n : Nat) (w : World) (hn1 : 1 ≤ n) (hn5 : n ≤ 5) (hi0 : 0 ≤ i) (hi1 : i < n) :
    Calls Try.prog 33 #[.int .i64 i, .int .i64 n] w fun e w' => ∃ v, e = .returned (.tuple #[v, .bool true]) ∧ NewN w.heap.size w' v i n ∧ Below w.heap.size w w' := by
  have k1 : (decide ((1 : Int) ≤ (n : Int)) && decide ((n : Int) ≤ 5)) = true := by simp; omega
  go_enter Try.func33, Try.ntmps33
  go_wp2_with (go_at_call 78; refine (l4serversV _ _).mono ?_; rintro e w2 ⟨rfl, rfl⟩; rw [k1])
  refine (l4newV i n _ hn5).mono ?_
  rintro e w3 ⟨v, rfl, hN, b3⟩
  have B3 : Below w.heap.size w w3 := ((Below.refl _ w).alloc (Nat.le_refl _) _).trans (b3.mono (by simp))
  have P3 := below_blk b3 (by simp) (heap_alloc_new w _)
  obtain ⟨p0, y0⟩ := at_block P3 0 _ rfl
  obtain ⟨p1, y1⟩ := at_block P3 1 _ rfl
  obtain ⟨p2, y2⟩ := at_block P3 2 _ rfl
  obtain ⟨p3, y3⟩ := at_block P3 3 _ rfl
  obtain ⟨p4, y4⟩ := at_block P3 4 _ rfl
  obtain ⟨p5, y5⟩ := at_block P3 5 _ rfl
  obtain ⟨p6, y6⟩ := at_block P3 6 _ rfl
  obtain ⟨p7, y7⟩ := at_block P3 7 _ rfl
  obtain ⟨p8, y8⟩ := at_block P3 8 _ rfl
  obtain ⟨p9, y9⟩ := at_block P3 9 _ rfl
  obtain ⟨p10, y10⟩ := at_block P3 10 _ rfl
  have HN0 : NewN (w.heap.size + 1) w3 v i n := by simpa using hN
  have HN : Hid (NewN (w.heap.size + 1) w3 v i n) := HN0
  clear HN0
  obtain ⟨gb, gn, gm, rfl, _⟩ := hN
  clear b3 P3
  unfold nodeV at HN ⊢
  go_wp2
  refine bodyPost_ret (v := .tuple #[.agg #[.int .i64 i, .int .i64 0, .int .i64 (-1), .slice none 0 0, .int .i64 0, .int .i64 0, .int .i64 (-1), .int .i64 0, .slice (some ⟨gb, 0, none⟩) n n, .slice (some ⟨gn, 0, none⟩) n n, .slice (some ⟨gm, 0, none⟩) n n], .bool true]) (by simp [results, Try.results33, go_sem, p0, p1, p2, p3, p4, p5, p6, p7, p8, p9, p10]) rfl ?_
  refine ⟨_, rfl, NewN.mono (lo := w.heap.size + 1) ?_ (by omega), ?_⟩
  · repeat (refine NewN.set ?_ (by omega))
    exact HN.out
  · repeat (refine below_set ?_ (by omega))
    exact B3

theorem hsrv (i s : Int) : srvB i s = true ↔ (1 ≤ s ∧ s ≤ 5) ∧ 0 ≤ i ∧ i < s := by
  unfold srvB inB
  simp only [Bool.and_eq_true, decide_eq_true_eq]
  omega

set_option maxHeartbeats 4000000 in
theorem iNodeNewZ (i s : Int) (w : World) (h : srvB i s = false) :
    Calls Try.prog 34 #[.int .i64 i, .int .i64 s] w fun e w' => e = .returned (.tuple #[zeroV, .bool false]) ∧ Below w.heap.size w w' := by
  have hB : ∀ w : World, ∀ o, Below w.heap.size w (w.alloc o) := fun w o => (Below.refl _ w).alloc (Nat.le_refl _) _
  go_enter Try.func34, Try.ntmps34
  go_wp2_with (go_at_call 80; refine (serverOkV _ _ _).mono ?_; rintro e w2 ⟨rfl, rfl⟩; rw [h])
  refine bodyPost_ret (v := .tuple #[zeroV, .bool false]) (by simp [zeroV, results, Try.results34, go_sem]) rfl ?_
  exact ⟨rfl, hB _ _⟩

set_option maxHeartbeats 4000000 in
theorem sNodeNewZ (i s : Int) (w : World) (h : srvB i s = false) :
    Calls Try.prog 33 #[.int .i64 i, .int .i64 s] w fun e w' => e = .returned (.tuple #[zeroV, .bool false]) ∧ Below w.heap.size w w' := by
  have hB : ∀ w : World, ∀ o, Below w.heap.size w (w.alloc o) := fun w o => (Below.refl _ w).alloc (Nat.le_refl _) _
  have h' : ¬ ((1 ≤ s ∧ s ≤ 5) ∧ 0 ≤ i ∧ i < s) := fun e => by rw [(hsrv i s).2 e] at h; cases h
  cases k1 : (decide (1 ≤ s) && decide (s ≤ 5))
  case false =>
    clear h' h
    go_enter Try.func33, Try.ntmps33
    go_wp2_with (go_at_call 78; refine (l4serversV _ _).mono ?_; rintro e w2 ⟨rfl, rfl⟩; rw [k1])
    refine bodyPost_ret (v := .tuple #[zeroV, .bool false]) (by simp [zeroV, results, Try.results33, go_sem]) rfl ?_
    exact ⟨rfl, hB _ _⟩
  have hs : 1 ≤ s ∧ s ≤ 5 := by simpa using k1
  by_cases k2 : i < 0
  · clear h' h hs
    go_enter Try.func33, Try.ntmps33
    go_wp2_with (go_at_call 78; refine (l4serversV _ _).mono ?_; rintro e w2 ⟨rfl, rfl⟩; rw [k1])
    refine bodyPost_ret (v := .tuple #[zeroV, .bool false]) (by simp [zeroV, results, Try.results33, go_sem]) rfl ?_
    exact ⟨rfl, hB _ _⟩
  have k3 : s ≤ i := by omega
  clear h' h hs
  go_enter Try.func33, Try.ntmps33
  go_wp2_with (go_at_call 78; refine (l4serversV _ _).mono ?_; rintro e w2 ⟨rfl, rfl⟩; rw [k1])
  refine bodyPost_ret (v := .tuple #[zeroV, .bool false]) (by simp [zeroV, results, Try.results33, go_sem]) rfl ?_
  exact ⟨rfl, hB _ _⟩

/-- A new server as data. -/
def newD (i : Int) (n : Nat) : DNode := ⟨i, 0, -1, [], 0, 0, -1, 0, List.replicate n false, List.replicate n 0, List.replicate n 0⟩
def zeroD : DNode := ⟨0, 0, 0, [], 0, 0, 0, 0, [], [], []⟩
theorem vItems_nil (w : World) : VItems w (.slice none 0 0) [] := ⟨fun _ _ => .int .i64 0, ⟨none, 0, rfl, Nat.le_refl _, Nat.zero_le _, fun h => absurd h (by simp)⟩, fun i d h => by simp at h⟩
theorem vl_nil {α : Type} (f : α → Value) (w : World) : VL f w (.slice none 0 0) [] := ⟨none, 0, rfl, Nat.le_refl _, Nat.zero_le _, fun h => absurd h (by simp)⟩
theorem zero_v (w : World) : VNode w zeroV zeroD := ⟨_, _, _, _, rfl, vItems_nil w, vl_nil _ w, vl_nil _ w, vl_nil _ w⟩
theorem NewN.v {lo : Nat} {w : World} {v : Value} {i : Int} {n : Nat} (h : NewN lo w v i n) (hn : n ≤ 5) : VNode w v (newD i n) := by
  obtain ⟨gb, gn, gm, rfl, h1, h2, h3, h4, h5, h6, b1, b2, b3⟩ := h
  have e1 : OVL fB 4 w gb (List.replicate n false) := by unfold OVL; rw [List.map_replicate]; exact b1
  have e2 : OVL fI 3 w gn (List.replicate n 0) := by unfold OVL; rw [List.map_replicate]; exact b2
  have e3 : OVL fI 3 w gm (List.replicate n 0) := by unfold OVL; rw [List.map_replicate]; exact b3
  have v1 := e1.v (by simp; omega)
  have v2 := e2.v (by simp; omega)
  have v3 := e3.v (by simp; omega)
  rw [List.length_replicate] at v1 v2 v3
  exact ⟨_, _, _, _, rfl, vItems_nil w, v1, v2, v3⟩
theorem len_new (i : Int) (n : Nat) (hn : n ≤ 5) : LenN (newD i n) 1048576 := by
  refine ⟨by simp [newD], fun i s h => by simp [newD] at h, ?_, ?_, ?_⟩ <;> simp [newD] <;> omega
theorem len_zero : LenN zeroD 1048576 := by
  refine ⟨by simp [zeroD], fun i s h => by simp [zeroD] at h, ?_, ?_, ?_⟩ <;> simp [zeroD]

end Go.Proofs.Ytpmkmnniccbljal
