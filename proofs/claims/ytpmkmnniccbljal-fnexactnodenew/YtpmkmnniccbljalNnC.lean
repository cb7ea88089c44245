/- A new server that is marked, and held. -/
import Derived.Test.YtpmkmnniccbljalNnB
namespace Go.Proofs.Ytpmkmnniccbljal
open Go.RowKit

/-- The three lists of a new server bear the marks from 1 on. -/
def Mkd (w : World) (n gb gn gm : Nat) : Prop := OVL fB 4 w gb (mkL (fun x : Int => x % 3 == 0) 1 n) ∧ OVL fI 3 w gn (mkL (fun x : Int => x) (1 + n) n) ∧ OVL fI 3 w gm (mkL (fun x : Int => x) (1 + n + n) n)
theorem Mkd.ext {w w' : World} {n gb gn gm : Nat} (h : Mkd w n gb gn gm) (e : Ext w w') : Mkd w' n gb gn gm := ⟨h.1.ext e, h.2.1.ext e, h.2.2.ext e⟩
theorem ovl_other {α : Type} {f : α → Value} {t : TypeId} {w w' : World} {g x : Nat} {xs : List α} (h : OVL f t w g xs) (hg : w.grownBy w' (some x)) (hx : g ≠ x) : OVL f t w' g xs := (hg.block g (Array.getElem?_eq_some_iff.1 h).1 (by simp; omega)).trans h
theorem obj_other {w w' : World} {g x : Nat} {o : Obj} (h : w.heap[g]? = some o) (hg : w.grownBy w' (some x)) (hx : g ≠ x) : w'.heap[g]? = some o := (hg.block g (Array.getElem?_eq_some_iff.1 h).1 (by simp; omega)).trans h

set_option maxHeartbeats 4000000 in
theorem markNew (i : Int) (n gb gn gm : Nat) (w : World) (hn : n ≤ 5) (h4 : gb ≠ gn) (h5 : gb ≠ gm) (h6 : gn ≠ gm)
    (b1 : w.heap[gb]? = some (.cells (List.replicate n (Value.bool false)).toArray 4 (0, 0))) (b2 : w.heap[gn]? = some (.cells (List.replicate n (Value.int .i64 0)).toArray 3 (0, 0))) (b3 : w.heap[gm]? = some (.cells (List.replicate n (Value.int .i64 0)).toArray 3 (0, 0))) :
    Calls Try.prog 36 #[.agg #[.int .i64 i, .int .i64 0, .int .i64 (-1), .slice none 0 0, .int .i64 0, .int .i64 0, .int .i64 (-1), .int .i64 0, .slice (some ⟨gb, 0, none⟩) n n, .slice (some ⟨gn, 0, none⟩) n n, .slice (some ⟨gm, 0, none⟩) n n], .int .i64 1] w fun e w' => e = .returned (.int .i64 (1 + n + n + n)) ∧ Mkd w' n gb gn gm ∧ (∀ k, k < w.heap.size → k ≠ gb → k ≠ gn → k ≠ gm → w'.heap[k]? = w.heap[k]?) ∧ (∀ B w0, Below B w0 w → B ≤ gb → B ≤ gn → B ≤ gm → Below B w0 w') ∧ w.heap.size ≤ w'.heap.size := by
  have hE : ∀ w : World, ∀ o, Ext w (w.alloc o) := fun w o => World.grownBy_alloc _ _ _
  have l1 := (Array.getElem?_eq_some_iff.1 b1).1
  have l2 := (Array.getElem?_eq_some_iff.1 b2).1
  have l3 := (Array.getElem?_eq_some_iff.1 b3).1
  have e1 : OVL fB 4 w gb (List.replicate n false) := by unfold OVL; rw [List.map_replicate]; exact b1
  have e2 : OVL fI 3 w gn (List.replicate n 0) := by unfold OVL; rw [List.map_replicate]; exact b2
  have e3 : OVL fI 3 w gm (List.replicate n 0) := by unfold OVL; rw [List.map_replicate]; exact b3
  clear b1 b2 b3
  go_enter Try.func36, Try.ntmps36
  go_wp2_with fail
  refine (markNil_T 1 _).mono ?_
  rintro e w1 ⟨rfl, rfl⟩
  go_wp2_with fail
  have m1 := markL_B gb (List.replicate n false) 1 _ (e1.ext (hE w (.cells #[.int .i64 i, .int .i64 0, .int .i64 (-1), .slice none 0 0, .int .i64 0, .int .i64 0, .int .i64 (-1), .int .i64 0, .slice (some ⟨gb, 0, none⟩) n n, .slice (some ⟨gn, 0, none⟩) n n, .slice (some ⟨gm, 0, none⟩) n n] 80 (0, 0)))) (by omega) (by omega) (by simp; omega)
  rw [List.length_replicate] at m1
  refine m1.mono ?_
  rintro e w2 ⟨rfl, o2, g2⟩
  have P2 := obj_other (heap_alloc_new w (.cells #[.int .i64 i, .int .i64 0, .int .i64 (-1), .slice none 0 0, .int .i64 0, .int .i64 0, .int .i64 (-1), .int .i64 0, .slice (some ⟨gb, 0, none⟩) n n, .slice (some ⟨gn, 0, none⟩) n n, .slice (some ⟨gm, 0, none⟩) n n] 80 (0, 0))) g2 (by omega)
  obtain ⟨c9, _⟩ := at_block P2 9 _ rfl
  go_wp2_with fail
  have m2 := markL_I gn (List.replicate n 0) (1 + n) w2 (ovl_other (e2.ext (hE w _)) g2 (by omega)) (by omega) (by omega) (by simp; omega)
  rw [List.length_replicate] at m2
  refine m2.mono ?_
  rintro e w3 ⟨rfl, o3, g3⟩
  have P3 := obj_other P2 g3 (by omega)
  obtain ⟨c10, _⟩ := at_block P3 10 _ rfl
  clear c9
  go_wp2_with fail
  have m3 := markL_I gm (List.replicate n 0) (1 + n + n) w3 (ovl_other (ovl_other (e3.ext (hE w _)) g2 (by omega)) g3 (by omega)) (by omega) (by omega) (by simp; omega)
  rw [List.length_replicate] at m3
  refine m3.mono ?_
  rintro e w4 ⟨rfl, o4, g4⟩
  clear c10
  go_wp2
  go_ret
  refine ⟨rfl, ⟨ovl_other (ovl_other o2 g3 (by omega)) g4 (by omega), ovl_other o3 g4 (by omega), o4⟩, fun k hk k1 k2 k3 => ?_, fun B w0 hB q1 q2 q3 => ?_, ?_⟩
  · have s1 := g2.size
    have s2 := g3.size
    rw [World.size_alloc] at s1
    rw [g4.block k (by omega) (by simp; omega), g3.block k (by omega) (by simp; omega), g2.block k (by rw [World.size_alloc]; omega) (by simp; omega)]
    exact Below.heap_alloc _ _ _ hk
  · have s1 := g2.size
    have s2 := g3.size
    rw [World.size_alloc] at s1
    have a1 := hB.alloc (show B ≤ w.heap.size by omega) (.cells #[.int .i64 i, .int .i64 0, .int .i64 (-1), .slice none 0 0, .int .i64 0, .int .i64 0, .int .i64 (-1), .int .i64 0, .slice (some ⟨gb, 0, none⟩) n n, .slice (some ⟨gn, 0, none⟩) n n, .slice (some ⟨gm, 0, none⟩) n n] 80 (0, 0))
    have a2 := a1.grown g2 (by rw [World.size_alloc]; omega) (fun k hk => by simp at hk; omega)
    have a3 := a2.grown g3 (by omega) (fun k hk => by simp at hk; omega)
    exact a3.grown g4 (by omega) (fun k hk => by simp at hk; omega)
  · have s1 := g2.size
    have s2 := g3.size
    have s3 := g4.size
    rw [World.size_alloc] at s1
    omega

set_option maxHeartbeats 4000000 in
theorem heldNew (i : Int) (n gb gn gm : Nat) (w : World) (hn : n ≤ 5) (h : Mkd w n gb gn gm) :
    Calls Try.prog 37 #[.agg #[.int .i64 i, .int .i64 0, .int .i64 (-1), .slice none 0 0, .int .i64 0, .int .i64 0, .int .i64 (-1), .int .i64 0, .slice (some ⟨gb, 0, none⟩) n n, .slice (some ⟨gn, 0, none⟩) n n, .slice (some ⟨gm, 0, none⟩) n n], .int .i64 1] w fun e w' => e = .returned (.int .i64 (1 + n + n + n)) ∧ Below w.heap.size w w' := by
  have hE : ∀ w : World, ∀ o, Ext w (w.alloc o) := fun w o => World.grownBy_alloc _ _ _
  have hB : ∀ w : World, ∀ o, Below w.heap.size w (w.alloc o) := fun w o => (Below.refl _ w).alloc (Nat.le_refl _) _
  obtain ⟨e1, e2, e3⟩ := h
  go_enter Try.func37, Try.ntmps37
  go_wp2_with fail
  refine (heldNil_T 1 _).mono ?_
  rintro e w1 ⟨rfl, rfl⟩
  go_wp2_with fail
  refine (heldL_B gb n 1 _ (e1.ext (hE w (.cells #[.int .i64 i, .int .i64 0, .int .i64 (-1), .slice none 0 0, .int .i64 0, .int .i64 0, .int .i64 (-1), .int .i64 0, .slice (some ⟨gb, 0, none⟩) n n, .slice (some ⟨gn, 0, none⟩) n n, .slice (some ⟨gm, 0, none⟩) n n] 80 (0, 0)))) (by omega) (by omega) (by omega)).mono ?_
  rintro e w2 ⟨rfl, q2, rfl⟩
  have r1 : (0 : Int) ≤ 1 + (n : Int) := by omega
  go_wp2_with fail
  refine (heldL_I gn n (1 + n) _ ((e2.ext (hE w (.cells #[.int .i64 i, .int .i64 0, .int .i64 (-1), .slice none 0 0, .int .i64 0, .int .i64 0, .int .i64 (-1), .int .i64 0, .slice (some ⟨gb, 0, none⟩) n n, .slice (some ⟨gn, 0, none⟩) n n, .slice (some ⟨gm, 0, none⟩) n n] 80 (0, 0)))).ext (ext_drewN _ _)) (by omega) (by omega) (by omega)).mono ?_
  rintro e w3 ⟨rfl, q3, rfl⟩
  have r2 : (0 : Int) ≤ 1 + (n : Int) + (n : Int) := by omega
  go_wp2_with fail
  refine (heldL_I gm n (1 + n + n) _ ((e3.ext (hE w (.cells #[.int .i64 i, .int .i64 0, .int .i64 (-1), .slice none 0 0, .int .i64 0, .int .i64 0, .int .i64 (-1), .int .i64 0, .slice (some ⟨gb, 0, none⟩) n n, .slice (some ⟨gn, 0, none⟩) n n, .slice (some ⟨gm, 0, none⟩) n n] 80 (0, 0)))).ext (ext_drewN _ _)) (by omega) (by omega) (by omega)).mono ?_
  rintro e w4 ⟨rfl, q4, rfl⟩
  have r3 : (0 : Int) ≤ 1 + (n : Int) + (n : Int) + (n : Int) := by omega
  go_wp2
  go_ret
  exact ⟨rfl, below_drewN (hB _ _) _⟩

set_option maxHeartbeats 4000000 in
theorem markZero (w : World) : Calls Try.prog 36 #[zeroV, .int .i64 1] w fun e w' => e = .returned (.int .i64 1) ∧ Below w.heap.size w w' := by
  have hB : ∀ w : World, ∀ o, Below w.heap.size w (w.alloc o) := fun w o => (Below.refl _ w).alloc (Nat.le_refl _) _
  unfold zeroV
  go_enter Try.func36, Try.ntmps36
  go_wp2_with (first
    | (go_at_call 77; refine (markNil_T _ _).mono ?_; rintro e w1 ⟨rfl, rfl⟩)
    | (go_at_call 83; refine (markNil_B _ _).mono ?_; rintro e w1 ⟨rfl, rfl⟩)
    | (go_at_call 84; refine (markNil_I _ _).mono ?_; rintro e w1 ⟨rfl, rfl⟩))
  go_ret
  exact ⟨rfl, hB _ _⟩
set_option maxHeartbeats 4000000 in
theorem heldZero (w : World) : Calls Try.prog 37 #[zeroV, .int .i64 1] w fun e w' => e = .returned (.int .i64 1) ∧ Below w.heap.size w w' := by
  have hB : ∀ w : World, ∀ o, Below w.heap.size w (w.alloc o) := fun w o => (Below.refl _ w).alloc (Nat.le_refl _) _
  unfold zeroV
  go_enter Try.func37, Try.ntmps37
  go_wp2_with (first
    | (go_at_call 85; refine (heldNil_T _ _).mono ?_; rintro e w1 ⟨rfl, rfl⟩)
    | (go_at_call 86; refine (heldNil_B _ _).mono ?_; rintro e w1 ⟨rfl, rfl⟩)
    | (go_at_call 87; refine (heldNil_I _ _).mono ?_; rintro e w1 ⟨rfl, rfl⟩))
  go_ret
  exact ⟨rfl, hB _ _⟩

end Go.Proofs.Ytpmkmnniccbljal
