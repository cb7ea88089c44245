/- What a wheel tells behind a timer was set: plain mathematics for FnWheels. -/
import Derived.Test.YtgjffhcokadcdaaHqM
import Derived.Test.YtgjffhcokadcdaaWhN0
namespace Go.Proofs.Ytgjffhcokadcdaa
open Go.RowKit

/-- The wheel D with this timer set. -/
def setW (D : DWheel) (id after : Int) : DWheel := ⟨D.now, insT (lessT D.tms id) ⟨id, D.now + after⟩⟩
theorem bad_no {D : DWheel} {id after : Int} (hb : badS D id after = false) : (0 ≤ id ∧ id ≤ 2147483647) ∧ (1 ≤ after ∧ after ≤ 1000000) := by
  simp only [badS, Bool.or_eq_false_iff, Bool.and_eq_false_iff, decide_eq_false_iff_not] at hb
  omega
theorem set_good {D : DWheel} {id after : Int} (hb : badS D id after = false) : setD true D id after = (setW D id after, true) := by
  unfold setD
  rw [if_pos rfl, hb]
  exact rfl
theorem set_bad {D : DWheel} {id after : Int} (hb : badS D id after = true) : setD true D id after = (D, false) := by
  unfold setD
  rw [if_pos rfl, hb]
  exact rfl
theorem setW_p {D : DWheel} {id after : Int} (h : WheelP D) (hb : badS D id after = false) : WheelP (setW D id after) := wq_to (wq_set (wq_of h) hb)
theorem setW_left {D : DWheel} {id after : Int} (h : WheelP D) (hb : badS D id after = false) : leftB true (setW D id after) id = (after, true) := by
  obtain ⟨i, h1, h2⟩ := place_of (wq_set (wq_of h) hb).ids (set_mem D id after)
  simp only at h1
  unfold leftB setW
  simp only [if_true]
  rw [h1, if_neg (by omega), Int.toNat_natCast, h2]
  simp only [Prod.mk.injEq, and_true]
  omega
theorem setW_next {D : DWheel} {id after : Int} (h : WheelP D) (hb : badS D id after = false) : ∃ nx, nextB true (setW D id after) = (nx, true) ∧ nx ≤ after ∧ 1 ≤ nx := by
  have hq := wq_set (wq_of h) hb
  have hm := set_mem D id after
  obtain ⟨j, hj⟩ := List.getElem?_of_mem hm
  have hjl := (List.getElem?_eq_some_iff.1 hj).1
  obtain ⟨t, ht⟩ : ∃ t, (insT (lessT D.tms id) ⟨id, D.now + after⟩)[0]? = some t := ⟨_, List.getElem?_eq_getElem (by omega)⟩
  have htm := List.mem_of_getElem? ht
  have hk : kT t ≤ kT ⟨id, D.now + after⟩ := by
    have hs := hq.sort
    unfold SortT at hs
    rw [List.pairwise_iff_getElem] at hs
    obtain ⟨h0l, h0e⟩ := List.getElem?_eq_some_iff.1 ht
    obtain ⟨_, hje⟩ := List.getElem?_eq_some_iff.1 hj
    by_cases e : j = 0
    · subst e
      rw [ht] at hj
      cases hj
      omega
    · have := hs 0 j h0l hjl (by omega)
      rw [h0e, hje] at this
      exact this
  have hd := kT_due (hq.all t htm).1 (hq.all _ hm).1 hk
  refine ⟨t.due - D.now, ?_, ?_, ?_⟩
  · unfold nextB setW
    simp only [if_true]
    rw [ht]
  · simp only at hd
    omega
  · have := (hq.all t htm).2.1
    simp only at this
    omega
theorem lessT_at {X : List DTim} {id : Int} {i : Nat} (h : placeT X id = (i : Int)) : lessT X id = X.eraseIdx i := by
  unfold lessT
  rw [h, if_neg (by omega), Int.toNat_natCast]
theorem setW_stop {D : DWheel} {id after : Int} (h : WheelP D) (hb : badS D id after = false) : ∃ S, stopD true (setW D id after) id = (S, true) ∧ ∀ c, leftB c S id = (0, false) := by
  have hq := wq_set (wq_of h) hb
  obtain ⟨i, h1, h2⟩ := place_of hq.ids (set_mem D id after)
  simp only at h1
  refine ⟨⟨D.now, (insT (lessT D.tms id) ⟨id, D.now + after⟩).eraseIdx i⟩, ?_, fun c => ?_⟩
  · unfold stopD setW
    simp only [if_true]
    rw [h1, if_neg (by omega), Int.toNat_natCast]
  · have hno := lessT_no hq.ids id
    have hl := lessT_at h1
    simp only at hno
    have hp : placeT ((insT (lessT D.tms id) ⟨id, D.now + after⟩).eraseIdx i) id = -1 := placeT_none fun j t ht => by
      refine hno t ?_
      show t ∈ lessT (insT (lessT D.tms id) ⟨id, D.now + after⟩) id
      rw [hl]
      exact List.mem_of_getElem? ht
    cases c with
    | false => rfl
    | true =>
      unfold leftB
      simp only [if_true]
      rw [hp, if_pos (by omega)]
/-- Moments one by one and at once. -/
theorem setW_tick {D : DWheel} {id after n : Int} (h : WheelP D) (hb : badS D id after = false) (hf : after ≤ 1000000 - D.now) (h0 : 0 ≤ n) (h1 : n < after) :
    ∃ Y A B C Z, tickD true (setW D id after) n = (Y, A) ∧ WheelP Y ∧ tickD true Y (after - n) = (Z, B) ∧ tickD true (setW D id after) after = (Z, C) ∧ A ++ B = C ∧ id ∈ C ∧ id ∉ A ∧ C.length ≤ 40 ∧ Z.tms.length ≤ 40 := by
  have hq := wq_set (wq_of h) hb
  have hm := set_mem D id after
  obtain ⟨X, hX⟩ : ∃ X, X = insT (lessT D.tms id) ⟨id, D.now + after⟩ := ⟨_, rfl⟩
  have hqX : WQ ⟨D.now, X⟩ := by rw [hX]; exact hq
  rw [← hX] at hm
  have hY := wq_tick hqX h0 (by simp only; omega)
  have t1 : tickD true ⟨D.now, X⟩ n = (⟨D.now + n, X.filter fun t => decide (D.now + n < t.due)⟩, (X.filter fun t => decide (t.due ≤ D.now + n)).map fun t => t.id) := by
    unfold tickD
    rw [if_pos rfl, if_pos (by simp only [Bool.and_eq_true, decide_eq_true_eq]; omega)]
  have t3 : tickD true ⟨D.now, X⟩ after = (⟨D.now + after, X.filter fun t => decide (D.now + after < t.due)⟩, (X.filter fun t => decide (t.due ≤ D.now + after)).map fun t => t.id) := by
    unfold tickD
    rw [if_pos rfl, if_pos (by simp only [Bool.and_eq_true, decide_eq_true_eq]; omega)]
  obtain ⟨e1, e2⟩ := tick_two hqX.sort hqX.good (x := D.now + n) (y := D.now + after) (by omega)
  have t2 : tickD true ⟨D.now + n, X.filter fun t => decide (D.now + n < t.due)⟩ (after - n) = (⟨D.now + after, X.filter fun t => decide (D.now + after < t.due)⟩, ((X.filter fun t => decide (D.now + n < t.due)).filter fun t => decide (t.due ≤ D.now + after)).map fun t => t.id) := by
    unfold tickD
    rw [if_pos rfl, if_pos (by simp only [Bool.and_eq_true, decide_eq_true_eq]; omega)]
    simp only
    rw [show D.now + n + (after - n) = D.now + after by omega, e1]
  have eS : setW D id after = ⟨D.now, X⟩ := by unfold setW; rw [hX]
  rw [eS]
  refine ⟨_, _, _, _, _, t1, wq_to hY, t2, t3, ?_, ?_, ?_, ?_, Nat.le_trans (List.length_filter_le _ _) hqX.len⟩
  · rw [← List.map_append, e2]
  · exact List.mem_map.2 ⟨⟨id, D.now + after⟩, List.mem_filter.2 ⟨hm, by simp⟩, rfl⟩
  · intro hin
    obtain ⟨t, ht, hid⟩ := List.mem_map.1 hin
    obtain ⟨ht1, ht2⟩ := List.mem_filter.1 ht
    have : t = ⟨id, D.now + after⟩ := nodup_inj hqX.ids ht1 hm hid
    subst this
    simp only [decide_eq_true_eq] at ht2
    omega
  · rw [List.length_map]
    exact Nat.le_trans (List.length_filter_le _ _) hqX.len

end Go.Proofs.Ytgjffhcokadcdaa
