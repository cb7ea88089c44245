/- Views with a value: marked and held; what lies outside of a range of blocks stays. -/
import Derived.Test.YtplgnohncdfgcakVwA
import Derived.Test.YtplgnohncdfgcakMark
import Derived.Test.YtplgnohncdfgcakMkB
import Derived.Test.YtplgnohncdfgcakLkA
namespace Go.Proofs.Ytplgnohncdfgcak
open Go.RowKit

set_option maxHeartbeats 1000000 in
theorem markVwV (i k : Int) (h : Bool) (v : Value) (xs : List Int) (base : Nat) (w : World) (ho : Ow w base v xs) (hn : xs.length ≤ 2097152) (hk0 : 0 ≤ k) (hk : k ≤ 1073741824) :
    Calls Try.prog 19 #[.agg #[.int .i64 i, .bool h, v], .int .i64 k] w fun e w' => e = .returned (.int .i64 (k + xs.length)) ∧ Ow w' base v (marks k xs.length) ∧ w.grownBy w' v.ownBlock := by
  obtain ⟨a, c, rfl⟩ := ow_shape ho
  have hE : ∀ w : World, ∀ o, Ext w (w.alloc o) := fun w o => World.grownBy_alloc _ _ _
  go_enter Try.func19, Try.ntmps19
  go_wp2_with fail
  refine (markV base _ xs k _ (ho.ext (hE _ _)) hn hk0 hk).mono ?_
  rintro e w1 ⟨rfl, o1, g1⟩
  have HG : Hid (w.grownBy w1 (Value.slice a xs.length c).ownBlock) := by
    have e0 := hE w (.cells #[.int .i64 i, .bool h, .slice a xs.length c] 31 (0, 0))
    exact ⟨g1.os.trans e0.os, g1.tape.trans e0.tape, g1.output.trans e0.output, Nat.le_trans e0.size g1.size, fun j hj hne => (g1.block j (Nat.lt_of_lt_of_le hj e0.size) hne).trans (e0.block j hj (by simp))⟩
  have HO : Hid (Ow w1 base (.slice a xs.length c) (marks k xs.length)) := o1
  clear o1 g1 ho
  go_wp2
  go_ret
  exact ⟨rfl, HO.out, HG.out⟩

set_option maxHeartbeats 1000000 in
theorem heldVwV (i k : Int) (h : Bool) (v : Value) (n : Nat) (w : World) (hr : RV w v (marks k n)) (hn : n ≤ 2097152) (hk0 : 0 ≤ k) (hk : k ≤ 1073741824) :
    Calls Try.prog 20 #[.agg #[.int .i64 i, .bool h, v], .int .i64 k] w fun e w' => e = .returned (.int .i64 (k + n)) ∧ Below w.heap.size w w' := by
  have hB : ∀ w : World, ∀ o, Below w.heap.size w (w.alloc o) := fun w o => (Below.refl _ w).alloc (Nat.le_refl _) _
  have hE : ∀ w : World, ∀ o, Ext w (w.alloc o) := fun w o => World.grownBy_alloc _ _ _
  have hr' := hr
  obtain ⟨a, c, rfl, _, _, _⟩ := hr
  go_enter Try.func20, Try.ntmps20
  go_wp2_with fail
  refine (heldV _ n k _ (hr'.ext (hE _ _)) hn hk0 hk).mono ?_
  rintro e w1 ⟨rfl, rfl⟩
  have dk : decide (k + (n : Int) < 0) = false := decide_eq_false (by omega)
  go_wp2
  go_ret
  exact ⟨rfl, hB _ _⟩

theorem mid_of_grown {lo hi : Nat} {row : Option Nat} {w w' : World} (h : w.grownBy w' row) (hr : ∀ k, row = some k → lo ≤ k ∧ k < hi) : Mid lo hi w w' :=
  ⟨h.os, h.tape, h.output, h.size, fun k hk ho => h.block k hk (fun e => by have := hr k e.symm; omega)⟩
theorem ow_mid {lo hi base : Nat} {w w' : World} {v : Value} {xs : List Int} (h : Ow w base v xs) (m : Mid lo hi w w') (ho : ∀ k, v.ownBlock = some k → k < lo ∨ hi ≤ k) : Ow w' base v xs := by
  refine ⟨h.1, ?_⟩
  rcases h.2 with h2 | ⟨g, cap, cur, rfl, h1, h2, h3, h4, h5, h6⟩
  · exact .inl h2
  · exact .inr ⟨g, cap, cur, rfl, h1, (m.out g (Array.getElem?_eq_some_iff.1 h2).1 (ho g rfl)).trans h2, h3, h4, h5, h6⟩

theorem lkV_in (S : DState) (p : List Int) : (lkV S p).2.2 = [] ∨ ∃ (i : Nat) (r : DRow), S.rows[i]? = some r ∧ (lkV S p).2.2 = r.val := by
  unfold lkV
  split
  · unfold lk0
    split
    · rename_i r hr
      have := List.mem_of_find?_eq_some hr
      obtain ⟨i, hi⟩ := List.mem_iff_getElem?.1 this
      exact .inr ⟨i, r, hi, rfl⟩
    · split
      · exact .inl rfl
      · exact .inl rfl
  · exact .inl rfl
theorem lkV_len {S : DState} {B : Nat} (p : List Int) (h : LenSt S B) : (lkV S p).2.2.length ≤ B := by
  rcases lkV_in S p with e | ⟨i, r, hr, e⟩
  · rw [e]; exact Nat.zero_le _
  · rw [e]; exact (h.row i r hr).2
theorem lkV_rng {S : DState} (p : List Int) (h : rngSt S) : ∀ x ∈ (lkV S p).2.2, 0 ≤ x ∧ x ≤ 255 := by
  rcases lkV_in S p with e | ⟨i, r, hr, e⟩
  · rw [e]; intro x hx; cases hx
  · rw [e]; exact (h.1 i r hr).2
end Go.Proofs.Ytplgnohncdfgcak
