/- The contract of the program's OpOk. -/
import Derived.Test.YtkmjgmpiclchdaaIKey
namespace Go.Proofs.Ytkmjgmpiclchdaa
open Go.RowKit

set_option maxHeartbeats 1000000 in
theorem keylessV (k v kv vv : Value) (ky vl : List Int) (w : World) (rk : RV w kv ky) (rv : RV w vv vl) :
    Calls Try.prog 62 #[.agg #[k, kv, vv, v]] w fun e w' => e = .returned (.bool (decide (ky.length = 0) && decide (vl.length = 0))) ∧ Below w.heap.size w w' := by
  have hB : ∀ w : World, ∀ o, Below w.heap.size w (w.alloc o) := fun w o => (Below.refl _ w).alloc (Nat.le_refl _) _
  obtain ⟨a, cap, rfl, hr, h1, h2⟩ := rk
  obtain ⟨a', cap', rfl, hr', h1', h2'⟩ := rv
  clear hr hr'
  generalize ky.length = n at *
  generalize vl.length = m at *
  obtain ⟨z, hz0⟩ : ∃ z, z = (decide (n = 0) && decide (m = 0)) := ⟨_, rfl⟩
  rw [← hz0]
  by_cases h : n = 0
  · subst h
    by_cases h' : m = 0
    · subst h'
      have hz : z = true := by rw [hz0]; rfl
      clear hz0
      subst hz
      go_enter Try.func62, Try.ntmps62
      go_wp2
      go_ret
      exact ⟨rfl, hB _ _⟩
    · have d' : ((m : Int) == 0) = false := by simpa using h'
      have hz : z = false := by rw [hz0]; simp [h']
      clear hz0
      subst hz
      go_enter Try.func62, Try.ntmps62
      go_wp2
      go_ret
      exact ⟨rfl, hB _ _⟩
  · have d : ((n : Int) == 0) = false := by simpa using h
    have hz : z = false := by rw [hz0]; simp [h]
    clear hz0
    subst hz
    go_enter Try.func62, Try.ntmps62
    go_wp2
    go_ret
    exact ⟨rfl, hB _ _⟩

theorem iopB_0 (ky vl : List Int) (n : Int) : opB ⟨0, ky, vl, n⟩ = ((decide (ky.length = 0) && decide (vl.length = 0)) && decide (n = 0)) := by
  rw [show opB ⟨0, ky, vl, n⟩ = (decide (vl.length ≤ 20) && decide (0 ≤ n) && decide (n ≤ 1000000) && decide (ky.length = 0) && decide (vl.length = 0) && decide (n = 0)) from rfl, Bool.eq_iff_iff]
  simp only [Bool.and_eq_true, decide_eq_true_eq]
  omega
theorem iopB_1 (ky vl : List Int) (n : Int) : opB ⟨1, ky, vl, n⟩ = (keyB ky && decide (vl.length ≤ 20) && decide (n = 0)) := by
  rw [show opB ⟨1, ky, vl, n⟩ = (decide (vl.length ≤ 20) && decide (0 ≤ n) && decide (n ≤ 1000000) && keyB ky && true && decide (n = 0)) from rfl, Bool.eq_iff_iff]
  simp only [Bool.and_eq_true, decide_eq_true_eq]
  generalize keyB ky = kb
  cases kb
  · simp
  · simp only [true_and, and_true]
    omega
theorem iopB_2 (ky vl : List Int) (n : Int) : opB ⟨2, ky, vl, n⟩ = (keyB ky && decide (vl.length ≤ 20) && inB n 0 1000000) := by
  rw [show opB ⟨2, ky, vl, n⟩ = (decide (vl.length ≤ 20) && decide (0 ≤ n) && decide (n ≤ 1000000) && keyB ky && true && true) from rfl, Bool.eq_iff_iff]
  simp only [inB, Bool.and_eq_true, decide_eq_true_eq]
  generalize keyB ky = kb
  cases kb
  · simp
  · simp only [true_and, and_true]
    omega
theorem iopB_3 (ky vl : List Int) (n : Int) : opB ⟨3, ky, vl, n⟩ = (keyB ky && decide (vl.length = 0) && decide (n = 0)) := by
  rw [show opB ⟨3, ky, vl, n⟩ = (decide (vl.length ≤ 20) && decide (0 ≤ n) && decide (n ≤ 1000000) && keyB ky && decide (vl.length = 0) && decide (n = 0)) from rfl, Bool.eq_iff_iff]
  simp only [Bool.and_eq_true, decide_eq_true_eq]
  generalize keyB ky = kb
  cases kb
  · simp
  · simp only [true_and, and_true]
    omega
theorem iopB_4 (ky vl : List Int) (n : Int) : opB ⟨4, ky, vl, n⟩ = ((decide (ky.length = 0) && decide (vl.length = 0)) && inB n 0 1) := by
  rw [show opB ⟨4, ky, vl, n⟩ = (decide (vl.length ≤ 20) && decide (0 ≤ n) && decide (n ≤ 1000000) && decide (ky.length = 0) && decide (vl.length = 0) && decide (n ≤ 1)) from rfl, Bool.eq_iff_iff]
  simp only [inB, Bool.and_eq_true, decide_eq_true_eq]
  omega
theorem iopB_5 (ky vl : List Int) (n : Int) : opB ⟨5, ky, vl, n⟩ = ((decide (ky.length = 0) && decide (vl.length = 0)) && inB n 1 1000000) := by
  rw [show opB ⟨5, ky, vl, n⟩ = (decide (vl.length ≤ 20) && decide (0 ≤ n) && decide (n ≤ 1000000) && decide (ky.length = 0) && decide (vl.length = 0) && decide (1 ≤ n)) from rfl, Bool.eq_iff_iff]
  simp only [inB, Bool.and_eq_true, decide_eq_true_eq]
  omega
theorem iopB_6 (ky vl : List Int) (n : Int) : opB ⟨6, ky, vl, n⟩ = (keyB ky && decide (vl.length ≤ 20) && inB n 1 1000000) := by
  rw [show opB ⟨6, ky, vl, n⟩ = (decide (vl.length ≤ 20) && decide (0 ≤ n) && decide (n ≤ 1000000) && keyB ky && true && decide (1 ≤ n)) from rfl, Bool.eq_iff_iff]
  simp only [inB, Bool.and_eq_true, decide_eq_true_eq]
  generalize keyB ky = kb
  cases kb
  · simp
  · simp only [true_and, and_true]
    omega
theorem iopB_7 (ky vl : List Int) (n : Int) : opB ⟨7, ky, vl, n⟩ = (keyB ky && decide (vl.length = 0) && inB n 1 1000000) := by
  rw [show opB ⟨7, ky, vl, n⟩ = (decide (vl.length ≤ 20) && decide (0 ≤ n) && decide (n ≤ 1000000) && keyB ky && decide (vl.length = 0) && decide (1 ≤ n)) from rfl, Bool.eq_iff_iff]
  simp only [inB, Bool.and_eq_true, decide_eq_true_eq]
  generalize keyB ky = kb
  cases kb
  · simp
  · simp only [true_and, and_true]
    omega

set_option maxHeartbeats 2000000 in
theorem iOp_k0 (kv vv : Value) (ky vl : List Int) (n : Int) (w : World) (rk : RV w kv ky) (rv : RV w vv vl) :
    Calls Try.prog 45 #[.agg #[.int .i64 0, kv, vv, .int .i64 n]] w fun e w' => e = .returned (.bool (opB ⟨0, ky, vl, n⟩)) ∧ Below w.heap.size w w' := by
  have hE : ∀ w : World, ∀ o, Ext w (w.alloc o) := fun w o => World.grownBy_alloc _ _ _
  have hB : ∀ w : World, ∀ o, Below w.heap.size w (w.alloc o) := fun w o => (Below.refl _ w).alloc (Nat.le_refl _) _
  obtain ⟨c0, h0⟩ : ∃ c, c = (decide (ky.length = 0) && decide (vl.length = 0)) := ⟨_, rfl⟩
  have HB : Hid (opB ⟨0, ky, vl, n⟩ = (c0 && decide (n = 0))) := by rw [h0]; exact iopB_0 ky vl n
  have H0 : Hid (c0 = (decide (ky.length = 0) && decide (vl.length = 0))) := h0
  clear h0
  cases c0 <;> by_cases hn : n = 0
  all_goals
    first | subst hn | (have hn' : (n == 0) = false := by simpa using hn)
    go_enter Try.func45, Try.ntmps45
    go_wp2_with (first
      | (go_at_call 62; refine (keylessV _ _ kv vv ky vl _ (rk.ext (hE _ _)) (rv.ext (hE _ _))).mono ?_; rintro e w1 ⟨rfl, b1⟩; rw [← H0.out]; have q := below_blk b1 (by simp) (heap_alloc_new _ _); obtain ⟨q3, _⟩ := at_block q 3 _ rfl; clear q))
    go_ret
    exact ⟨by rw [HB.out]; simp [*], (hB _ _).trans (b1.mono (by simp))⟩

set_option maxHeartbeats 2000000 in
theorem iOp_k1 (kv vv : Value) (ky vl : List Int) (n : Int) (w : World) (rk : RV w kv ky) (rv : RV w vv vl) :
    Calls Try.prog 45 #[.agg #[.int .i64 1, kv, vv, .int .i64 n]] w fun e w' => e = .returned (.bool (opB ⟨1, ky, vl, n⟩)) ∧ Below w.heap.size w w' := by
  have hE : ∀ w : World, ∀ o, Ext w (w.alloc o) := fun w o => World.grownBy_alloc _ _ _
  have hB : ∀ w : World, ∀ o, Below w.heap.size w (w.alloc o) := fun w o => (Below.refl _ w).alloc (Nat.le_refl _) _
  obtain ⟨c0, h0⟩ : ∃ c, c = keyB ky := ⟨_, rfl⟩
  obtain ⟨c1, h1⟩ : ∃ c, c = decide (vl.length ≤ 20) := ⟨_, rfl⟩
  have HB : Hid (opB ⟨1, ky, vl, n⟩ = (c0 && c1 && decide (n = 0))) := by rw [h0, h1]; exact iopB_1 ky vl n
  have H0 : Hid (c0 = keyB ky) := h0
  have H1 : Hid (c1 = decide (vl.length ≤ 20)) := h1
  clear h0 h1
  cases c0 <;> cases c1 <;> by_cases hn : n = 0
  all_goals
    first | subst hn | (have hn' : (n == 0) = false := by simpa using hn)
    go_enter Try.func45, Try.ntmps45
    go_wp2_with (first
      | (go_at_call 59; refine (keyOkV kv ky _ (rk.ext (hE _ _))).mono ?_; rintro e w1 ⟨rfl, rfl⟩; rw [← H0.out])
      | (go_at_call 60; refine (valueOkV vv vl _ (rv.ext (hE _ _))).mono ?_; rintro e w1 ⟨rfl, rfl⟩; rw [← H1.out]))
    go_ret
    exact ⟨by rw [HB.out]; simp [*], hB _ _⟩

set_option maxHeartbeats 2000000 in
theorem iOp_k2 (kv vv : Value) (ky vl : List Int) (n : Int) (w : World) (rk : RV w kv ky) (rv : RV w vv vl) :
    Calls Try.prog 45 #[.agg #[.int .i64 2, kv, vv, .int .i64 n]] w fun e w' => e = .returned (.bool (opB ⟨2, ky, vl, n⟩)) ∧ Below w.heap.size w w' := by
  have hE : ∀ w : World, ∀ o, Ext w (w.alloc o) := fun w o => World.grownBy_alloc _ _ _
  have hB : ∀ w : World, ∀ o, Below w.heap.size w (w.alloc o) := fun w o => (Below.refl _ w).alloc (Nat.le_refl _) _
  obtain ⟨c0, h0⟩ : ∃ c, c = keyB ky := ⟨_, rfl⟩
  obtain ⟨c1, h1⟩ : ∃ c, c = decide (vl.length ≤ 20) := ⟨_, rfl⟩
  obtain ⟨c2, h2⟩ : ∃ c, c = inB n 0 1000000 := ⟨_, rfl⟩
  have HB : Hid (opB ⟨2, ky, vl, n⟩ = (c0 && c1 && c2)) := by rw [h0, h1, h2]; exact iopB_2 ky vl n
  have H0 : Hid (c0 = keyB ky) := h0
  have H1 : Hid (c1 = decide (vl.length ≤ 20)) := h1
  have H2 : Hid (c2 = inB n 0 1000000) := h2
  clear h0 h1 h2
  cases c0 <;> cases c1 <;> cases c2
  all_goals
    go_enter Try.func45, Try.ntmps45
    go_wp2_with (first
      | (go_at_call 59; refine (keyOkV kv ky _ (rk.ext (hE _ _))).mono ?_; rintro e w1 ⟨rfl, rfl⟩; rw [← H0.out])
      | (go_at_call 60; refine (valueOkV vv vl _ (rv.ext (hE _ _))).mono ?_; rintro e w1 ⟨rfl, rfl⟩; rw [← H1.out])
      | (go_at_call 39; refine (withinV _ _ _ _).mono ?_; rintro e w2 ⟨rfl, rfl⟩; rw [← H2.out]))
    go_ret
    exact ⟨by rw [HB.out]; simp [*], hB _ _⟩

set_option maxHeartbeats 2000000 in
theorem iOp_k3 (kv vv : Value) (ky vl : List Int) (n : Int) (w : World) (rk : RV w kv ky) (rv : RV w vv vl) :
    Calls Try.prog 45 #[.agg #[.int .i64 3, kv, vv, .int .i64 n]] w fun e w' => e = .returned (.bool (opB ⟨3, ky, vl, n⟩)) ∧ Below w.heap.size w w' := by
  have hE : ∀ w : World, ∀ o, Ext w (w.alloc o) := fun w o => World.grownBy_alloc _ _ _
  have hB : ∀ w : World, ∀ o, Below w.heap.size w (w.alloc o) := fun w o => (Below.refl _ w).alloc (Nat.le_refl _) _
  obtain ⟨c0, h0⟩ : ∃ c, c = keyB ky := ⟨_, rfl⟩
  have HB : Hid (opB ⟨3, ky, vl, n⟩ = (c0 && decide (vl.length = 0) && decide (n = 0))) := by rw [h0]; exact iopB_3 ky vl n
  have H0 : Hid (c0 = keyB ky) := h0
  clear h0
  obtain ⟨va, vc, rfl, vr, vl1, vl2⟩ := rv
  clear vr
  generalize vl.length = m at *
  cases c0 <;> by_cases hm : m = 0 <;> by_cases hn : n = 0
  all_goals
    first | subst hm | (have hm' : ((m : Int) == 0) = false := by simpa using hm)
    first | subst hn | (have hn' : (n == 0) = false := by simpa using hn)
    go_enter Try.func45, Try.ntmps45
    go_wp2_with (first
      | (go_at_call 59; refine (keyOkV kv ky _ (rk.ext (hE _ _))).mono ?_; rintro e w1 ⟨rfl, rfl⟩; rw [← H0.out]))
    go_ret
    exact ⟨by rw [HB.out]; simp [*], hB _ _⟩

set_option maxHeartbeats 2000000 in
theorem iOp_k4 (kv vv : Value) (ky vl : List Int) (n : Int) (w : World) (rk : RV w kv ky) (rv : RV w vv vl) :
    Calls Try.prog 45 #[.agg #[.int .i64 4, kv, vv, .int .i64 n]] w fun e w' => e = .returned (.bool (opB ⟨4, ky, vl, n⟩)) ∧ Below w.heap.size w w' := by
  have hE : ∀ w : World, ∀ o, Ext w (w.alloc o) := fun w o => World.grownBy_alloc _ _ _
  have hB : ∀ w : World, ∀ o, Below w.heap.size w (w.alloc o) := fun w o => (Below.refl _ w).alloc (Nat.le_refl _) _
  obtain ⟨c0, h0⟩ : ∃ c, c = (decide (ky.length = 0) && decide (vl.length = 0)) := ⟨_, rfl⟩
  obtain ⟨c1, h1⟩ : ∃ c, c = inB n 0 1 := ⟨_, rfl⟩
  have HB : Hid (opB ⟨4, ky, vl, n⟩ = (c0 && c1)) := by rw [h0, h1]; exact iopB_4 ky vl n
  have H0 : Hid (c0 = (decide (ky.length = 0) && decide (vl.length = 0))) := h0
  have H1 : Hid (c1 = inB n 0 1) := h1
  clear h0 h1
  cases c0 <;> cases c1
  all_goals
    go_enter Try.func45, Try.ntmps45
    go_wp2_with (first
      | (go_at_call 62; refine (keylessV _ _ kv vv ky vl _ (rk.ext (hE _ _)) (rv.ext (hE _ _))).mono ?_; rintro e w1 ⟨rfl, b1⟩; rw [← H0.out]; have q := below_blk b1 (by simp) (heap_alloc_new _ _); obtain ⟨q3, _⟩ := at_block q 3 _ rfl; clear q)
      | (go_at_call 39; refine (withinV _ _ _ _).mono ?_; rintro e w2 ⟨rfl, rfl⟩; rw [← H1.out]))
    go_ret
    exact ⟨by rw [HB.out]; simp [*], (hB _ _).trans (b1.mono (by simp))⟩

set_option maxHeartbeats 2000000 in
theorem iOp_k5 (kv vv : Value) (ky vl : List Int) (n : Int) (w : World) (rk : RV w kv ky) (rv : RV w vv vl) :
    Calls Try.prog 45 #[.agg #[.int .i64 5, kv, vv, .int .i64 n]] w fun e w' => e = .returned (.bool (opB ⟨5, ky, vl, n⟩)) ∧ Below w.heap.size w w' := by
  have hE : ∀ w : World, ∀ o, Ext w (w.alloc o) := fun w o => World.grownBy_alloc _ _ _
  have hB : ∀ w : World, ∀ o, Below w.heap.size w (w.alloc o) := fun w o => (Below.refl _ w).alloc (Nat.le_refl _) _
  obtain ⟨c0, h0⟩ : ∃ c, c = (decide (ky.length = 0) && decide (vl.length = 0)) := ⟨_, rfl⟩
  obtain ⟨c1, h1⟩ : ∃ c, c = inB n 1 1000000 := ⟨_, rfl⟩
  have HB : Hid (opB ⟨5, ky, vl, n⟩ = (c0 && c1)) := by rw [h0, h1]; exact iopB_5 ky vl n
  have H0 : Hid (c0 = (decide (ky.length = 0) && decide (vl.length = 0))) := h0
  have H1 : Hid (c1 = inB n 1 1000000) := h1
  clear h0 h1
  cases c0 <;> cases c1
  all_goals
    go_enter Try.func45, Try.ntmps45
    go_wp2_with (first
      | (go_at_call 62; refine (keylessV _ _ kv vv ky vl _ (rk.ext (hE _ _)) (rv.ext (hE _ _))).mono ?_; rintro e w1 ⟨rfl, b1⟩; rw [← H0.out]; have q := below_blk b1 (by simp) (heap_alloc_new _ _); obtain ⟨q3, _⟩ := at_block q 3 _ rfl; clear q)
      | (go_at_call 39; refine (withinV _ _ _ _).mono ?_; rintro e w2 ⟨rfl, rfl⟩; rw [← H1.out]))
    go_ret
    exact ⟨by rw [HB.out]; simp [*], (hB _ _).trans (b1.mono (by simp))⟩

set_option maxHeartbeats 2000000 in
theorem iOp_k6 (kv vv : Value) (ky vl : List Int) (n : Int) (w : World) (rk : RV w kv ky) (rv : RV w vv vl) :
    Calls Try.prog 45 #[.agg #[.int .i64 6, kv, vv, .int .i64 n]] w fun e w' => e = .returned (.bool (opB ⟨6, ky, vl, n⟩)) ∧ Below w.heap.size w w' := by
  have hE : ∀ w : World, ∀ o, Ext w (w.alloc o) := fun w o => World.grownBy_alloc _ _ _
  have hB : ∀ w : World, ∀ o, Below w.heap.size w (w.alloc o) := fun w o => (Below.refl _ w).alloc (Nat.le_refl _) _
  obtain ⟨c0, h0⟩ : ∃ c, c = keyB ky := ⟨_, rfl⟩
  obtain ⟨c1, h1⟩ : ∃ c, c = decide (vl.length ≤ 20) := ⟨_, rfl⟩
  obtain ⟨c2, h2⟩ : ∃ c, c = inB n 1 1000000 := ⟨_, rfl⟩
  have HB : Hid (opB ⟨6, ky, vl, n⟩ = (c0 && c1 && c2)) := by rw [h0, h1, h2]; exact iopB_6 ky vl n
  have H0 : Hid (c0 = keyB ky) := h0
  have H1 : Hid (c1 = decide (vl.length ≤ 20)) := h1
  have H2 : Hid (c2 = inB n 1 1000000) := h2
  clear h0 h1 h2
  cases c0 <;> cases c1 <;> cases c2
  all_goals
    go_enter Try.func45, Try.ntmps45
    go_wp2_with (first
      | (go_at_call 59; refine (keyOkV kv ky _ (rk.ext (hE _ _))).mono ?_; rintro e w1 ⟨rfl, rfl⟩; rw [← H0.out])
      | (go_at_call 60; refine (valueOkV vv vl _ (rv.ext (hE _ _))).mono ?_; rintro e w1 ⟨rfl, rfl⟩; rw [← H1.out])
      | (go_at_call 39; refine (withinV _ _ _ _).mono ?_; rintro e w2 ⟨rfl, rfl⟩; rw [← H2.out]))
    go_ret
    exact ⟨by rw [HB.out]; simp [*], hB _ _⟩

set_option maxHeartbeats 2000000 in
theorem iOp_k7 (kv vv : Value) (ky vl : List Int) (n : Int) (w : World) (rk : RV w kv ky) (rv : RV w vv vl) :
    Calls Try.prog 45 #[.agg #[.int .i64 7, kv, vv, .int .i64 n]] w fun e w' => e = .returned (.bool (opB ⟨7, ky, vl, n⟩)) ∧ Below w.heap.size w w' := by
  have hE : ∀ w : World, ∀ o, Ext w (w.alloc o) := fun w o => World.grownBy_alloc _ _ _
  have hB : ∀ w : World, ∀ o, Below w.heap.size w (w.alloc o) := fun w o => (Below.refl _ w).alloc (Nat.le_refl _) _
  obtain ⟨c0, h0⟩ : ∃ c, c = keyB ky := ⟨_, rfl⟩
  obtain ⟨c1, h1⟩ : ∃ c, c = inB n 1 1000000 := ⟨_, rfl⟩
  have HB : Hid (opB ⟨7, ky, vl, n⟩ = (c0 && decide (vl.length = 0) && c1)) := by rw [h0, h1]; exact iopB_7 ky vl n
  have H0 : Hid (c0 = keyB ky) := h0
  have H1 : Hid (c1 = inB n 1 1000000) := h1
  clear h0 h1
  obtain ⟨va, vc, rfl, vr, vl1, vl2⟩ := rv
  clear vr
  generalize vl.length = m at *
  cases c0 <;> cases c1 <;> by_cases hm : m = 0
  all_goals
    first | subst hm | (have hm' : ((m : Int) == 0) = false := by simpa using hm)
    go_enter Try.func45, Try.ntmps45
    go_wp2_with (first
      | (go_at_call 59; refine (keyOkV kv ky _ (rk.ext (hE _ _))).mono ?_; rintro e w1 ⟨rfl, rfl⟩; rw [← H0.out])
      | (go_at_call 39; refine (withinV _ _ _ _).mono ?_; rintro e w2 ⟨rfl, rfl⟩; rw [← H1.out]))
    go_ret
    exact ⟨by rw [HB.out]; simp [*], hB _ _⟩

set_option maxHeartbeats 2000000 in
theorem iOp_kind (kv vv : Value) (ky vl : List Int) (n : Int) (w : World) (kind : Int) (hk : kind < 0 ∨ 7 < kind) :
    Calls Try.prog 45 #[.agg #[.int .i64 kind, kv, vv, .int .i64 n]] w fun e w' => e = .returned (.bool (opB ⟨kind, ky, vl, n⟩)) ∧ Below w.heap.size w w' := by
  have hB : ∀ w : World, ∀ o, Below w.heap.size w (w.alloc o) := fun w o => (Below.refl _ w).alloc (Nat.le_refl _) _
  have HB : Hid (opB ⟨kind, ky, vl, n⟩ = false) := by unfold Hid opB; rcases hk with h | h <;> simp <;> omega
  have e0 : (kind == 0) = false := by simp; omega
  have e1 : (kind == 1) = false := by simp; omega
  have e2 : (kind == 2) = false := by simp; omega
  have e3 : (kind == 3) = false := by simp; omega
  have e4 : (kind == 4) = false := by simp; omega
  have e5 : (kind == 5) = false := by simp; omega
  have e6 : (kind == 6) = false := by simp; omega
  have e7 : (kind == 7) = false := by simp; omega
  clear hk
  go_enter Try.func45, Try.ntmps45
  go_wp2
  go_ret
  exact ⟨by rw [HB.out]; rfl, hB _ _⟩

theorem iOpOkV (v : Value) (d : DOp) (w : World) (h : VOp w v d) : Calls Try.prog 45 #[v] w fun e w' => e = .returned (.bool (opB d)) ∧ Below w.heap.size w w' := by
  obtain ⟨kv, vv, rfl, rk, rv⟩ := h
  obtain ⟨kind, ky, vl, n⟩ := d
  simp only at rk rv ⊢
  by_cases h0 : kind = 0
  · subst h0; exact iOp_k0 kv vv ky vl n w rk rv
  by_cases h1 : kind = 1
  · subst h1; exact iOp_k1 kv vv ky vl n w rk rv
  by_cases h2 : kind = 2
  · subst h2; exact iOp_k2 kv vv ky vl n w rk rv
  by_cases h3 : kind = 3
  · subst h3; exact iOp_k3 kv vv ky vl n w rk rv
  by_cases h4 : kind = 4
  · subst h4; exact iOp_k4 kv vv ky vl n w rk rv
  by_cases h5 : kind = 5
  · subst h5; exact iOp_k5 kv vv ky vl n w rk rv
  by_cases h6 : kind = 6
  · subst h6; exact iOp_k6 kv vv ky vl n w rk rv
  by_cases h7 : kind = 7
  · subst h7; exact iOp_k7 kv vv ky vl n w rk rv
  exact iOp_kind kv vv ky vl n w kind (by omega)

end Go.Proofs.Ytkmjgmpiclchdaa
