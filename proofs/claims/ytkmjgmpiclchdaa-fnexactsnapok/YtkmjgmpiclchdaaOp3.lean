/- The contract of the specification's OpOk. -/
import Derived.Test.YtkmjgmpiclchdaaOp2
namespace Go.Proofs.Ytkmjgmpiclchdaa
open Go.RowKit

theorem b6_4 {a b c d e f : Bool} (h : d = false) : (a && b && c && d && e && f) = false := by rw [h]; simp
theorem b6_5 {a b c d e f : Bool} (h : e = false) : (a && b && c && d && e && f) = false := by rw [h]; simp
theorem b6_6 {a b c d e f : Bool} (h : f = false) : (a && b && c && d && e && f) = false := by rw [h]; simp
theorem b6_t {a b c d e f : Bool} (h1 : a = true) (h2 : b = true) (h3 : c = true) (h4 : d = true) (h5 : e = true) (h6 : f = true) : (a && b && c && d && e && f) = true := by rw [h1, h2, h3, h4, h5, h6]; rfl
theorem opB_0 (ky vl : List Int) (n : Int) : opB ⟨0, ky, vl, n⟩ = (decide (vl.length ≤ 20) && decide (0 ≤ n) && decide (n ≤ 1000000) && decide (ky.length = 0) && decide (vl.length = 0) && decide (n = 0)) := rfl
theorem opB_1 (ky vl : List Int) (n : Int) : opB ⟨1, ky, vl, n⟩ = (decide (vl.length ≤ 20) && decide (0 ≤ n) && decide (n ≤ 1000000) && keyB ky && true && decide (n = 0)) := rfl
theorem opB_2 (ky vl : List Int) (n : Int) : opB ⟨2, ky, vl, n⟩ = (decide (vl.length ≤ 20) && decide (0 ≤ n) && decide (n ≤ 1000000) && keyB ky && true && true) := rfl
theorem opB_3 (ky vl : List Int) (n : Int) : opB ⟨3, ky, vl, n⟩ = (decide (vl.length ≤ 20) && decide (0 ≤ n) && decide (n ≤ 1000000) && keyB ky && decide (vl.length = 0) && decide (n = 0)) := rfl
theorem opB_4 (ky vl : List Int) (n : Int) : opB ⟨4, ky, vl, n⟩ = (decide (vl.length ≤ 20) && decide (0 ≤ n) && decide (n ≤ 1000000) && decide (ky.length = 0) && decide (vl.length = 0) && decide (n ≤ 1)) := rfl
theorem opB_5 (ky vl : List Int) (n : Int) : opB ⟨5, ky, vl, n⟩ = (decide (vl.length ≤ 20) && decide (0 ≤ n) && decide (n ≤ 1000000) && decide (ky.length = 0) && decide (vl.length = 0) && decide (1 ≤ n)) := rfl
theorem opB_6 (ky vl : List Int) (n : Int) : opB ⟨6, ky, vl, n⟩ = (decide (vl.length ≤ 20) && decide (0 ≤ n) && decide (n ≤ 1000000) && keyB ky && true && decide (1 ≤ n)) := rfl
theorem opB_7 (ky vl : List Int) (n : Int) : opB ⟨7, ky, vl, n⟩ = (decide (vl.length ≤ 20) && decide (0 ≤ n) && decide (n ≤ 1000000) && keyB ky && decide (vl.length = 0) && decide (1 ≤ n)) := rfl

set_option maxHeartbeats 1000000 in
theorem opOk_kind (kv vv : Value) (ky vl : List Int) (n : Int) (w : World) (_rk : RV w kv ky) (_rv : RV w vv vl) (kind : Int) (hk : kind < 0 ∨ 7 < kind) :
    Calls Try.prog 33 #[.agg #[.int .i64 kind, kv, vv, .int .i64 n]] w fun e w' => e = .returned (.bool (opB ⟨kind, ky, vl, n⟩)) ∧ Below w.heap.size w w' := by
  have hE : ∀ w : World, ∀ o, Ext w (w.alloc o) := fun w o => World.grownBy_alloc _ _ _
  have hB : ∀ w : World, ∀ o, Below w.heap.size w (w.alloc o) := fun w o => (Below.refl _ w).alloc (Nat.le_refl _) _
  have HB : Hid (opB ⟨kind, ky, vl, n⟩ = false) := by unfold Hid opB; rcases hk with h | h <;> simp <;> omega
  rcases hk with hk | hk
  · go_enter Try.func33, Try.ntmps33
    go_wp2
    go_ret
    exact ⟨by rw [HB.out]; rfl, hB _ _⟩
  · have hk' : ¬ kind < 0 := by omega
    go_enter Try.func33, Try.ntmps33
    go_wp2
    go_ret
    exact ⟨by rw [HB.out]; rfl, hB _ _⟩

set_option maxHeartbeats 1000000 in
theorem opOk_val (kv vv : Value) (ky vl : List Int) (n : Int) (w : World) (_rk : RV w kv ky) (rv : RV w vv vl) (kind : Int) (hk0 : 0 ≤ kind) (hk1 : kind ≤ 7) (hv : ¬ vl.length ≤ 20) :
    Calls Try.prog 33 #[.agg #[.int .i64 kind, kv, vv, .int .i64 n]] w fun e w' => e = .returned (.bool (opB ⟨kind, ky, vl, n⟩)) ∧ Below w.heap.size w w' := by
  have hE : ∀ w : World, ∀ o, Ext w (w.alloc o) := fun w o => World.grownBy_alloc _ _ _
  have hB : ∀ w : World, ∀ o, Below w.heap.size w (w.alloc o) := fun w o => (Below.refl _ w).alloc (Nat.le_refl _) _
  have HB : Hid (opB ⟨kind, ky, vl, n⟩ = false) := by unfold Hid opB; simp; omega
  have HV : Hid (decide (vl.length ≤ 20) = false) := by simpa [Hid] using hv
  have h0 : ¬ kind < 0 := by omega
  have h7 : ¬ 7 < kind := by omega
  clear hv
  go_enter Try.func33, Try.ntmps33
  go_wp2_with (first | (go_at_call 29; refine (l2valV vv vl _ (rv.ext (hE _ _))).mono ?_; rintro e w1 ⟨rfl, rfl⟩; rw [HV.out]) | fail)
  go_ret
  exact ⟨by rw [HB.out]; rfl, hB _ _⟩

set_option maxHeartbeats 1000000 in
theorem opOk_n (kv vv : Value) (ky vl : List Int) (n : Int) (w : World) (_rk : RV w kv ky) (rv : RV w vv vl) (kind : Int) (hk0 : 0 ≤ kind) (hk1 : kind ≤ 7) (hv : vl.length ≤ 20) (hn : n < 0 ∨ 1000000 < n) :
    Calls Try.prog 33 #[.agg #[.int .i64 kind, kv, vv, .int .i64 n]] w fun e w' => e = .returned (.bool (opB ⟨kind, ky, vl, n⟩)) ∧ Below w.heap.size w w' := by
  have hE : ∀ w : World, ∀ o, Ext w (w.alloc o) := fun w o => World.grownBy_alloc _ _ _
  have hB : ∀ w : World, ∀ o, Below w.heap.size w (w.alloc o) := fun w o => (Below.refl _ w).alloc (Nat.le_refl _) _
  have HB : Hid (opB ⟨kind, ky, vl, n⟩ = false) := by unfold Hid opB; rcases hn with h | h <;> simp <;> omega
  have HV : Hid (decide (vl.length ≤ 20) = true) := by simpa [Hid] using hv
  have HI : Hid ((decide (0 ≤ n) && decide (n ≤ 1000000)) = false) := by unfold Hid; rcases hn with h | h <;> simp <;> omega
  have h0 : ¬ kind < 0 := by omega
  have h7 : ¬ 7 < kind := by omega
  clear hv hn
  go_enter Try.func33, Try.ntmps33
  go_wp2_with (first | (go_at_call 29; refine (l2valV vv vl _ (rv.ext (hE _ _))).mono ?_; rintro e w1 ⟨rfl, rfl⟩; rw [HV.out]) | (go_at_call 27; refine (l2indexV n _).mono ?_; rintro e w1 ⟨rfl, rfl⟩; rw [HI.out]) | fail)
  go_ret
  exact ⟨by rw [HB.out]; rfl, hB _ _⟩

set_option maxHeartbeats 1000000 in
theorem opOk_0kf (kv vv : Value) (ky vl : List Int) (n : Int) (w : World) (rk : RV w kv ky) (rv : RV w vv vl) (hv : vl.length ≤ 20) (hn1 : 0 ≤ n) (hn2 : n ≤ 1000000) (hkey : 0 < ky.length) :
    Calls Try.prog 33 #[.agg #[.int .i64 0, kv, vv, .int .i64 n]] w fun e w' => e = .returned (.bool (opB ⟨0, ky, vl, n⟩)) ∧ Below w.heap.size w w' := by
  have hE : ∀ w : World, ∀ o, Ext w (w.alloc o) := fun w o => World.grownBy_alloc _ _ _
  have hB : ∀ w : World, ∀ o, Below w.heap.size w (w.alloc o) := fun w o => (Below.refl _ w).alloc (Nat.le_refl _) _
  have HV : Hid (decide (vl.length ≤ 20) = true) := by simpa [Hid] using hv
  have HI : Hid ((decide (0 ≤ n) && decide (n ≤ 1000000)) = true) := by unfold Hid; simp; omega
  have HB : Hid (opB ⟨0, ky, vl, n⟩ = false) := (opB_0 ky vl n).trans (b6_4 (decide_eq_false (by omega)))
  obtain ⟨ka, kc, rfl, hkd, _, hkm⟩ := id rk
  obtain ⟨va, vc, rfl, hvd, _, hvm⟩ := id rv
  have hkm1 : ky.length ≤ 9223372036854775807 := by unfold maxLen at hkm; omega
  have hkey' : (0 : Int) < (ky.length : Int) := by omega
  clear hkey
  go_enter Try.func33, Try.ntmps33
  go_wp2_with (first | (go_at_call 29; refine (l2valV _ vl _ (rv.ext (hE _ _))).mono ?_; rintro e w1 ⟨rfl, rfl⟩; rw [HV.out]) | (go_at_call 27; refine (l2indexV _ _).mono ?_; rintro e w1 ⟨rfl, rfl⟩; rw [HI.out]) | fail)
  go_ret
  exact ⟨by rw [HB.out]; rfl, hB _ _⟩

set_option maxHeartbeats 1000000 in
theorem opOk_0vf (kv vv : Value) (ky vl : List Int) (n : Int) (w : World) (rk : RV w kv ky) (rv : RV w vv vl) (hv : vl.length ≤ 20) (hn1 : 0 ≤ n) (hn2 : n ≤ 1000000) (hkey : ky.length = 0) (hval : 0 < vl.length) :
    Calls Try.prog 33 #[.agg #[.int .i64 0, kv, vv, .int .i64 n]] w fun e w' => e = .returned (.bool (opB ⟨0, ky, vl, n⟩)) ∧ Below w.heap.size w w' := by
  have hE : ∀ w : World, ∀ o, Ext w (w.alloc o) := fun w o => World.grownBy_alloc _ _ _
  have hB : ∀ w : World, ∀ o, Below w.heap.size w (w.alloc o) := fun w o => (Below.refl _ w).alloc (Nat.le_refl _) _
  have HV : Hid (decide (vl.length ≤ 20) = true) := by simpa [Hid] using hv
  have HI : Hid ((decide (0 ≤ n) && decide (n ≤ 1000000)) = true) := by unfold Hid; simp; omega
  have HB : Hid (opB ⟨0, ky, vl, n⟩ = false) := (opB_0 ky vl n).trans (b6_5 (decide_eq_false (by omega)))
  obtain ⟨ka, kc, rfl, hkd, _, hkm⟩ := id rk
  obtain ⟨va, vc, rfl, hvd, _, hvm⟩ := id rv
  have hkm1 : ky.length ≤ 9223372036854775807 := by unfold maxLen at hkm; omega
  have hkey' : ¬ (0 : Int) < (ky.length : Int) := by omega
  have hval' : (0 : Int) < (vl.length : Int) := by omega
  clear hkey hval
  go_enter Try.func33, Try.ntmps33
  go_wp2_with (first | (go_at_call 29; refine (l2valV _ vl _ (rv.ext (hE _ _))).mono ?_; rintro e w1 ⟨rfl, rfl⟩; rw [HV.out]) | (go_at_call 27; refine (l2indexV _ _).mono ?_; rintro e w1 ⟨rfl, rfl⟩; rw [HI.out]) | fail)
  go_ret
  exact ⟨by rw [HB.out]; rfl, hB _ _⟩

set_option maxHeartbeats 1000000 in
theorem opOk_0n0 (kv vv : Value) (ky vl : List Int) (n : Int) (w : World) (rk : RV w kv ky) (rv : RV w vv vl) (hv : vl.length ≤ 20) (hn1 : 0 ≤ n) (hn2 : n ≤ 1000000) (hkey : ky.length = 0) (hval : vl.length = 0) (hn0 : n = 0) :
    Calls Try.prog 33 #[.agg #[.int .i64 0, kv, vv, .int .i64 n]] w fun e w' => e = .returned (.bool (opB ⟨0, ky, vl, n⟩)) ∧ Below w.heap.size w w' := by
  have hE : ∀ w : World, ∀ o, Ext w (w.alloc o) := fun w o => World.grownBy_alloc _ _ _
  have hB : ∀ w : World, ∀ o, Below w.heap.size w (w.alloc o) := fun w o => (Below.refl _ w).alloc (Nat.le_refl _) _
  have HV : Hid (decide (vl.length ≤ 20) = true) := by simpa [Hid] using hv
  have HI : Hid ((decide (0 ≤ n) && decide (n ≤ 1000000)) = true) := by unfold Hid; simp; omega
  have HB : Hid (opB ⟨0, ky, vl, n⟩ = true) := (opB_0 ky vl n).trans (b6_t (decide_eq_true hv) (decide_eq_true hn1) (decide_eq_true hn2) (decide_eq_true hkey) (decide_eq_true hval) (decide_eq_true hn0))
  subst hn0
  obtain ⟨ka, kc, rfl, hkd, _, hkm⟩ := id rk
  obtain ⟨va, vc, rfl, hvd, _, hvm⟩ := id rv
  have hkm1 : ky.length ≤ 9223372036854775807 := by unfold maxLen at hkm; omega
  have hkey' : ¬ (0 : Int) < (ky.length : Int) := by omega
  have hval' : ¬ (0 : Int) < (vl.length : Int) := by omega
  clear hkey hval
  go_enter Try.func33, Try.ntmps33
  go_wp2_with (first | (go_at_call 29; refine (l2valV _ vl _ (rv.ext (hE _ _))).mono ?_; rintro e w1 ⟨rfl, rfl⟩; rw [HV.out]) | (go_at_call 27; refine (l2indexV _ _).mono ?_; rintro e w1 ⟨rfl, rfl⟩; rw [HI.out]) | fail)
  go_ret
  exact ⟨by rw [HB.out]; rfl, hB _ _⟩

set_option maxHeartbeats 1000000 in
theorem opOk_0n1 (kv vv : Value) (ky vl : List Int) (n : Int) (w : World) (rk : RV w kv ky) (rv : RV w vv vl) (hv : vl.length ≤ 20) (hn1 : 0 ≤ n) (hn2 : n ≤ 1000000) (hkey : ky.length = 0) (hval : vl.length = 0) (hn0 : ¬ n = 0) :
    Calls Try.prog 33 #[.agg #[.int .i64 0, kv, vv, .int .i64 n]] w fun e w' => e = .returned (.bool (opB ⟨0, ky, vl, n⟩)) ∧ Below w.heap.size w w' := by
  have hE : ∀ w : World, ∀ o, Ext w (w.alloc o) := fun w o => World.grownBy_alloc _ _ _
  have hB : ∀ w : World, ∀ o, Below w.heap.size w (w.alloc o) := fun w o => (Below.refl _ w).alloc (Nat.le_refl _) _
  have HV : Hid (decide (vl.length ≤ 20) = true) := by simpa [Hid] using hv
  have HI : Hid ((decide (0 ≤ n) && decide (n ≤ 1000000)) = true) := by unfold Hid; simp; omega
  have HB : Hid (opB ⟨0, ky, vl, n⟩ = false) := (opB_0 ky vl n).trans (b6_6 (decide_eq_false hn0))
  have hn0' : (n == 0) = false := by simpa using hn0
  obtain ⟨ka, kc, rfl, hkd, _, hkm⟩ := id rk
  obtain ⟨va, vc, rfl, hvd, _, hvm⟩ := id rv
  have hkm1 : ky.length ≤ 9223372036854775807 := by unfold maxLen at hkm; omega
  have hkey' : ¬ (0 : Int) < (ky.length : Int) := by omega
  have hval' : ¬ (0 : Int) < (vl.length : Int) := by omega
  clear hkey hval
  go_enter Try.func33, Try.ntmps33
  go_wp2_with (first | (go_at_call 29; refine (l2valV _ vl _ (rv.ext (hE _ _))).mono ?_; rintro e w1 ⟨rfl, rfl⟩; rw [HV.out]) | (go_at_call 27; refine (l2indexV _ _).mono ?_; rintro e w1 ⟨rfl, rfl⟩; rw [HI.out]) | fail)
  go_ret
  exact ⟨by rw [HB.out]; rfl, hB _ _⟩

set_option maxHeartbeats 1000000 in
theorem opOk_1kf (kv vv : Value) (ky vl : List Int) (n : Int) (w : World) (rk : RV w kv ky) (rv : RV w vv vl) (hv : vl.length ≤ 20) (hn1 : 0 ≤ n) (hn2 : n ≤ 1000000) (hkey : keyB ky = false) :
    Calls Try.prog 33 #[.agg #[.int .i64 1, kv, vv, .int .i64 n]] w fun e w' => e = .returned (.bool (opB ⟨1, ky, vl, n⟩)) ∧ Below w.heap.size w w' := by
  have hE : ∀ w : World, ∀ o, Ext w (w.alloc o) := fun w o => World.grownBy_alloc _ _ _
  have hB : ∀ w : World, ∀ o, Below w.heap.size w (w.alloc o) := fun w o => (Below.refl _ w).alloc (Nat.le_refl _) _
  have HV : Hid (decide (vl.length ≤ 20) = true) := by simpa [Hid] using hv
  have HI : Hid ((decide (0 ≤ n) && decide (n ≤ 1000000)) = true) := by unfold Hid; simp; omega
  have HB : Hid (opB ⟨1, ky, vl, n⟩ = false) := (opB_1 ky vl n).trans (b6_4 hkey)
  have HK : Hid (keyB ky = false) := hkey
  obtain ⟨ka, kc, rfl, hkd, _, hkm⟩ := id rk
  obtain ⟨va, vc, rfl, hvd, _, hvm⟩ := id rv
  have hkm1 : ky.length ≤ 9223372036854775807 := by unfold maxLen at hkm; omega
  clear hkey
  go_enter Try.func33, Try.ntmps33
  go_wp2_with (first | (go_at_call 29; refine (l2valV _ vl _ (rv.ext (hE _ _))).mono ?_; rintro e w1 ⟨rfl, rfl⟩; rw [HV.out]) | (go_at_call 27; refine (l2indexV _ _).mono ?_; rintro e w1 ⟨rfl, rfl⟩; rw [HI.out]) | (go_at_call 28; refine (l2keyV _ ky _ (rk.ext (hE _ _))).mono ?_; rintro e w1 ⟨rfl, rfl⟩; rw [HK.out]) | fail)
  go_ret
  exact ⟨by rw [HB.out]; rfl, hB _ _⟩

set_option maxHeartbeats 1000000 in
theorem opOk_1n0 (kv vv : Value) (ky vl : List Int) (n : Int) (w : World) (rk : RV w kv ky) (rv : RV w vv vl) (hv : vl.length ≤ 20) (hn1 : 0 ≤ n) (hn2 : n ≤ 1000000) (hkey : keyB ky = true) (hn0 : n = 0) :
    Calls Try.prog 33 #[.agg #[.int .i64 1, kv, vv, .int .i64 n]] w fun e w' => e = .returned (.bool (opB ⟨1, ky, vl, n⟩)) ∧ Below w.heap.size w w' := by
  have hE : ∀ w : World, ∀ o, Ext w (w.alloc o) := fun w o => World.grownBy_alloc _ _ _
  have hB : ∀ w : World, ∀ o, Below w.heap.size w (w.alloc o) := fun w o => (Below.refl _ w).alloc (Nat.le_refl _) _
  have HV : Hid (decide (vl.length ≤ 20) = true) := by simpa [Hid] using hv
  have HI : Hid ((decide (0 ≤ n) && decide (n ≤ 1000000)) = true) := by unfold Hid; simp; omega
  have HB : Hid (opB ⟨1, ky, vl, n⟩ = true) := (opB_1 ky vl n).trans (b6_t (decide_eq_true hv) (decide_eq_true hn1) (decide_eq_true hn2) hkey rfl (decide_eq_true hn0))
  have HK : Hid (keyB ky = true) := hkey
  subst hn0
  obtain ⟨ka, kc, rfl, hkd, _, hkm⟩ := id rk
  obtain ⟨va, vc, rfl, hvd, _, hvm⟩ := id rv
  have hkm1 : ky.length ≤ 9223372036854775807 := by unfold maxLen at hkm; omega
  clear hkey
  go_enter Try.func33, Try.ntmps33
  go_wp2_with (first | (go_at_call 29; refine (l2valV _ vl _ (rv.ext (hE _ _))).mono ?_; rintro e w1 ⟨rfl, rfl⟩; rw [HV.out]) | (go_at_call 27; refine (l2indexV _ _).mono ?_; rintro e w1 ⟨rfl, rfl⟩; rw [HI.out]) | (go_at_call 28; refine (l2keyV _ ky _ (rk.ext (hE _ _))).mono ?_; rintro e w1 ⟨rfl, rfl⟩; rw [HK.out]) | fail)
  go_ret
  exact ⟨by rw [HB.out]; rfl, hB _ _⟩

set_option maxHeartbeats 1000000 in
theorem opOk_1n1 (kv vv : Value) (ky vl : List Int) (n : Int) (w : World) (rk : RV w kv ky) (rv : RV w vv vl) (hv : vl.length ≤ 20) (hn1 : 0 ≤ n) (hn2 : n ≤ 1000000) (hkey : keyB ky = true) (hn0 : ¬ n = 0) :
    Calls Try.prog 33 #[.agg #[.int .i64 1, kv, vv, .int .i64 n]] w fun e w' => e = .returned (.bool (opB ⟨1, ky, vl, n⟩)) ∧ Below w.heap.size w w' := by
  have hE : ∀ w : World, ∀ o, Ext w (w.alloc o) := fun w o => World.grownBy_alloc _ _ _
  have hB : ∀ w : World, ∀ o, Below w.heap.size w (w.alloc o) := fun w o => (Below.refl _ w).alloc (Nat.le_refl _) _
  have HV : Hid (decide (vl.length ≤ 20) = true) := by simpa [Hid] using hv
  have HI : Hid ((decide (0 ≤ n) && decide (n ≤ 1000000)) = true) := by unfold Hid; simp; omega
  have HB : Hid (opB ⟨1, ky, vl, n⟩ = false) := (opB_1 ky vl n).trans (b6_6 (decide_eq_false hn0))
  have HK : Hid (keyB ky = true) := hkey
  have hn0' : (n == 0) = false := by simpa using hn0
  obtain ⟨ka, kc, rfl, hkd, _, hkm⟩ := id rk
  obtain ⟨va, vc, rfl, hvd, _, hvm⟩ := id rv
  have hkm1 : ky.length ≤ 9223372036854775807 := by unfold maxLen at hkm; omega
  clear hkey
  go_enter Try.func33, Try.ntmps33
  go_wp2_with (first | (go_at_call 29; refine (l2valV _ vl _ (rv.ext (hE _ _))).mono ?_; rintro e w1 ⟨rfl, rfl⟩; rw [HV.out]) | (go_at_call 27; refine (l2indexV _ _).mono ?_; rintro e w1 ⟨rfl, rfl⟩; rw [HI.out]) | (go_at_call 28; refine (l2keyV _ ky _ (rk.ext (hE _ _))).mono ?_; rintro e w1 ⟨rfl, rfl⟩; rw [HK.out]) | fail)
  go_ret
  exact ⟨by rw [HB.out]; rfl, hB _ _⟩

set_option maxHeartbeats 1000000 in
theorem opOk_2kf (kv vv : Value) (ky vl : List Int) (n : Int) (w : World) (rk : RV w kv ky) (rv : RV w vv vl) (hv : vl.length ≤ 20) (hn1 : 0 ≤ n) (hn2 : n ≤ 1000000) (hkey : keyB ky = false) :
    Calls Try.prog 33 #[.agg #[.int .i64 2, kv, vv, .int .i64 n]] w fun e w' => e = .returned (.bool (opB ⟨2, ky, vl, n⟩)) ∧ Below w.heap.size w w' := by
  have hE : ∀ w : World, ∀ o, Ext w (w.alloc o) := fun w o => World.grownBy_alloc _ _ _
  have hB : ∀ w : World, ∀ o, Below w.heap.size w (w.alloc o) := fun w o => (Below.refl _ w).alloc (Nat.le_refl _) _
  have HV : Hid (decide (vl.length ≤ 20) = true) := by simpa [Hid] using hv
  have HI : Hid ((decide (0 ≤ n) && decide (n ≤ 1000000)) = true) := by unfold Hid; simp; omega
  have HB : Hid (opB ⟨2, ky, vl, n⟩ = false) := (opB_2 ky vl n).trans (b6_4 hkey)
  have HK : Hid (keyB ky = false) := hkey
  obtain ⟨ka, kc, rfl, hkd, _, hkm⟩ := id rk
  obtain ⟨va, vc, rfl, hvd, _, hvm⟩ := id rv
  have hkm1 : ky.length ≤ 9223372036854775807 := by unfold maxLen at hkm; omega
  clear hkey
  go_enter Try.func33, Try.ntmps33
  go_wp2_with (first | (go_at_call 29; refine (l2valV _ vl _ (rv.ext (hE _ _))).mono ?_; rintro e w1 ⟨rfl, rfl⟩; rw [HV.out]) | (go_at_call 27; refine (l2indexV _ _).mono ?_; rintro e w1 ⟨rfl, rfl⟩; rw [HI.out]) | (go_at_call 28; refine (l2keyV _ ky _ (rk.ext (hE _ _))).mono ?_; rintro e w1 ⟨rfl, rfl⟩; rw [HK.out]) | fail)
  go_ret
  exact ⟨by rw [HB.out]; rfl, hB _ _⟩

set_option maxHeartbeats 1000000 in
theorem opOk_2n0 (kv vv : Value) (ky vl : List Int) (n : Int) (w : World) (rk : RV w kv ky) (rv : RV w vv vl) (hv : vl.length ≤ 20) (hn1 : 0 ≤ n) (hn2 : n ≤ 1000000) (hkey : keyB ky = true) :
    Calls Try.prog 33 #[.agg #[.int .i64 2, kv, vv, .int .i64 n]] w fun e w' => e = .returned (.bool (opB ⟨2, ky, vl, n⟩)) ∧ Below w.heap.size w w' := by
  have hE : ∀ w : World, ∀ o, Ext w (w.alloc o) := fun w o => World.grownBy_alloc _ _ _
  have hB : ∀ w : World, ∀ o, Below w.heap.size w (w.alloc o) := fun w o => (Below.refl _ w).alloc (Nat.le_refl _) _
  have HV : Hid (decide (vl.length ≤ 20) = true) := by simpa [Hid] using hv
  have HI : Hid ((decide (0 ≤ n) && decide (n ≤ 1000000)) = true) := by unfold Hid; simp; omega
  have HB : Hid (opB ⟨2, ky, vl, n⟩ = true) := (opB_2 ky vl n).trans (b6_t (decide_eq_true hv) (decide_eq_true hn1) (decide_eq_true hn2) hkey rfl rfl)
  have HK : Hid (keyB ky = true) := hkey
  obtain ⟨ka, kc, rfl, hkd, _, hkm⟩ := id rk
  obtain ⟨va, vc, rfl, hvd, _, hvm⟩ := id rv
  have hkm1 : ky.length ≤ 9223372036854775807 := by unfold maxLen at hkm; omega
  clear hkey
  go_enter Try.func33, Try.ntmps33
  go_wp2_with (first | (go_at_call 29; refine (l2valV _ vl _ (rv.ext (hE _ _))).mono ?_; rintro e w1 ⟨rfl, rfl⟩; rw [HV.out]) | (go_at_call 27; refine (l2indexV _ _).mono ?_; rintro e w1 ⟨rfl, rfl⟩; rw [HI.out]) | (go_at_call 28; refine (l2keyV _ ky _ (rk.ext (hE _ _))).mono ?_; rintro e w1 ⟨rfl, rfl⟩; rw [HK.out]) | fail)
  go_ret
  exact ⟨by rw [HB.out]; rfl, hB _ _⟩

set_option maxHeartbeats 1000000 in
theorem opOk_3kf (kv vv : Value) (ky vl : List Int) (n : Int) (w : World) (rk : RV w kv ky) (rv : RV w vv vl) (hv : vl.length ≤ 20) (hn1 : 0 ≤ n) (hn2 : n ≤ 1000000) (hkey : keyB ky = false) :
    Calls Try.prog 33 #[.agg #[.int .i64 3, kv, vv, .int .i64 n]] w fun e w' => e = .returned (.bool (opB ⟨3, ky, vl, n⟩)) ∧ Below w.heap.size w w' := by
  have hE : ∀ w : World, ∀ o, Ext w (w.alloc o) := fun w o => World.grownBy_alloc _ _ _
  have hB : ∀ w : World, ∀ o, Below w.heap.size w (w.alloc o) := fun w o => (Below.refl _ w).alloc (Nat.le_refl _) _
  have HV : Hid (decide (vl.length ≤ 20) = true) := by simpa [Hid] using hv
  have HI : Hid ((decide (0 ≤ n) && decide (n ≤ 1000000)) = true) := by unfold Hid; simp; omega
  have HB : Hid (opB ⟨3, ky, vl, n⟩ = false) := (opB_3 ky vl n).trans (b6_4 hkey)
  have HK : Hid (keyB ky = false) := hkey
  obtain ⟨ka, kc, rfl, hkd, _, hkm⟩ := id rk
  obtain ⟨va, vc, rfl, hvd, _, hvm⟩ := id rv
  have hkm1 : ky.length ≤ 9223372036854775807 := by unfold maxLen at hkm; omega
  clear hkey
  go_enter Try.func33, Try.ntmps33
  go_wp2_with (first | (go_at_call 29; refine (l2valV _ vl _ (rv.ext (hE _ _))).mono ?_; rintro e w1 ⟨rfl, rfl⟩; rw [HV.out]) | (go_at_call 27; refine (l2indexV _ _).mono ?_; rintro e w1 ⟨rfl, rfl⟩; rw [HI.out]) | (go_at_call 28; refine (l2keyV _ ky _ (rk.ext (hE _ _))).mono ?_; rintro e w1 ⟨rfl, rfl⟩; rw [HK.out]) | fail)
  go_ret
  exact ⟨by rw [HB.out]; rfl, hB _ _⟩

set_option maxHeartbeats 1000000 in
theorem opOk_3vf (kv vv : Value) (ky vl : List Int) (n : Int) (w : World) (rk : RV w kv ky) (rv : RV w vv vl) (hv : vl.length ≤ 20) (hn1 : 0 ≤ n) (hn2 : n ≤ 1000000) (hkey : keyB ky = true) (hval : 0 < vl.length) :
    Calls Try.prog 33 #[.agg #[.int .i64 3, kv, vv, .int .i64 n]] w fun e w' => e = .returned (.bool (opB ⟨3, ky, vl, n⟩)) ∧ Below w.heap.size w w' := by
  have hE : ∀ w : World, ∀ o, Ext w (w.alloc o) := fun w o => World.grownBy_alloc _ _ _
  have hB : ∀ w : World, ∀ o, Below w.heap.size w (w.alloc o) := fun w o => (Below.refl _ w).alloc (Nat.le_refl _) _
  have HV : Hid (decide (vl.length ≤ 20) = true) := by simpa [Hid] using hv
  have HI : Hid ((decide (0 ≤ n) && decide (n ≤ 1000000)) = true) := by unfold Hid; simp; omega
  have HB : Hid (opB ⟨3, ky, vl, n⟩ = false) := (opB_3 ky vl n).trans (b6_5 (decide_eq_false (by omega)))
  have HK : Hid (keyB ky = true) := hkey
  obtain ⟨ka, kc, rfl, hkd, _, hkm⟩ := id rk
  obtain ⟨va, vc, rfl, hvd, _, hvm⟩ := id rv
  have hkm1 : ky.length ≤ 9223372036854775807 := by unfold maxLen at hkm; omega
  have hval' : (0 : Int) < (vl.length : Int) := by omega
  clear hkey hval
  go_enter Try.func33, Try.ntmps33
  go_wp2_with (first | (go_at_call 29; refine (l2valV _ vl _ (rv.ext (hE _ _))).mono ?_; rintro e w1 ⟨rfl, rfl⟩; rw [HV.out]) | (go_at_call 27; refine (l2indexV _ _).mono ?_; rintro e w1 ⟨rfl, rfl⟩; rw [HI.out]) | (go_at_call 28; refine (l2keyV _ ky _ (rk.ext (hE _ _))).mono ?_; rintro e w1 ⟨rfl, rfl⟩; rw [HK.out]) | fail)
  go_ret
  exact ⟨by rw [HB.out]; rfl, hB _ _⟩

set_option maxHeartbeats 1000000 in
theorem opOk_3n0 (kv vv : Value) (ky vl : List Int) (n : Int) (w : World) (rk : RV w kv ky) (rv : RV w vv vl) (hv : vl.length ≤ 20) (hn1 : 0 ≤ n) (hn2 : n ≤ 1000000) (hkey : keyB ky = true) (hval : vl.length = 0) (hn0 : n = 0) :
    Calls Try.prog 33 #[.agg #[.int .i64 3, kv, vv, .int .i64 n]] w fun e w' => e = .returned (.bool (opB ⟨3, ky, vl, n⟩)) ∧ Below w.heap.size w w' := by
  have hE : ∀ w : World, ∀ o, Ext w (w.alloc o) := fun w o => World.grownBy_alloc _ _ _
  have hB : ∀ w : World, ∀ o, Below w.heap.size w (w.alloc o) := fun w o => (Below.refl _ w).alloc (Nat.le_refl _) _
  have HV : Hid (decide (vl.length ≤ 20) = true) := by simpa [Hid] using hv
  have HI : Hid ((decide (0 ≤ n) && decide (n ≤ 1000000)) = true) := by unfold Hid; simp; omega
  have HB : Hid (opB ⟨3, ky, vl, n⟩ = true) := (opB_3 ky vl n).trans (b6_t (decide_eq_true hv) (decide_eq_true hn1) (decide_eq_true hn2) hkey (decide_eq_true hval) (decide_eq_true hn0))
  have HK : Hid (keyB ky = true) := hkey
  subst hn0
  obtain ⟨ka, kc, rfl, hkd, _, hkm⟩ := id rk
  obtain ⟨va, vc, rfl, hvd, _, hvm⟩ := id rv
  have hkm1 : ky.length ≤ 9223372036854775807 := by unfold maxLen at hkm; omega
  have hval' : ¬ (0 : Int) < (vl.length : Int) := by omega
  clear hkey hval
  go_enter Try.func33, Try.ntmps33
  go_wp2_with (first | (go_at_call 29; refine (l2valV _ vl _ (rv.ext (hE _ _))).mono ?_; rintro e w1 ⟨rfl, rfl⟩; rw [HV.out]) | (go_at_call 27; refine (l2indexV _ _).mono ?_; rintro e w1 ⟨rfl, rfl⟩; rw [HI.out]) | (go_at_call 28; refine (l2keyV _ ky _ (rk.ext (hE _ _))).mono ?_; rintro e w1 ⟨rfl, rfl⟩; rw [HK.out]) | fail)
  go_ret
  exact ⟨by rw [HB.out]; rfl, hB _ _⟩

set_option maxHeartbeats 1000000 in
theorem opOk_3n1 (kv vv : Value) (ky vl : List Int) (n : Int) (w : World) (rk : RV w kv ky) (rv : RV w vv vl) (hv : vl.length ≤ 20) (hn1 : 0 ≤ n) (hn2 : n ≤ 1000000) (hkey : keyB ky = true) (hval : vl.length = 0) (hn0 : ¬ n = 0) :
    Calls Try.prog 33 #[.agg #[.int .i64 3, kv, vv, .int .i64 n]] w fun e w' => e = .returned (.bool (opB ⟨3, ky, vl, n⟩)) ∧ Below w.heap.size w w' := by
  have hE : ∀ w : World, ∀ o, Ext w (w.alloc o) := fun w o => World.grownBy_alloc _ _ _
  have hB : ∀ w : World, ∀ o, Below w.heap.size w (w.alloc o) := fun w o => (Below.refl _ w).alloc (Nat.le_refl _) _
  have HV : Hid (decide (vl.length ≤ 20) = true) := by simpa [Hid] using hv
  have HI : Hid ((decide (0 ≤ n) && decide (n ≤ 1000000)) = true) := by unfold Hid; simp; omega
  have HB : Hid (opB ⟨3, ky, vl, n⟩ = false) := (opB_3 ky vl n).trans (b6_6 (decide_eq_false hn0))
  have HK : Hid (keyB ky = true) := hkey
  have hn0' : (n == 0) = false := by simpa using hn0
  obtain ⟨ka, kc, rfl, hkd, _, hkm⟩ := id rk
  obtain ⟨va, vc, rfl, hvd, _, hvm⟩ := id rv
  have hkm1 : ky.length ≤ 9223372036854775807 := by unfold maxLen at hkm; omega
  have hval' : ¬ (0 : Int) < (vl.length : Int) := by omega
  clear hkey hval
  go_enter Try.func33, Try.ntmps33
  go_wp2_with (first | (go_at_call 29; refine (l2valV _ vl _ (rv.ext (hE _ _))).mono ?_; rintro e w1 ⟨rfl, rfl⟩; rw [HV.out]) | (go_at_call 27; refine (l2indexV _ _).mono ?_; rintro e w1 ⟨rfl, rfl⟩; rw [HI.out]) | (go_at_call 28; refine (l2keyV _ ky _ (rk.ext (hE _ _))).mono ?_; rintro e w1 ⟨rfl, rfl⟩; rw [HK.out]) | fail)
  go_ret
  exact ⟨by rw [HB.out]; rfl, hB _ _⟩

set_option maxHeartbeats 1000000 in
theorem opOk_4kf (kv vv : Value) (ky vl : List Int) (n : Int) (w : World) (rk : RV w kv ky) (rv : RV w vv vl) (hv : vl.length ≤ 20) (hn1 : 0 ≤ n) (hn2 : n ≤ 1000000) (hkey : 0 < ky.length) :
    Calls Try.prog 33 #[.agg #[.int .i64 4, kv, vv, .int .i64 n]] w fun e w' => e = .returned (.bool (opB ⟨4, ky, vl, n⟩)) ∧ Below w.heap.size w w' := by
  have hE : ∀ w : World, ∀ o, Ext w (w.alloc o) := fun w o => World.grownBy_alloc _ _ _
  have hB : ∀ w : World, ∀ o, Below w.heap.size w (w.alloc o) := fun w o => (Below.refl _ w).alloc (Nat.le_refl _) _
  have HV : Hid (decide (vl.length ≤ 20) = true) := by simpa [Hid] using hv
  have HI : Hid ((decide (0 ≤ n) && decide (n ≤ 1000000)) = true) := by unfold Hid; simp; omega
  have HB : Hid (opB ⟨4, ky, vl, n⟩ = false) := (opB_4 ky vl n).trans (b6_4 (decide_eq_false (by omega)))
  obtain ⟨ka, kc, rfl, hkd, _, hkm⟩ := id rk
  obtain ⟨va, vc, rfl, hvd, _, hvm⟩ := id rv
  have hkm1 : ky.length ≤ 9223372036854775807 := by unfold maxLen at hkm; omega
  have hkey' : (0 : Int) < (ky.length : Int) := by omega
  clear hkey
  go_enter Try.func33, Try.ntmps33
  go_wp2_with (first | (go_at_call 29; refine (l2valV _ vl _ (rv.ext (hE _ _))).mono ?_; rintro e w1 ⟨rfl, rfl⟩; rw [HV.out]) | (go_at_call 27; refine (l2indexV _ _).mono ?_; rintro e w1 ⟨rfl, rfl⟩; rw [HI.out]) | fail)
  go_ret
  exact ⟨by rw [HB.out]; rfl, hB _ _⟩

set_option maxHeartbeats 1000000 in
theorem opOk_4vf (kv vv : Value) (ky vl : List Int) (n : Int) (w : World) (rk : RV w kv ky) (rv : RV w vv vl) (hv : vl.length ≤ 20) (hn1 : 0 ≤ n) (hn2 : n ≤ 1000000) (hkey : ky.length = 0) (hval : 0 < vl.length) :
    Calls Try.prog 33 #[.agg #[.int .i64 4, kv, vv, .int .i64 n]] w fun e w' => e = .returned (.bool (opB ⟨4, ky, vl, n⟩)) ∧ Below w.heap.size w w' := by
  have hE : ∀ w : World, ∀ o, Ext w (w.alloc o) := fun w o => World.grownBy_alloc _ _ _
  have hB : ∀ w : World, ∀ o, Below w.heap.size w (w.alloc o) := fun w o => (Below.refl _ w).alloc (Nat.le_refl _) _
  have HV : Hid (decide (vl.length ≤ 20) = true) := by simpa [Hid] using hv
  have HI : Hid ((decide (0 ≤ n) && decide (n ≤ 1000000)) = true) := by unfold Hid; simp; omega
  have HB : Hid (opB ⟨4, ky, vl, n⟩ = false) := (opB_4 ky vl n).trans (b6_5 (decide_eq_false (by omega)))
  obtain ⟨ka, kc, rfl, hkd, _, hkm⟩ := id rk
  obtain ⟨va, vc, rfl, hvd, _, hvm⟩ := id rv
  have hkm1 : ky.length ≤ 9223372036854775807 := by unfold maxLen at hkm; omega
  have hkey' : ¬ (0 : Int) < (ky.length : Int) := by omega
  have hval' : (0 : Int) < (vl.length : Int) := by omega
  clear hkey hval
  go_enter Try.func33, Try.ntmps33
  go_wp2_with (first | (go_at_call 29; refine (l2valV _ vl _ (rv.ext (hE _ _))).mono ?_; rintro e w1 ⟨rfl, rfl⟩; rw [HV.out]) | (go_at_call 27; refine (l2indexV _ _).mono ?_; rintro e w1 ⟨rfl, rfl⟩; rw [HI.out]) | fail)
  go_ret
  exact ⟨by rw [HB.out]; rfl, hB _ _⟩

set_option maxHeartbeats 1000000 in
theorem opOk_4n0 (kv vv : Value) (ky vl : List Int) (n : Int) (w : World) (rk : RV w kv ky) (rv : RV w vv vl) (hv : vl.length ≤ 20) (hn1 : 0 ≤ n) (hn2 : n ≤ 1000000) (hkey : ky.length = 0) (hval : vl.length = 0) (hn0 : n ≤ 1) :
    Calls Try.prog 33 #[.agg #[.int .i64 4, kv, vv, .int .i64 n]] w fun e w' => e = .returned (.bool (opB ⟨4, ky, vl, n⟩)) ∧ Below w.heap.size w w' := by
  have hE : ∀ w : World, ∀ o, Ext w (w.alloc o) := fun w o => World.grownBy_alloc _ _ _
  have hB : ∀ w : World, ∀ o, Below w.heap.size w (w.alloc o) := fun w o => (Below.refl _ w).alloc (Nat.le_refl _) _
  have HV : Hid (decide (vl.length ≤ 20) = true) := by simpa [Hid] using hv
  have HI : Hid ((decide (0 ≤ n) && decide (n ≤ 1000000)) = true) := by unfold Hid; simp; omega
  have HB : Hid (opB ⟨4, ky, vl, n⟩ = true) := (opB_4 ky vl n).trans (b6_t (decide_eq_true hv) (decide_eq_true hn1) (decide_eq_true hn2) (decide_eq_true hkey) (decide_eq_true hval) (decide_eq_true hn0))
  obtain ⟨ka, kc, rfl, hkd, _, hkm⟩ := id rk
  obtain ⟨va, vc, rfl, hvd, _, hvm⟩ := id rv
  have hkm1 : ky.length ≤ 9223372036854775807 := by unfold maxLen at hkm; omega
  have hkey' : ¬ (0 : Int) < (ky.length : Int) := by omega
  have hval' : ¬ (0 : Int) < (vl.length : Int) := by omega
  clear hkey hval
  go_enter Try.func33, Try.ntmps33
  go_wp2_with (first | (go_at_call 29; refine (l2valV _ vl _ (rv.ext (hE _ _))).mono ?_; rintro e w1 ⟨rfl, rfl⟩; rw [HV.out]) | (go_at_call 27; refine (l2indexV _ _).mono ?_; rintro e w1 ⟨rfl, rfl⟩; rw [HI.out]) | fail)
  go_ret
  exact ⟨by rw [HB.out]; rfl, hB _ _⟩

set_option maxHeartbeats 1000000 in
theorem opOk_4n1 (kv vv : Value) (ky vl : List Int) (n : Int) (w : World) (rk : RV w kv ky) (rv : RV w vv vl) (hv : vl.length ≤ 20) (hn1 : 0 ≤ n) (hn2 : n ≤ 1000000) (hkey : ky.length = 0) (hval : vl.length = 0) (hn0 : ¬ n ≤ 1) :
    Calls Try.prog 33 #[.agg #[.int .i64 4, kv, vv, .int .i64 n]] w fun e w' => e = .returned (.bool (opB ⟨4, ky, vl, n⟩)) ∧ Below w.heap.size w w' := by
  have hE : ∀ w : World, ∀ o, Ext w (w.alloc o) := fun w o => World.grownBy_alloc _ _ _
  have hB : ∀ w : World, ∀ o, Below w.heap.size w (w.alloc o) := fun w o => (Below.refl _ w).alloc (Nat.le_refl _) _
  have HV : Hid (decide (vl.length ≤ 20) = true) := by simpa [Hid] using hv
  have HI : Hid ((decide (0 ≤ n) && decide (n ≤ 1000000)) = true) := by unfold Hid; simp; omega
  have HB : Hid (opB ⟨4, ky, vl, n⟩ = false) := (opB_4 ky vl n).trans (b6_6 (decide_eq_false hn0))
  have hd : decide (n ≤ 1) = false := decide_eq_false hn0
  obtain ⟨ka, kc, rfl, hkd, _, hkm⟩ := id rk
  obtain ⟨va, vc, rfl, hvd, _, hvm⟩ := id rv
  have hkm1 : ky.length ≤ 9223372036854775807 := by unfold maxLen at hkm; omega
  have hkey' : ¬ (0 : Int) < (ky.length : Int) := by omega
  have hval' : ¬ (0 : Int) < (vl.length : Int) := by omega
  clear hkey hval
  go_enter Try.func33, Try.ntmps33
  go_wp2_with (first | (go_at_call 29; refine (l2valV _ vl _ (rv.ext (hE _ _))).mono ?_; rintro e w1 ⟨rfl, rfl⟩; rw [HV.out]) | (go_at_call 27; refine (l2indexV _ _).mono ?_; rintro e w1 ⟨rfl, rfl⟩; rw [HI.out]) | fail)
  go_ret
  exact ⟨by rw [HB.out]; rfl, hB _ _⟩

set_option maxHeartbeats 1000000 in
theorem opOk_5kf (kv vv : Value) (ky vl : List Int) (n : Int) (w : World) (rk : RV w kv ky) (rv : RV w vv vl) (hv : vl.length ≤ 20) (hn1 : 0 ≤ n) (hn2 : n ≤ 1000000) (hkey : 0 < ky.length) :
    Calls Try.prog 33 #[.agg #[.int .i64 5, kv, vv, .int .i64 n]] w fun e w' => e = .returned (.bool (opB ⟨5, ky, vl, n⟩)) ∧ Below w.heap.size w w' := by
  have hE : ∀ w : World, ∀ o, Ext w (w.alloc o) := fun w o => World.grownBy_alloc _ _ _
  have hB : ∀ w : World, ∀ o, Below w.heap.size w (w.alloc o) := fun w o => (Below.refl _ w).alloc (Nat.le_refl _) _
  have HV : Hid (decide (vl.length ≤ 20) = true) := by simpa [Hid] using hv
  have HI : Hid ((decide (0 ≤ n) && decide (n ≤ 1000000)) = true) := by unfold Hid; simp; omega
  have HB : Hid (opB ⟨5, ky, vl, n⟩ = false) := (opB_5 ky vl n).trans (b6_4 (decide_eq_false (by omega)))
  obtain ⟨ka, kc, rfl, hkd, _, hkm⟩ := id rk
  obtain ⟨va, vc, rfl, hvd, _, hvm⟩ := id rv
  have hkm1 : ky.length ≤ 9223372036854775807 := by unfold maxLen at hkm; omega
  have hkey' : (0 : Int) < (ky.length : Int) := by omega
  clear hkey
  go_enter Try.func33, Try.ntmps33
  go_wp2_with (first | (go_at_call 29; refine (l2valV _ vl _ (rv.ext (hE _ _))).mono ?_; rintro e w1 ⟨rfl, rfl⟩; rw [HV.out]) | (go_at_call 27; refine (l2indexV _ _).mono ?_; rintro e w1 ⟨rfl, rfl⟩; rw [HI.out]) | fail)
  go_ret
  exact ⟨by rw [HB.out]; rfl, hB _ _⟩

set_option maxHeartbeats 1000000 in
theorem opOk_5vf (kv vv : Value) (ky vl : List Int) (n : Int) (w : World) (rk : RV w kv ky) (rv : RV w vv vl) (hv : vl.length ≤ 20) (hn1 : 0 ≤ n) (hn2 : n ≤ 1000000) (hkey : ky.length = 0) (hval : 0 < vl.length) :
    Calls Try.prog 33 #[.agg #[.int .i64 5, kv, vv, .int .i64 n]] w fun e w' => e = .returned (.bool (opB ⟨5, ky, vl, n⟩)) ∧ Below w.heap.size w w' := by
  have hE : ∀ w : World, ∀ o, Ext w (w.alloc o) := fun w o => World.grownBy_alloc _ _ _
  have hB : ∀ w : World, ∀ o, Below w.heap.size w (w.alloc o) := fun w o => (Below.refl _ w).alloc (Nat.le_refl _) _
  have HV : Hid (decide (vl.length ≤ 20) = true) := by simpa [Hid] using hv
  have HI : Hid ((decide (0 ≤ n) && decide (n ≤ 1000000)) = true) := by unfold Hid; simp; omega
  have HB : Hid (opB ⟨5, ky, vl, n⟩ = false) := (opB_5 ky vl n).trans (b6_5 (decide_eq_false (by omega)))
  obtain ⟨ka, kc, rfl, hkd, _, hkm⟩ := id rk
  obtain ⟨va, vc, rfl, hvd, _, hvm⟩ := id rv
  have hkm1 : ky.length ≤ 9223372036854775807 := by unfold maxLen at hkm; omega
  have hkey' : ¬ (0 : Int) < (ky.length : Int) := by omega
  have hval' : (0 : Int) < (vl.length : Int) := by omega
  clear hkey hval
  go_enter Try.func33, Try.ntmps33
  go_wp2_with (first | (go_at_call 29; refine (l2valV _ vl _ (rv.ext (hE _ _))).mono ?_; rintro e w1 ⟨rfl, rfl⟩; rw [HV.out]) | (go_at_call 27; refine (l2indexV _ _).mono ?_; rintro e w1 ⟨rfl, rfl⟩; rw [HI.out]) | fail)
  go_ret
  exact ⟨by rw [HB.out]; rfl, hB _ _⟩

set_option maxHeartbeats 1000000 in
theorem opOk_5n0 (kv vv : Value) (ky vl : List Int) (n : Int) (w : World) (rk : RV w kv ky) (rv : RV w vv vl) (hv : vl.length ≤ 20) (hn1 : 0 ≤ n) (hn2 : n ≤ 1000000) (hkey : ky.length = 0) (hval : vl.length = 0) (hn0 : 1 ≤ n) :
    Calls Try.prog 33 #[.agg #[.int .i64 5, kv, vv, .int .i64 n]] w fun e w' => e = .returned (.bool (opB ⟨5, ky, vl, n⟩)) ∧ Below w.heap.size w w' := by
  have hE : ∀ w : World, ∀ o, Ext w (w.alloc o) := fun w o => World.grownBy_alloc _ _ _
  have hB : ∀ w : World, ∀ o, Below w.heap.size w (w.alloc o) := fun w o => (Below.refl _ w).alloc (Nat.le_refl _) _
  have HV : Hid (decide (vl.length ≤ 20) = true) := by simpa [Hid] using hv
  have HI : Hid ((decide (0 ≤ n) && decide (n ≤ 1000000)) = true) := by unfold Hid; simp; omega
  have HB : Hid (opB ⟨5, ky, vl, n⟩ = true) := (opB_5 ky vl n).trans (b6_t (decide_eq_true hv) (decide_eq_true hn1) (decide_eq_true hn2) (decide_eq_true hkey) (decide_eq_true hval) (decide_eq_true hn0))
  obtain ⟨ka, kc, rfl, hkd, _, hkm⟩ := id rk
  obtain ⟨va, vc, rfl, hvd, _, hvm⟩ := id rv
  have hkm1 : ky.length ≤ 9223372036854775807 := by unfold maxLen at hkm; omega
  have hkey' : ¬ (0 : Int) < (ky.length : Int) := by omega
  have hval' : ¬ (0 : Int) < (vl.length : Int) := by omega
  clear hkey hval
  go_enter Try.func33, Try.ntmps33
  go_wp2_with (first | (go_at_call 29; refine (l2valV _ vl _ (rv.ext (hE _ _))).mono ?_; rintro e w1 ⟨rfl, rfl⟩; rw [HV.out]) | (go_at_call 27; refine (l2indexV _ _).mono ?_; rintro e w1 ⟨rfl, rfl⟩; rw [HI.out]) | fail)
  go_ret
  exact ⟨by rw [HB.out]; rfl, hB _ _⟩

set_option maxHeartbeats 1000000 in
theorem opOk_5n1 (kv vv : Value) (ky vl : List Int) (n : Int) (w : World) (rk : RV w kv ky) (rv : RV w vv vl) (hv : vl.length ≤ 20) (hn1 : 0 ≤ n) (hn2 : n ≤ 1000000) (hkey : ky.length = 0) (hval : vl.length = 0) (hn0 : ¬ 1 ≤ n) :
    Calls Try.prog 33 #[.agg #[.int .i64 5, kv, vv, .int .i64 n]] w fun e w' => e = .returned (.bool (opB ⟨5, ky, vl, n⟩)) ∧ Below w.heap.size w w' := by
  have hE : ∀ w : World, ∀ o, Ext w (w.alloc o) := fun w o => World.grownBy_alloc _ _ _
  have hB : ∀ w : World, ∀ o, Below w.heap.size w (w.alloc o) := fun w o => (Below.refl _ w).alloc (Nat.le_refl _) _
  have HV : Hid (decide (vl.length ≤ 20) = true) := by simpa [Hid] using hv
  have HI : Hid ((decide (0 ≤ n) && decide (n ≤ 1000000)) = true) := by unfold Hid; simp; omega
  have HB : Hid (opB ⟨5, ky, vl, n⟩ = false) := (opB_5 ky vl n).trans (b6_6 (decide_eq_false hn0))
  have hd : decide (1 ≤ n) = false := decide_eq_false hn0
  obtain ⟨ka, kc, rfl, hkd, _, hkm⟩ := id rk
  obtain ⟨va, vc, rfl, hvd, _, hvm⟩ := id rv
  have hkm1 : ky.length ≤ 9223372036854775807 := by unfold maxLen at hkm; omega
  have hkey' : ¬ (0 : Int) < (ky.length : Int) := by omega
  have hval' : ¬ (0 : Int) < (vl.length : Int) := by omega
  clear hkey hval
  go_enter Try.func33, Try.ntmps33
  go_wp2_with (first | (go_at_call 29; refine (l2valV _ vl _ (rv.ext (hE _ _))).mono ?_; rintro e w1 ⟨rfl, rfl⟩; rw [HV.out]) | (go_at_call 27; refine (l2indexV _ _).mono ?_; rintro e w1 ⟨rfl, rfl⟩; rw [HI.out]) | fail)
  go_ret
  exact ⟨by rw [HB.out]; rfl, hB _ _⟩

set_option maxHeartbeats 1000000 in
theorem opOk_6kf (kv vv : Value) (ky vl : List Int) (n : Int) (w : World) (rk : RV w kv ky) (rv : RV w vv vl) (hv : vl.length ≤ 20) (hn1 : 0 ≤ n) (hn2 : n ≤ 1000000) (hkey : keyB ky = false) :
    Calls Try.prog 33 #[.agg #[.int .i64 6, kv, vv, .int .i64 n]] w fun e w' => e = .returned (.bool (opB ⟨6, ky, vl, n⟩)) ∧ Below w.heap.size w w' := by
  have hE : ∀ w : World, ∀ o, Ext w (w.alloc o) := fun w o => World.grownBy_alloc _ _ _
  have hB : ∀ w : World, ∀ o, Below w.heap.size w (w.alloc o) := fun w o => (Below.refl _ w).alloc (Nat.le_refl _) _
  have HV : Hid (decide (vl.length ≤ 20) = true) := by simpa [Hid] using hv
  have HI : Hid ((decide (0 ≤ n) && decide (n ≤ 1000000)) = true) := by unfold Hid; simp; omega
  have HB : Hid (opB ⟨6, ky, vl, n⟩ = false) := (opB_6 ky vl n).trans (b6_4 hkey)
  have HK : Hid (keyB ky = false) := hkey
  obtain ⟨ka, kc, rfl, hkd, _, hkm⟩ := id rk
  obtain ⟨va, vc, rfl, hvd, _, hvm⟩ := id rv
  have hkm1 : ky.length ≤ 9223372036854775807 := by unfold maxLen at hkm; omega
  clear hkey
  go_enter Try.func33, Try.ntmps33
  go_wp2_with (first | (go_at_call 29; refine (l2valV _ vl _ (rv.ext (hE _ _))).mono ?_; rintro e w1 ⟨rfl, rfl⟩; rw [HV.out]) | (go_at_call 27; refine (l2indexV _ _).mono ?_; rintro e w1 ⟨rfl, rfl⟩; rw [HI.out]) | (go_at_call 28; refine (l2keyV _ ky _ (rk.ext (hE _ _))).mono ?_; rintro e w1 ⟨rfl, rfl⟩; rw [HK.out]) | fail)
  go_ret
  exact ⟨by rw [HB.out]; rfl, hB _ _⟩

set_option maxHeartbeats 1000000 in
theorem opOk_6n0 (kv vv : Value) (ky vl : List Int) (n : Int) (w : World) (rk : RV w kv ky) (rv : RV w vv vl) (hv : vl.length ≤ 20) (hn1 : 0 ≤ n) (hn2 : n ≤ 1000000) (hkey : keyB ky = true) (hn0 : 1 ≤ n) :
    Calls Try.prog 33 #[.agg #[.int .i64 6, kv, vv, .int .i64 n]] w fun e w' => e = .returned (.bool (opB ⟨6, ky, vl, n⟩)) ∧ Below w.heap.size w w' := by
  have hE : ∀ w : World, ∀ o, Ext w (w.alloc o) := fun w o => World.grownBy_alloc _ _ _
  have hB : ∀ w : World, ∀ o, Below w.heap.size w (w.alloc o) := fun w o => (Below.refl _ w).alloc (Nat.le_refl _) _
  have HV : Hid (decide (vl.length ≤ 20) = true) := by simpa [Hid] using hv
  have HI : Hid ((decide (0 ≤ n) && decide (n ≤ 1000000)) = true) := by unfold Hid; simp; omega
  have HB : Hid (opB ⟨6, ky, vl, n⟩ = true) := (opB_6 ky vl n).trans (b6_t (decide_eq_true hv) (decide_eq_true hn1) (decide_eq_true hn2) hkey rfl (decide_eq_true hn0))
  have HK : Hid (keyB ky = true) := hkey
  obtain ⟨ka, kc, rfl, hkd, _, hkm⟩ := id rk
  obtain ⟨va, vc, rfl, hvd, _, hvm⟩ := id rv
  have hkm1 : ky.length ≤ 9223372036854775807 := by unfold maxLen at hkm; omega
  clear hkey
  go_enter Try.func33, Try.ntmps33
  go_wp2_with (first | (go_at_call 29; refine (l2valV _ vl _ (rv.ext (hE _ _))).mono ?_; rintro e w1 ⟨rfl, rfl⟩; rw [HV.out]) | (go_at_call 27; refine (l2indexV _ _).mono ?_; rintro e w1 ⟨rfl, rfl⟩; rw [HI.out]) | (go_at_call 28; refine (l2keyV _ ky _ (rk.ext (hE _ _))).mono ?_; rintro e w1 ⟨rfl, rfl⟩; rw [HK.out]) | fail)
  go_ret
  exact ⟨by rw [HB.out]; rfl, hB _ _⟩

set_option maxHeartbeats 1000000 in
theorem opOk_6n1 (kv vv : Value) (ky vl : List Int) (n : Int) (w : World) (rk : RV w kv ky) (rv : RV w vv vl) (hv : vl.length ≤ 20) (hn1 : 0 ≤ n) (hn2 : n ≤ 1000000) (hkey : keyB ky = true) (hn0 : ¬ 1 ≤ n) :
    Calls Try.prog 33 #[.agg #[.int .i64 6, kv, vv, .int .i64 n]] w fun e w' => e = .returned (.bool (opB ⟨6, ky, vl, n⟩)) ∧ Below w.heap.size w w' := by
  have hE : ∀ w : World, ∀ o, Ext w (w.alloc o) := fun w o => World.grownBy_alloc _ _ _
  have hB : ∀ w : World, ∀ o, Below w.heap.size w (w.alloc o) := fun w o => (Below.refl _ w).alloc (Nat.le_refl _) _
  have HV : Hid (decide (vl.length ≤ 20) = true) := by simpa [Hid] using hv
  have HI : Hid ((decide (0 ≤ n) && decide (n ≤ 1000000)) = true) := by unfold Hid; simp; omega
  have HB : Hid (opB ⟨6, ky, vl, n⟩ = false) := (opB_6 ky vl n).trans (b6_6 (decide_eq_false hn0))
  have HK : Hid (keyB ky = true) := hkey
  have hd : decide (1 ≤ n) = false := decide_eq_false hn0
  obtain ⟨ka, kc, rfl, hkd, _, hkm⟩ := id rk
  obtain ⟨va, vc, rfl, hvd, _, hvm⟩ := id rv
  have hkm1 : ky.length ≤ 9223372036854775807 := by unfold maxLen at hkm; omega
  clear hkey
  go_enter Try.func33, Try.ntmps33
  go_wp2_with (first | (go_at_call 29; refine (l2valV _ vl _ (rv.ext (hE _ _))).mono ?_; rintro e w1 ⟨rfl, rfl⟩; rw [HV.out]) | (go_at_call 27; refine (l2indexV _ _).mono ?_; rintro e w1 ⟨rfl, rfl⟩; rw [HI.out]) | (go_at_call 28; refine (l2keyV _ ky _ (rk.ext (hE _ _))).mono ?_; rintro e w1 ⟨rfl, rfl⟩; rw [HK.out]) | fail)
  go_ret
  exact ⟨by rw [HB.out]; rfl, hB _ _⟩

set_option maxHeartbeats 1000000 in
theorem opOk_7kf (kv vv : Value) (ky vl : List Int) (n : Int) (w : World) (rk : RV w kv ky) (rv : RV w vv vl) (hv : vl.length ≤ 20) (hn1 : 0 ≤ n) (hn2 : n ≤ 1000000) (hkey : keyB ky = false) :
    Calls Try.prog 33 #[.agg #[.int .i64 7, kv, vv, .int .i64 n]] w fun e w' => e = .returned (.bool (opB ⟨7, ky, vl, n⟩)) ∧ Below w.heap.size w w' := by
  have hE : ∀ w : World, ∀ o, Ext w (w.alloc o) := fun w o => World.grownBy_alloc _ _ _
  have hB : ∀ w : World, ∀ o, Below w.heap.size w (w.alloc o) := fun w o => (Below.refl _ w).alloc (Nat.le_refl _) _
  have HV : Hid (decide (vl.length ≤ 20) = true) := by simpa [Hid] using hv
  have HI : Hid ((decide (0 ≤ n) && decide (n ≤ 1000000)) = true) := by unfold Hid; simp; omega
  have HB : Hid (opB ⟨7, ky, vl, n⟩ = false) := (opB_7 ky vl n).trans (b6_4 hkey)
  have HK : Hid (keyB ky = false) := hkey
  obtain ⟨ka, kc, rfl, hkd, _, hkm⟩ := id rk
  obtain ⟨va, vc, rfl, hvd, _, hvm⟩ := id rv
  have hkm1 : ky.length ≤ 9223372036854775807 := by unfold maxLen at hkm; omega
  clear hkey
  go_enter Try.func33, Try.ntmps33
  go_wp2_with (first | (go_at_call 29; refine (l2valV _ vl _ (rv.ext (hE _ _))).mono ?_; rintro e w1 ⟨rfl, rfl⟩; rw [HV.out]) | (go_at_call 27; refine (l2indexV _ _).mono ?_; rintro e w1 ⟨rfl, rfl⟩; rw [HI.out]) | (go_at_call 28; refine (l2keyV _ ky _ (rk.ext (hE _ _))).mono ?_; rintro e w1 ⟨rfl, rfl⟩; rw [HK.out]) | fail)
  go_ret
  exact ⟨by rw [HB.out]; rfl, hB _ _⟩

set_option maxHeartbeats 1000000 in
theorem opOk_7vf (kv vv : Value) (ky vl : List Int) (n : Int) (w : World) (rk : RV w kv ky) (rv : RV w vv vl) (hv : vl.length ≤ 20) (hn1 : 0 ≤ n) (hn2 : n ≤ 1000000) (hkey : keyB ky = true) (hval : 0 < vl.length) :
    Calls Try.prog 33 #[.agg #[.int .i64 7, kv, vv, .int .i64 n]] w fun e w' => e = .returned (.bool (opB ⟨7, ky, vl, n⟩)) ∧ Below w.heap.size w w' := by
  have hE : ∀ w : World, ∀ o, Ext w (w.alloc o) := fun w o => World.grownBy_alloc _ _ _
  have hB : ∀ w : World, ∀ o, Below w.heap.size w (w.alloc o) := fun w o => (Below.refl _ w).alloc (Nat.le_refl _) _
  have HV : Hid (decide (vl.length ≤ 20) = true) := by simpa [Hid] using hv
  have HI : Hid ((decide (0 ≤ n) && decide (n ≤ 1000000)) = true) := by unfold Hid; simp; omega
  have HB : Hid (opB ⟨7, ky, vl, n⟩ = false) := (opB_7 ky vl n).trans (b6_5 (decide_eq_false (by omega)))
  have HK : Hid (keyB ky = true) := hkey
  obtain ⟨ka, kc, rfl, hkd, _, hkm⟩ := id rk
  obtain ⟨va, vc, rfl, hvd, _, hvm⟩ := id rv
  have hkm1 : ky.length ≤ 9223372036854775807 := by unfold maxLen at hkm; omega
  have hval' : (0 : Int) < (vl.length : Int) := by omega
  clear hkey hval
  go_enter Try.func33, Try.ntmps33
  go_wp2_with (first | (go_at_call 29; refine (l2valV _ vl _ (rv.ext (hE _ _))).mono ?_; rintro e w1 ⟨rfl, rfl⟩; rw [HV.out]) | (go_at_call 27; refine (l2indexV _ _).mono ?_; rintro e w1 ⟨rfl, rfl⟩; rw [HI.out]) | (go_at_call 28; refine (l2keyV _ ky _ (rk.ext (hE _ _))).mono ?_; rintro e w1 ⟨rfl, rfl⟩; rw [HK.out]) | fail)
  go_ret
  exact ⟨by rw [HB.out]; rfl, hB _ _⟩

set_option maxHeartbeats 1000000 in
theorem opOk_7n0 (kv vv : Value) (ky vl : List Int) (n : Int) (w : World) (rk : RV w kv ky) (rv : RV w vv vl) (hv : vl.length ≤ 20) (hn1 : 0 ≤ n) (hn2 : n ≤ 1000000) (hkey : keyB ky = true) (hval : vl.length = 0) (hn0 : 1 ≤ n) :
    Calls Try.prog 33 #[.agg #[.int .i64 7, kv, vv, .int .i64 n]] w fun e w' => e = .returned (.bool (opB ⟨7, ky, vl, n⟩)) ∧ Below w.heap.size w w' := by
  have hE : ∀ w : World, ∀ o, Ext w (w.alloc o) := fun w o => World.grownBy_alloc _ _ _
  have hB : ∀ w : World, ∀ o, Below w.heap.size w (w.alloc o) := fun w o => (Below.refl _ w).alloc (Nat.le_refl _) _
  have HV : Hid (decide (vl.length ≤ 20) = true) := by simpa [Hid] using hv
  have HI : Hid ((decide (0 ≤ n) && decide (n ≤ 1000000)) = true) := by unfold Hid; simp; omega
  have HB : Hid (opB ⟨7, ky, vl, n⟩ = true) := (opB_7 ky vl n).trans (b6_t (decide_eq_true hv) (decide_eq_true hn1) (decide_eq_true hn2) hkey (decide_eq_true hval) (decide_eq_true hn0))
  have HK : Hid (keyB ky = true) := hkey
  obtain ⟨ka, kc, rfl, hkd, _, hkm⟩ := id rk
  obtain ⟨va, vc, rfl, hvd, _, hvm⟩ := id rv
  have hkm1 : ky.length ≤ 9223372036854775807 := by unfold maxLen at hkm; omega
  have hval' : ¬ (0 : Int) < (vl.length : Int) := by omega
  clear hkey hval
  go_enter Try.func33, Try.ntmps33
  go_wp2_with (first | (go_at_call 29; refine (l2valV _ vl _ (rv.ext (hE _ _))).mono ?_; rintro e w1 ⟨rfl, rfl⟩; rw [HV.out]) | (go_at_call 27; refine (l2indexV _ _).mono ?_; rintro e w1 ⟨rfl, rfl⟩; rw [HI.out]) | (go_at_call 28; refine (l2keyV _ ky _ (rk.ext (hE _ _))).mono ?_; rintro e w1 ⟨rfl, rfl⟩; rw [HK.out]) | fail)
  go_ret
  exact ⟨by rw [HB.out]; rfl, hB _ _⟩

set_option maxHeartbeats 1000000 in
theorem opOk_7n1 (kv vv : Value) (ky vl : List Int) (n : Int) (w : World) (rk : RV w kv ky) (rv : RV w vv vl) (hv : vl.length ≤ 20) (hn1 : 0 ≤ n) (hn2 : n ≤ 1000000) (hkey : keyB ky = true) (hval : vl.length = 0) (hn0 : ¬ 1 ≤ n) :
    Calls Try.prog 33 #[.agg #[.int .i64 7, kv, vv, .int .i64 n]] w fun e w' => e = .returned (.bool (opB ⟨7, ky, vl, n⟩)) ∧ Below w.heap.size w w' := by
  have hE : ∀ w : World, ∀ o, Ext w (w.alloc o) := fun w o => World.grownBy_alloc _ _ _
  have hB : ∀ w : World, ∀ o, Below w.heap.size w (w.alloc o) := fun w o => (Below.refl _ w).alloc (Nat.le_refl _) _
  have HV : Hid (decide (vl.length ≤ 20) = true) := by simpa [Hid] using hv
  have HI : Hid ((decide (0 ≤ n) && decide (n ≤ 1000000)) = true) := by unfold Hid; simp; omega
  have HB : Hid (opB ⟨7, ky, vl, n⟩ = false) := (opB_7 ky vl n).trans (b6_6 (decide_eq_false hn0))
  have HK : Hid (keyB ky = true) := hkey
  have hd : decide (1 ≤ n) = false := decide_eq_false hn0
  obtain ⟨ka, kc, rfl, hkd, _, hkm⟩ := id rk
  obtain ⟨va, vc, rfl, hvd, _, hvm⟩ := id rv
  have hkm1 : ky.length ≤ 9223372036854775807 := by unfold maxLen at hkm; omega
  have hval' : ¬ (0 : Int) < (vl.length : Int) := by omega
  clear hkey hval
  go_enter Try.func33, Try.ntmps33
  go_wp2_with (first | (go_at_call 29; refine (l2valV _ vl _ (rv.ext (hE _ _))).mono ?_; rintro e w1 ⟨rfl, rfl⟩; rw [HV.out]) | (go_at_call 27; refine (l2indexV _ _).mono ?_; rintro e w1 ⟨rfl, rfl⟩; rw [HI.out]) | (go_at_call 28; refine (l2keyV _ ky _ (rk.ext (hE _ _))).mono ?_; rintro e w1 ⟨rfl, rfl⟩; rw [HK.out]) | fail)
  go_ret
  exact ⟨by rw [HB.out]; rfl, hB _ _⟩

theorem opOkV (v : Value) (d : DOp) (w : World) (h : VOp w v d) :
    Calls Try.prog 33 #[v] w fun e w' => e = .returned (.bool (opB d)) ∧ Below w.heap.size w w' := by
  obtain ⟨kv, vv, rfl, rk, rv⟩ := h
  obtain ⟨kind, ky, vl, n⟩ := d
  simp only at rk rv ⊢
  by_cases hk : kind < 0 ∨ 7 < kind
  · exact opOk_kind kv vv ky vl n w rk rv kind hk
  by_cases hv : vl.length ≤ 20
  · by_cases hn : n < 0 ∨ 1000000 < n
    · exact opOk_n kv vv ky vl n w rk rv kind (by omega) (by omega) hv hn
    · have hn1 : 0 ≤ n := by omega
      have hn2 : n ≤ 1000000 := by omega
      rcases (show kind = 0 ∨ kind = 1 ∨ kind = 2 ∨ kind = 3 ∨ kind = 4 ∨ kind = 5 ∨ kind = 6 ∨ kind = 7 by omega) with rfl | rfl | rfl | rfl | rfl | rfl | rfl | rfl
      · by_cases hkey : 0 < ky.length
        · exact opOk_0kf kv vv ky vl n w rk rv hv hn1 hn2 hkey
        · have hkey' : ky.length = 0 := by omega
          by_cases hval : 0 < vl.length
          · exact opOk_0vf kv vv ky vl n w rk rv hv hn1 hn2 hkey' hval
          · have hval' : vl.length = 0 := by omega
            by_cases hn0 : n = 0
            · exact opOk_0n0 kv vv ky vl n w rk rv hv hn1 hn2 hkey' hval' hn0
            · exact opOk_0n1 kv vv ky vl n w rk rv hv hn1 hn2 hkey' hval' hn0
      · cases hkey : keyB ky with
        | false => exact opOk_1kf kv vv ky vl n w rk rv hv hn1 hn2 hkey
        | true =>
          by_cases hn0 : n = 0
          · exact opOk_1n0 kv vv ky vl n w rk rv hv hn1 hn2 hkey hn0
          · exact opOk_1n1 kv vv ky vl n w rk rv hv hn1 hn2 hkey hn0
      · cases hkey : keyB ky with
        | false => exact opOk_2kf kv vv ky vl n w rk rv hv hn1 hn2 hkey
        | true =>
          exact opOk_2n0 kv vv ky vl n w rk rv hv hn1 hn2 hkey
      · cases hkey : keyB ky with
        | false => exact opOk_3kf kv vv ky vl n w rk rv hv hn1 hn2 hkey
        | true =>
          by_cases hval : 0 < vl.length
          · exact opOk_3vf kv vv ky vl n w rk rv hv hn1 hn2 hkey hval
          · have hval' : vl.length = 0 := by omega
            by_cases hn0 : n = 0
            · exact opOk_3n0 kv vv ky vl n w rk rv hv hn1 hn2 hkey hval' hn0
            · exact opOk_3n1 kv vv ky vl n w rk rv hv hn1 hn2 hkey hval' hn0
      · by_cases hkey : 0 < ky.length
        · exact opOk_4kf kv vv ky vl n w rk rv hv hn1 hn2 hkey
        · have hkey' : ky.length = 0 := by omega
          by_cases hval : 0 < vl.length
          · exact opOk_4vf kv vv ky vl n w rk rv hv hn1 hn2 hkey' hval
          · have hval' : vl.length = 0 := by omega
            by_cases hn0 : n ≤ 1
            · exact opOk_4n0 kv vv ky vl n w rk rv hv hn1 hn2 hkey' hval' hn0
            · exact opOk_4n1 kv vv ky vl n w rk rv hv hn1 hn2 hkey' hval' hn0
      · by_cases hkey : 0 < ky.length
        · exact opOk_5kf kv vv ky vl n w rk rv hv hn1 hn2 hkey
        · have hkey' : ky.length = 0 := by omega
          by_cases hval : 0 < vl.length
          · exact opOk_5vf kv vv ky vl n w rk rv hv hn1 hn2 hkey' hval
          · have hval' : vl.length = 0 := by omega
            by_cases hn0 : 1 ≤ n
            · exact opOk_5n0 kv vv ky vl n w rk rv hv hn1 hn2 hkey' hval' hn0
            · exact opOk_5n1 kv vv ky vl n w rk rv hv hn1 hn2 hkey' hval' hn0
      · cases hkey : keyB ky with
        | false => exact opOk_6kf kv vv ky vl n w rk rv hv hn1 hn2 hkey
        | true =>
          by_cases hn0 : 1 ≤ n
          · exact opOk_6n0 kv vv ky vl n w rk rv hv hn1 hn2 hkey hn0
          · exact opOk_6n1 kv vv ky vl n w rk rv hv hn1 hn2 hkey hn0
      · cases hkey : keyB ky with
        | false => exact opOk_7kf kv vv ky vl n w rk rv hv hn1 hn2 hkey
        | true =>
          by_cases hval : 0 < vl.length
          · exact opOk_7vf kv vv ky vl n w rk rv hv hn1 hn2 hkey hval
          · have hval' : vl.length = 0 := by omega
            by_cases hn0 : 1 ≤ n
            · exact opOk_7n0 kv vv ky vl n w rk rv hv hn1 hn2 hkey hval' hn0
            · exact opOk_7n1 kv vv ky vl n w rk rv hv hn1 hn2 hkey hval' hn0
  · exact opOk_val kv vv ky vl n w rk rv kind (by omega) (by omega) hv

end Go.Proofs.Ytkmjgmpiclchdaa
