/- The program's kidsOk and TreeOk. -/
import Derived.Test.YtdeogmkcomdbjaaTe2
import Derived.Test.YtdeogmkcomdbjaaTe4
namespace Go.Proofs.Ytdeogmkcomdbjaa
open Go.RowKit

/-- It lies within. -/
def inT (n lo hi : Int) : Bool := decide (lo ≤ n) && decide (n ≤ hi)

set_option maxHeartbeats 1000000 in
theorem withinT (n lo hi : Int) (w : World) : Calls Try.prog 48 #[.int .i64 n, .int .i64 lo, .int .i64 hi] w fun e w' => e = .returned (.bool (inT n lo hi)) ∧ w' = w := by
  by_cases h0 : lo ≤ n
  · by_cases h1 : n ≤ hi
    · have HK : Hid (inT n lo hi = true) := by unfold Hid inT; simp [h0, h1]
      go_enter Try.func48, Try.ntmps48
      go_wp2
      go_ret
      exact ⟨by rw [HK.out]; rfl, rfl⟩
    · have HK : Hid (inT n lo hi = false) := by unfold Hid inT; simp [h1]
      have h1' : decide (n ≤ hi) = false := decide_eq_false h1
      go_enter Try.func48, Try.ntmps48
      go_wp2
      go_ret
      exact ⟨by rw [HK.out]; rfl, rfl⟩
  · have HK : Hid (inT n lo hi = false) := by unfold Hid inT; simp [h0]
    have h0' : decide (lo ≤ n) = false := decide_eq_false h0
    go_enter Try.func48, Try.ntmps48
    go_wp2
    go_ret
    exact ⟨by rw [HK.out]; rfl, rfl⟩

/-- A part's number may be. -/
def valP (h : Bool) (x : Int) : Bool := x == 0 || (h && inT x 0 2147483647)

set_option maxHeartbeats 1000000 in
theorem treeValV (ev kv : Value) (h : Bool) (x : Int) (w : World) : Calls Try.prog 42 #[.agg #[ev, .bool h, .int .i64 x, kv]] w fun e w' => e = .returned (.bool (valP h x)) ∧ ∃ o, w' = w.alloc o := by
  cases h
  · by_cases hx : x = 0
    · subst hx
      go_enter Try.func42, Try.ntmps42
      go_wp2_with fail
      go_ret
      exact ⟨rfl, _, rfl⟩
    · have hx' : (x == 0) = false := by simpa using hx
      go_enter Try.func42, Try.ntmps42
      go_wp2_with fail
      go_ret
      exact ⟨by simp [valP, hx'], _, rfl⟩
  · by_cases hx : x = 0
    · subst hx
      go_enter Try.func42, Try.ntmps42
      go_wp2_with fail
      go_ret
      exact ⟨rfl, _, rfl⟩
    · have hx' : (x == 0) = false := by simpa using hx
      go_enter Try.func42, Try.ntmps42
      go_wp2_with (go_at_call 48; refine (withinT _ _ _ _).mono ?_; rintro e w1 ⟨rfl, rfl⟩)
      go_ret
      exact ⟨by simp [valP, hx'], _, rfl⟩

theorem valP_iff {h : Bool} {x : Int} : valP h x = true ↔ ((h = false → x = 0) ∧ 0 ≤ x ∧ x ≤ 2147483647) := by
  unfold valP inT
  cases h
  · simp
    omega
  · simp
    omega

/-- What is asked of all below a part, at a depth, behind so many bytes, with so many parts ahead of it. -/
def KoP {d : Nat} (t : DTree d) (depth size P : Int) : Prop := kidsG t ∧ P + cntT t ≤ 200 ∧ depth + depT t ≤ 24 ∧ size + lngK t ≤ 20

/-- What kidsOk leaves. -/
def KoPost (w : World) (g : Nat) (Q : Prop) (cn : Int) (e : Ending) (w' : World) : Prop :=
  (e = .returned (.bool true) ∧ Q ∧ w.grownBy w' (some g) ∧ w'.cell? ⟨g, 0, none⟩ = some (.int .i64 cn) ∧ w'.frozen? ⟨g, 0, none⟩ = false) ∨ (e = .returned (.bool false) ∧ ¬ Q ∧ w.grownBy w' (some g))

abbrev KoSays {d : Nat} (t : DTree d) : Prop := ∀ (v : Value) (depth size P : Int) (g : Nat) (w0 w : World), VTree w0 t v → szT t ≤ 1048576 → Below w0.heap.size w0 w → w0.heap.size ≤ g → 0 ≤ depth → depth ≤ 25 → 0 ≤ size → size ≤ 2000000 → 0 ≤ P → P ≤ 200 → w.cell? ⟨g, 0, none⟩ = some (.int .i64 P) → w.frozen? ⟨g, 0, none⟩ = false →
  Calls Try.prog 43 #[v, .int .i64 depth, .int .i64 size, .pointer (some ⟨g, 0, none⟩)] w (KoPost w g (KoP t depth size P) (P + cntT t))

/-- The kids so far are as they should be. -/
structure K6k {d : Nat} (kid : Nat → DTree d) (depth size : Int) (k : Nat) : Prop where
  ok : ∀ i, i < k → ownOk false (kid i) ∧ kidsG (kid i) ∧ depth + 1 + depT (kid i) ≤ 24 ∧ size + (edT (kid i)).length + lngK (kid i) ≤ 20
  up : ∀ i, i + 1 < k → fstT (kid i) < fstT (kid (i + 1))
theorem K6k.next {d : Nat} {kid : Nat → DTree d} {depth size : Int} {k : Nat} (h : K6k kid depth size k) (h1 : ownOk false (kid k) ∧ kidsG (kid k) ∧ depth + 1 + depT (kid k) ≤ 24 ∧ size + (edT (kid k)).length + lngK (kid k) ≤ 20) (h2 : 0 < k → fstT (kid (k - 1)) < fstT (kid k)) : K6k kid depth size (k + 1) :=
  ⟨fun i hi => by
    by_cases e : i = k
    · subst e; exact h1
    · exact h.ok i (by omega), fun i hi => by
    by_cases e : i + 1 = k
    · have := h2 (by omega)
      rw [← e] at this
      simpa using this
    · exact h.up i (by omega)⟩
theorem K6k.done {d : Nat} {kid : Nat → DTree d} {depth size P : Int} {ed : List Int} {h : Bool} {x : Int} {n : Nat} (hk : K6k kid depth size n) (hd : depth ≤ 24) (hs : size ≤ 20) (hP : P + 1 + sumN n (fun i => cntT (kid i)) ≤ 200) : KoP (DTree.node ed h x n kid) depth size P := by
  refine ⟨⟨fun i hi => ⟨(hk.ok i hi).1, (hk.ok i hi).2.1⟩, hk.up⟩, ?_, ?_, ?_⟩
  · rw [cnt_node]; omega
  · have : depT (DTree.node ed h x n kid) ≤ (24 - depth).toNat := dep_all fun i hi => by
      have := (hk.ok i hi).2.2.1
      omega
    omega
  · have : lngK (DTree.node ed h x n kid) ≤ (20 - size).toNat := lng_all fun i hi => by
      have := (hk.ok i hi).2.2.2
      omega
    omega
theorem K6.badKid {d : Nat} {kid : Nat → DTree d} {depth size P : Int} {ed : List Int} {h : Bool} {x : Int} {n k : Nat} (hk : k < n) (hb : ¬ ownOk false (kid k) ∨ (0 < k ∧ fstT (kid k) ≤ fstT (kid (k - 1)))) : ¬ KoP (DTree.node ed h x n kid) depth size P := by
  rintro ⟨⟨h1, h2⟩, _⟩
  rcases hb with hb | ⟨h0, hb⟩
  · exact hb (h1 k hk).1
  · have := h2 (k - 1) (by omega)
    rw [show k - 1 + 1 = k by omega] at this
    omega
theorem K6.badRec {d : Nat} {kid : Nat → DTree d} {depth size P P' : Int} {ed : List Int} {h : Bool} {x : Int} {n k : Nat} (hk : k < n) (hP : P' = P + 1 + sumN k (fun i => cntT (kid i))) (hb : ¬ KoP (kid k) (depth + 1) (size + (edT (kid k)).length) P') : ¬ KoP (DTree.node ed h x n kid) depth size P := by
  rintro ⟨⟨h1, h2⟩, h3, h4, h5⟩
  refine hb ⟨(h1 k hk).2, ?_, ?_, ?_⟩
  · have := sumN_le (fun i => cntT (kid i)) (show k + 1 ≤ n by omega)
    simp only [sumN] at this
    rw [cnt_node] at h3
    omega
  · have := dep_kid (e := ed) (h := h) (x := x) (kid := kid) hk
    omega
  · have := lng_kid (e := ed) (h := h) (x := x) (kid := kid) hk
    omega

theorem cell_grown {w w' : World} {g b o : Nat} {v : Value} (h : w.grownBy w' (some g)) (hne : b ≠ g) (hc : w.cell? ⟨b, o, none⟩ = some v) : w'.cell? ⟨b, o, none⟩ = some v :=
  World.grownBy.cell h hc (by simpa using hne)

end Go.Proofs.Ytdeogmkcomdbjaa
