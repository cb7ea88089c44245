/- The contracts of the specification's and of the program's ItemOk. -/
import Derived.Test.YtdcbajejgphlgaaIt1
import Derived.Test.YtdcbajejgphlgaaCm2
import Derived.Test.YtdcbajejgphlgaaICmd
namespace Go.Proofs.Ytdcbajejgphlgaa
open Go.RowKit

/-- It may be an item. -/
def itemB (d : DItem) : Bool := inB d.term 1 100000 && cmdB d.cmd

set_option maxHeartbeats 2000000 in
theorem itemOkV (v : Value) (d : DItem) (w : World) (h : VItem w v d) :
    Calls Try.prog 37 #[v] w fun e w' => e = .returned (.bool (itemB d)) ∧ Below w.heap.size w w' := by
  obtain ⟨kv, vv, rfl, rk, rv⟩ := h
  obtain ⟨term, c⟩ := d
  simp only at rk rv ⊢
  have hE : ∀ w : World, ∀ o, Ext w (w.alloc o) := fun w o => World.grownBy_alloc _ _ _
  have hB : ∀ w : World, ∀ o, Below w.heap.size w (w.alloc o) := fun w o => (Below.refl _ w).alloc (Nat.le_refl _) _
  have HO : Hid (∀ o, Calls Try.prog 52 #[.agg #[.int .i64 c.client, .int .i64 c.req, .int .i64 c.op.kind, kv, vv, .int .i64 c.op.n]] (w.alloc o) fun e w' => e = .returned (.bool (cmdB c)) ∧ Below (w.alloc o).heap.size (w.alloc o) w') :=
    fun o => cmdOkV _ c _ ⟨kv, vv, rfl, rk.ext (hE _ _), rv.ext (hE _ _)⟩
  have HC : Hid (itemB ⟨term, c⟩ = (decide (1 ≤ term) && decide (term ≤ 100000) && cmdB c)) := by
    show (inB term 1 100000 && cmdB c) = _
    rfl
  clear rk rv
  generalize cmdB c = ob at HO HC
  by_cases h1 : 1 ≤ term
  · by_cases h2 : term ≤ 100000
    · go_enter Try.func37, Try.ntmps37
      go_wp2_with (go_at_call 52; refine (HO.out _).mono ?_; rintro e w1 ⟨rfl, b1⟩)
      go_ret
      exact ⟨by rw [HC.out]; simp [h1, h2], (hB _ _).trans (b1.mono (by simp))⟩
    · have d2 : decide (term ≤ 100000) = false := decide_eq_false h2
      go_enter Try.func37, Try.ntmps37
      go_wp2
      go_ret
      exact ⟨by rw [HC.out, d2]; simp, hB _ _⟩
  · have d1 : decide (1 ≤ term) = false := decide_eq_false h1
    go_enter Try.func37, Try.ntmps37
    go_wp2
    go_ret
    exact ⟨by rw [HC.out, d1]; simp, hB _ _⟩

set_option maxHeartbeats 2000000 in
theorem iItemOkV (v : Value) (d : DItem) (w : World) (h : VItem w v d) :
    Calls Try.prog 55 #[v] w fun e w' => e = .returned (.bool (itemB d)) ∧ Below w.heap.size w w' := by
  obtain ⟨kv, vv, rfl, rk, rv⟩ := h
  obtain ⟨term, c⟩ := d
  simp only at rk rv ⊢
  have hE : ∀ w : World, ∀ o, Ext w (w.alloc o) := fun w o => World.grownBy_alloc _ _ _
  have hB : ∀ w : World, ∀ o, Below w.heap.size w (w.alloc o) := fun w o => (Below.refl _ w).alloc (Nat.le_refl _) _
  have HO : Hid (∀ o, Calls Try.prog 63 #[.agg #[.int .i64 c.client, .int .i64 c.req, .int .i64 c.op.kind, kv, vv, .int .i64 c.op.n]] (w.alloc o) fun e w' => e = .returned (.bool (cmdB c)) ∧ Below (w.alloc o).heap.size (w.alloc o) w') :=
    fun o => iCmdOkV _ c _ ⟨kv, vv, rfl, rk.ext (hE _ _), rv.ext (hE _ _)⟩
  obtain ⟨c1, h1⟩ : ∃ c, c = inB term 1 100000 := ⟨_, rfl⟩
  have HC : Hid (itemB ⟨term, c⟩ = (c1 && cmdB c)) := by
    rw [h1]
    rfl
  have H1 : Hid (c1 = inB term 1 100000) := h1
  clear rk rv h1
  generalize cmdB c = ob at HO HC
  cases c1
  · go_enter Try.func55, Try.ntmps55
    go_wp2_with (go_at_call 44; refine (withinV _ _ _ _).mono ?_; rintro e w2 ⟨rfl, rfl⟩; rw [← H1.out])
    go_ret
    exact ⟨by rw [HC.out]; simp, hB _ _⟩
  · go_enter Try.func55, Try.ntmps55
    go_wp2_with (first
      | (go_at_call 44; refine (withinV _ _ _ _).mono ?_; rintro e w2 ⟨rfl, rfl⟩; rw [← H1.out])
      | (go_at_call 63; refine (HO.out _).mono ?_; rintro e w1 ⟨rfl, b1⟩))
    go_ret
    exact ⟨by rw [HC.out]; simp, (hB _ _).trans (b1.mono (by simp))⟩

end Go.Proofs.Ytdcbajejgphlgaa
